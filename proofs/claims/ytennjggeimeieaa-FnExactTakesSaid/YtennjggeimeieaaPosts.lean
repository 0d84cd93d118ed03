/- What calls leave (XPost0), with toChecker and the sizes. -/
import Derived.Test.YtennjggeimeieaaConv
import Derived.Test.YtennjggeimeieaaPost0
