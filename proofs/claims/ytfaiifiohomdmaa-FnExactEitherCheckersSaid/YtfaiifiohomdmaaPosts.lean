/- What calls leave (XPost0), with toChecker and the sizes. -/
import Derived.Test.YtfaiifiohomdmaaConv
import Derived.Test.YtfaiifiohomdmaaPost0
