/- What calls leave (XPost0), with toChecker and the sizes. -/
import Derived.Test.YtglbmmgancecnaaDoorConv
import Derived.Test.YtglbmmgancecnaaDoorPost0
