/- What calls leave (XPost0), with toChecker and the sizes. -/
import Derived.Test.YtmkamodmnplclaaConv
import Derived.Test.YtmkamodmnplclaaPost0
