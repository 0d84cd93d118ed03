/- What calls leave (XPost0), with toChecker and the sizes. -/
import Derived.Test.YtcboalnpbmnfcaaConv
import Derived.Test.YtcboalnpbmnfcaaPost0
