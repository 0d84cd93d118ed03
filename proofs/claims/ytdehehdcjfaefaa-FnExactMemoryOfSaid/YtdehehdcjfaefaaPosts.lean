/- What calls leave (XPost0), with toChecker and the sizes. -/
import Derived.Test.YtdehehdcjfaefaaConv
import Derived.Test.YtdehehdcjfaefaaPost0
