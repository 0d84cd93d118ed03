/- What calls leave (XPost0), with toChecker and the sizes. -/
import Derived.Test.YtdehehdcjfaefadConv
import Derived.Test.YtdehehdcjfaefadPost0
