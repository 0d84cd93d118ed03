/- What calls leave (XPost0), with toChecker and the sizes. -/
import Derived.Test.YtdehehdcjfaefacConv
import Derived.Test.YtdehehdcjfaefacPost0
