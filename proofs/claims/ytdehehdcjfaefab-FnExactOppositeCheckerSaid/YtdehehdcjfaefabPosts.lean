/- What calls leave (XPost0), with toChecker and the sizes. -/
import Derived.Test.YtdehehdcjfaefabConv
import Derived.Test.YtdehehdcjfaefabPost0
