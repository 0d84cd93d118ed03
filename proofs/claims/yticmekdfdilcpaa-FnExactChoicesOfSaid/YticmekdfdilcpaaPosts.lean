/- What calls leave (XPost0), with toChecker and the sizes. -/
import Derived.Test.YticmekdfdilcpaaConv
import Derived.Test.YticmekdfdilcpaaPost0
