/- What calls leave (XPost0), with toChecker and the sizes. -/
import Derived.Test.YtkpajompmmfkjaaConv
import Derived.Test.YtkpajompmmfkjaaPost0
