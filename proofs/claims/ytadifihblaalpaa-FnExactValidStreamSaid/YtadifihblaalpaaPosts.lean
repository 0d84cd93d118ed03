/- What calls leave (XPost0), with toChecker and the sizes. -/
import Derived.Test.YtadifihblaalpaaConv
import Derived.Test.YtadifihblaalpaaPost0
