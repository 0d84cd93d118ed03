/- l00In: whether a number lies between two. -/
import Derived.Test.YtkpajompmmfkjaaRows
import Derived.WalkKit
import Derived.ProofKit
import Derived.OpenShut
import Derived.WalkLawsBesides
namespace Go.Proofs.Ytkpajompmmfkjaa
open Go.RowKit

end Go.Proofs.Ytkpajompmmfkjaa
