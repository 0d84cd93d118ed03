/- The program's ValidWord. -/
import Derived.Test.YtfaiifiohomdmaaWord
namespace Go.Proofs.Ytfaiifiohomdmaa
open Go.RowKit

end Go.Proofs.Ytfaiifiohomdmaa
