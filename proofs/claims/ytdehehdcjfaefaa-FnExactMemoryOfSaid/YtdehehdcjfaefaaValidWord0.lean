/- The program's ValidWord. -/
import Derived.Test.YtdehehdcjfaefaaWord
namespace Go.Proofs.Ytdehehdcjfaefaa
open Go.RowKit

end Go.Proofs.Ytdehehdcjfaefaa
