/- The program's ValidWord. -/
import Derived.Test.YtdehehdcjfaefacWord
namespace Go.Proofs.Ytdehehdcjfaefac
open Go.RowKit

end Go.Proofs.Ytdehehdcjfaefac
