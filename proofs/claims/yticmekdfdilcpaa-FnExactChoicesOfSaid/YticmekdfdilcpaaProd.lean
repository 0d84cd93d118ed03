/- productOf and sideBySide of the program: what a function makes of each pair of elements. -/
import Derived.Test.YticmekdfdilcpaaMapped
import Derived.Test.YticmekdfdilcpaaProdM
import Derived.Test.YticmekdfdilcpaaGrown
import Derived.Test.YticmekdfdilcpaaFree2
namespace Go.Proofs.Yticmekdfdilcpaa
open Go.RowKit
set_option linter.unusedVariables false
theorem cellL {w W : World} {p : Addr} {v : Value} (h : w.cell? p = some v) (hb : Below w.heap.size w W) : W.cell? p = some v := (hb.cell (World.block_lt_of_cell? _ _ h)).trans h

end Go.Proofs.Yticmekdfdilcpaa
