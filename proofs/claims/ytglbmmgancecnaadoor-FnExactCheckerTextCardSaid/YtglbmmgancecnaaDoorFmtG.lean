/- strconv.FormatInt of the library at base 10, at every number that is not negative. -/
import Derived.Test.YtglbmmgancecnaaDoorDecG
import Derived.Test.YtglbmmgancecnaaDoorLayF
import Derived.Shelf.Unicode.PredsPay
namespace Go.Proofs.YtglbmmgancecnaaDoor
open Go.RowKit
set_option linter.unusedVariables false
/-- The table of powers lies as the library lays it. -/
def Pow10 (w : World) : Prop := Lib.TabIs Tryd.prog w "internal/strconv.uint64pow10" .u64 Lib.pow10Tab
theorem Pow10.later {w w' : World} (h : Pow10 w) (hb : Below w.heap.size w w') : Pow10 w' :=
  TabIs_below (g := 0) (by kernel_rfl) h hb
theorem fmt_decG (n : Nat) (hn : n ≤ 9223372036854775807) (w : World) (ht : Pow10 w) : Calls Tryd.prog 42 #[.int .i64 (n : Int), .int .i64 10] w (TupPost (.string (decS n)) w) :=
  (Any.strconv_FormatInt_10 Tryd.laysF (n : Int) (by omega) (by omega) w ht).mono fun e w' ⟨h1, k, os, h2⟩ => by
    subst h2
    have e1 : Lib.itoa (n : Int) = Lib.decDigits n := by
      unfold Lib.itoa
      rw [if_neg (by omega)]
      simp
    rw [e1] at h1
    exact ⟨h1, Lib.below_grow _ w (Nat.le_refl _) k os⟩
end Go.Proofs.YtglbmmgancecnaaDoor
