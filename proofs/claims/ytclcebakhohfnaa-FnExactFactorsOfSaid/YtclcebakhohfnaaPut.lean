/- PutAt, of the model and of the program. -/
import Derived.Test.YtclcebakhohfnaaJoin
import Derived.Test.YtclcebakhohfnaaPending
import Derived.Test.YtclcebakhohfnaaIn
import Derived.BigQuiet
import Derived.Deep.QuietTactic
namespace Go.Proofs.Ytclcebakhohfnaa
open Go.RowKit

/-- Whether a word is matched. -/
def mB (l : List UInt8) : Bool := decide (cR l (prts (ksOf l)) l.length + cC l (prts (ksOf l)) l.length = 0)
theorem mB_size (s : ByteArray) : mB s.data.toList = decide (cR s.data.toList (prts (ksOf s.data.toList)) s.size + cC s.data.toList (prts (ksOf s.data.toList)) s.size = 0) := by
  have hl : s.data.toList.length = s.size := by simp
  rw [mB, hl]

theorem spec_matched' (s : ByteArray) (w : World) (hw : IsW s) : Calls Try.prog 28 #[.string s] w (TupPost (.bool (mB s.data.toList)) w) := by
  rw [mB_size]; exact spec_matched s w hw
theorem matched_read' {s : ByteArray} {w w1 : World} {M : Nat} (h : IsW s) (hsy : w1.ownsRow w.heap.size 57 1 (.slice (some ⟨w.heap.size + 1 + 1, 0, none⟩) s.size s.size) s.size (symsV (symL s.data.toList)))
    (hps : w1.ownsRow w.heap.size 2 1 (.slice (some ⟨M, 0, none⟩) s.size s.size) s.size (numsV (prts (ksOf s.data.toList)))) {w2 : World} (hb : Below w1.heap.size w1 w2) :
    Calls Try.prog 31 #[.agg #[.slice (some ⟨w.heap.size + 1 + 1, 0, none⟩) s.size s.size, .slice (some ⟨M, 0, none⟩) s.size s.size]] w2 (TupPost (.bool (mB s.data.toList)) w2) := by
  rw [mB_size]; exact matched_read h hsy hps hb

def putW (s u : ByteArray) (k : Nat) : ByteArray := s.extract 0 k ++ u ++ s.extract k s.size

theorem slice_to (s : ByteArray) (k : Nat) (h : k ≤ s.size) : ∀ W : World, (Instr.slice 9 (.string s) none (some (.int .i64 (k : Int))) none).run Try.prog W = .ok (.string (s.extract 0 k)) W := fun W => by
  have := run_slice_string_h (P := Try.prog) (w := W) (t := 9) (s := s) Try.underlying9 .i64 (k : Int) (by omega) (by omega)
  rwa [Int.toNat_natCast] at this
theorem slice_from (s : ByteArray) (k : Nat) (h : k ≤ s.size) : ∀ W : World, (Instr.slice 9 (.string s) (some (.int .i64 (k : Int))) none none).run Try.prog W = .ok (.string (s.extract k s.size)) W := fun W => by
  have := run_slice_string_l (P := Try.prog) (w := W) (t := 9) (s := s) Try.underlying9 .i64 (k : Int) (by omega) (by omega)
  rwa [Int.toNat_natCast] at this

def putV (c : Int) : Value := .tuple #[.string ⟨#[]⟩, .int .i64 c]

/-! The model's other ways. -/
theorem cell_nested {w1 w2 : World} {v0 v1 : Value} (hb : Below (w1.alloc (.cells #[v0, v1] 50)).heap.size (w1.alloc (.cells #[v0, v1] 50)) w2) :
    w2.cell? ⟨w1.heap.size, 0, none⟩ = some v0 ∧ w2.cell? ⟨w1.heap.size, 1, none⟩ = some v1 := by
  exact ⟨(hb.cell (p := ⟨w1.heap.size, 0, none⟩) (by simp)).trans (by simp [go_sem]), (hb.cell (p := ⟨w1.heap.size, 1, none⟩) (by simp)).trans (by simp [go_sem])⟩

end Go.Proofs.Ytclcebakhohfnaa
