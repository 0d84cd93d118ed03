/- What is a word: l01Ok and readNested agree. -/
import Derived.Test.YtfaiifiohomdmaaNested
namespace Go.Proofs.Ytfaiifiohomdmaa
open Go.RowKit

theorem first_bad (l : List UInt8) (h : ¬ AllSym l) : ∃ (j : Nat) (b : UInt8), l[j]? = some b ∧ symNo b.toNat < 0 ∧ AllSym (l.take j) := by
  induction l with
  | nil => exact absurd (by intro b hb; cases hb) h
  | cons a l ih =>
    by_cases ha : 0 ≤ symNo a.toNat
    · have h' : ¬ AllSym l := fun hl => h (by
        intro b hb
        rcases List.mem_cons.1 hb with rfl | hb
        · exact ha
        · exact hl b hb)
      obtain ⟨j, b, h1, h2, h3⟩ := ih h'
      refine ⟨j + 1, b, by simpa using h1, h2, ?_⟩
      intro c hc
      rw [List.take_succ_cons] at hc
      rcases List.mem_cons.1 hc with rfl | hc
      · exact ha
      · exact h3 c hc
    · exact ⟨0, a, rfl, by omega, by intro c hc; simp at hc⟩

def IsW (s : ByteArray) : Prop := s.size ≤ 60 ∧ AllSym s.data.toList

end Go.Proofs.Ytfaiifiohomdmaa
