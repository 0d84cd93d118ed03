/- The table of counts: plain mathematics of how it is filled, and of its cells. -/
import Derived.Test.YtjelmiladekfjaaWays
import Derived.WalkKit
namespace Go.Proofs.Ytjelmiladekfjaa
open Go.RowKit

/-- What the table holds while the row l is filled: the places in front of o are done, that at o has the texts that go on with one of the first s symbols. -/
def tabF (l o s i : Nat) : Int :=
  if i / 22 < l then (wy (i / 22) (i % 22) : Int) else if i / 22 = l then (if i % 22 < o then (wy l (i % 22) : Int) else if i % 22 = o then (cbs (l - 1) o s : Int) else 0) else 0
def tabA (l o s : Nat) : Array Value := ((List.range 462).map fun i => Value.int .i64 (tabF l o s i)).toArray
theorem tabA_size (l o s : Nat) : (tabA l o s).size = 462 := by simp [tabA]
theorem tabA_at {l o s i : Nat} (h : i < 462) : (tabA l o s)[i]? = some (.int .i64 (tabF l o s i)) := by
  simp [tabA, h]
theorem tabA_done {l o s r d : Nat} (hr : r < l) (hl : r ≤ 20) (hd : d ≤ 21) : (tabA l o s)[r * 22 + d]? = some (.int .i64 (wy r d : Int)) := by
  rw [tabA_at (by omega)]
  unfold tabF
  rw [show (r * 22 + d) / 22 = r by omega, show (r * 22 + d) % 22 = d by omega, if_pos hr]
theorem tabA_here {l o s : Nat} (hl : l ≤ 20) (ho : o ≤ 21) : (tabA l o s)[l * 22 + o]? = some (.int .i64 (cbs (l - 1) o s : Int)) := by
  rw [tabA_at (by omega)]
  unfold tabF
  rw [show (l * 22 + o) / 22 = l by omega, show (l * 22 + o) % 22 = o by omega, if_neg (by omega), if_pos rfl, if_neg (by omega), if_pos rfl]
theorem tabA_ext {l o s l' o' s' : Nat} (h : ∀ i, i < 462 → tabF l o s i = tabF l' o' s' i) : tabA l o s = tabA l' o' s' := by
  unfold tabA
  congr 1
  exact List.map_congr_left fun i hi => by rw [h i (List.mem_range.1 hi)]
theorem tabA_more {l o s : Nat} (hl : l ≤ 20) (ho : o ≤ 21) : (tabA l o s).setIfInBounds (l * 22 + o) (.int .i64 ((cbs (l - 1) o s : Int) + (cb (l - 1) o s : Int))) = tabA l o (s + 1) := by
  apply Array.ext_getElem?
  intro i
  rw [Array.getElem?_setIfInBounds, tabA_size]
  by_cases hi : i < 462
  · rw [tabA_at hi, tabA_at hi]
    by_cases e : l * 22 + o = i
    · subst e
      rw [if_pos rfl, if_pos (by omega)]
      unfold tabF
      rw [show (l * 22 + o) / 22 = l by omega, show (l * 22 + o) % 22 = o by omega, if_neg (by omega), if_pos rfl, if_neg (by omega), if_pos rfl, cbs]
      simp
    · rw [if_neg e]
      unfold tabF
      by_cases h1 : i / 22 < l
      · rw [if_pos h1, if_pos h1]
      · rw [if_neg h1, if_neg h1]
        by_cases h2 : i / 22 = l
        · rw [if_pos h2, if_pos h2]
          by_cases h3 : i % 22 < o
          · rw [if_pos h3, if_pos h3]
          · rw [if_neg h3, if_neg h3, if_neg (by omega), if_neg (by omega)]
        · rw [if_neg h2, if_neg h2]
  · rw [if_neg (by omega), Array.getElem?_eq_none (by rw [tabA_size]; omega), Array.getElem?_eq_none (by rw [tabA_size]; omega)]
theorem tabA_next {l o : Nat} (hl : 1 ≤ l) : tabA l o 6 = tabA l (o + 1) 0 := tabA_ext fun i hi => by
  unfold tabF
  by_cases h1 : i / 22 < l
  · rw [if_pos h1, if_pos h1]
  · rw [if_neg h1, if_neg h1]
    by_cases h2 : i / 22 = l
    · rw [if_pos h2, if_pos h2, cbs_six, show l - 1 + 1 = l by omega]
      by_cases h3 : i % 22 < o
      · rw [if_pos h3, if_pos (by omega)]
      · rw [if_neg h3]
        by_cases h4 : i % 22 = o
        · rw [if_pos h4, if_pos (by omega), h4]
        · rw [if_neg h4, if_neg (by omega)]
          split <;> rfl
    · rw [if_neg h2, if_neg h2]
theorem tabA_row {l : Nat} (hl : l ≤ 20) : tabA l 21 0 = tabA (l + 1) 0 0 := tabA_ext fun i hi => by
  unfold tabF
  by_cases h1 : i / 22 < l
  · rw [if_pos h1, if_pos (by omega)]
  · rw [if_neg h1]
    by_cases h2 : i / 22 = l
    · rw [if_pos h2, if_pos (show i / 22 < l + 1 by omega), h2]
      by_cases h3 : i % 22 < 21
      · rw [if_pos h3]
      · have h4 : i % 22 = 21 := by omega
        rw [if_neg h3, if_pos h4, h4, wy_zero l 21 (by omega)]; rfl
    · rw [if_neg h2, if_neg (by omega)]
      by_cases h3 : i / 22 = l + 1
      · rw [if_pos h3, if_neg (by omega)]
        split <;> rfl
      · rw [if_neg h3]
theorem tabA_first : (Array.replicate 462 (.int .i64 0) : Array Value).setIfInBounds 0 (.int .i64 1) = tabA 1 0 0 := by
  apply Array.ext_getElem?
  intro i
  rw [Array.getElem?_setIfInBounds]
  simp only [Array.size_replicate]
  by_cases hi : i < 462
  · rw [tabA_at hi, Array.getElem?_replicate, if_pos hi]
    by_cases e : 0 = i
    · subst e; rw [if_pos rfl, if_pos (by omega)]; rfl
    · rw [if_neg e]
      unfold tabF
      by_cases h1 : i / 22 < 1
      · rw [if_pos h1, show i / 22 = 0 by omega, wy_zero 0 (i % 22) (by omega)]; rfl
      · rw [if_neg h1]
        split
        · rw [if_neg (by omega)]
          split <;> rfl
        · rfl
  · rw [if_neg (by omega), Array.getElem?_eq_none (by simp; omega), Array.getElem?_eq_none (by rw [tabA_size]; omega)]
theorem wy_wrap {n d : Nat} (h : n ≤ 20) : (wy n d : Int) ≤ 3656158440062976 := by have := wy_top h d; omega
end Go.Proofs.Ytjelmiladekfjaa
