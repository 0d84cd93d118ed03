/- The law's own small functions on lists of texts: markText, eqStringS, markStringS, heldStringS. -/
import Derived.Test.YtfaiifiohomdmaaMatch
import Derived.Laws.IdiomStrings
import Derived.BigQuiet
import Derived.Deep.QuietTactic
import Derived.Deep.RegionWith
namespace Go.Proofs.Ytfaiifiohomdmaa
open Go.RowKit

def dgB (k : Nat) : UInt8 := UInt8.ofNat (48 + k % 10)
/-- The digits of a number. -/
def dg (k : Nat) : List UInt8 := if _h : k = 0 then [] else dg (k / 10) ++ [dgB k]
termination_by k
decreasing_by omega
theorem dg_zero : dg 0 = [] := by rw [dg]; simp
theorem dg_pos {k : Nat} (h : 0 < k) : dg k = dg (k / 10) ++ [dgB k] := by
  conv => lhs; rw [dg]
  rw [dif_neg (by omega)]
theorem dg_len (k : Nat) : (dg k).length ≤ k := by
  induction k using Nat.strongRecOn with
  | ind k ih =>
    by_cases h : 0 < k
    · rw [dg_pos h, List.length_append, List.length_singleton]
      have := ih (k / 10) (by omega)
      omega
    · obtain rfl : k = 0 := by omega
      rw [dg_zero]; exact Nat.le_refl _
def mtL (k : Nat) : List UInt8 := if k = 0 then [109, 48] else 109 :: dg k
def mtS (k : Nat) : ByteArray := ⟨(mtL k).toArray⟩

def strsV (xs : List ByteArray) : List Value := xs.map .string
theorem info_str : (Try.prog.info? 9).map (fun i => (i.zero, i.size, i.bytes)) = some (some (.string ⟨#[]⟩), 1, 16) := by kernel_rfl

/-- A slice of texts that reads as a list. -/
def Strs (w : World) (A : Option Addr) (n : Nat) (xs : List ByteArray) : Prop :=
  xs.length = n ∧ (0 < n → ∃ g, A = some ⟨g, 0, none⟩ ∧ g < w.heap.size ∧ ∀ (j : Nat) (x : ByteArray), xs[j]? = some x → w.cell? ⟨g, j, none⟩ = some (.string x))
theorem Strs.of_row {w : World} {base : Nat} {A : Option Addr} {n c : Nat} {xs : List ByteArray} (h : w.ownsRow base 9 1 (.slice A n c) n (strsV xs)) : Strs w A n xs := by
  refine ⟨by have := h.1; simpa [strsV] using this, fun hn => ?_⟩
  rcases h.2 with ⟨h0, h1⟩ | ⟨g, cap, cur, hv, _⟩
  · omega
  · simp only [Value.slice.injEq] at hv
    obtain ⟨rfl, _, rfl⟩ := hv
    refine ⟨g, rfl, (h.lt g rfl).2, fun j x hx => ?_⟩
    have hj : j < n := by
      have := (List.getElem?_eq_some_iff.1 hx).1
      have hl := h.1
      simp [strsV] at hl
      omega
    rw [h.cellAt j (by omega)]
    simp [strsV, hx]
theorem Strs.at_ {w : World} {A : Option Addr} {n : Nat} {xs : List ByteArray} (h : Strs w A n xs) (k : Nat) (hk : k < n) : ∃ g x, A = some ⟨g, 0, none⟩ ∧ xs[k]? = some x ∧ g < w.heap.size ∧ w.cell? ⟨g, k, none⟩ = some (.string x) := by
  obtain ⟨g, e, hg, hc⟩ := h.2 (by omega)
  have hl : k < xs.length := by have := h.1; omega
  exact ⟨g, xs[k], e, List.getElem?_eq_getElem hl, hg, hc k _ (List.getElem?_eq_getElem hl)⟩

/-- m1, m2, m3 and so on. -/
def rampS (n : Nat) : List ByteArray := (List.range n).map fun i : Nat => mtS (i + 1)
theorem rampS_len (n : Nat) : (rampS n).length = n := by simp [rampS]
theorem rampS_succ (n : Nat) : rampS (n + 1) = rampS n ++ [mtS (n + 1)] := by simp [rampS, List.range_succ]
theorem rampS_at (n k : Nat) (h : k < n) : (rampS n)[k]? = some (mtS (k + 1)) := by simp [rampS, h]

theorem grown_trans {x y z : World} {row : Option Nat} (h : x.grownBy y row) (k : y.grownBy z row) : x.grownBy z row :=
  ⟨k.os.trans h.os, k.tape.trans h.tape, k.output.trans h.output, Nat.le_trans h.size k.size, fun b hb hne => (k.block b (Nat.lt_of_lt_of_le hb h.size) hne).trans (h.block b hb hne)⟩
theorem grown_below {x y : World} (h : Below x.heap.size x y) (row : Option Nat) : x.grownBy y row := ⟨h.os, h.tape, h.output, h.size, fun b hb _ => h.block b hb⟩

structure MarkRelS (w : World) (base n : Nat) (A : Option Addr) (c : Nat) (xs : List ByteArray) (j : Nat) (wr : World) : Prop where
  row : wr.ownsRow base 9 1 (.slice A n c) n (strsV (rampS j ++ xs.drop j))
  grown : w.grownBy wr (Value.slice A n c).ownBlock
theorem MarkRelS.next {w wr w2 : World} {base n g c : Nat} {xs : List ByteArray} {j : Nat} (h : MarkRelS w base n (some ⟨g, 0, none⟩) c xs j wr) (hx : xs.length = n) (hj : j < n) (hb : Below wr.heap.size wr w2) :
    MarkRelS w base n (some ⟨g, 0, none⟩) c xs (j + 1) (w2.setCell ⟨g, j, none⟩ (.string (mtS (j + 1)))) := by
  have h1 := (row_below h.row hb).stored j (.string (mtS (j + 1)))
  refine ⟨?_, grown_trans (grown_trans h.grown (grown_below hb _)) h1.2⟩
  have e : (strsV (rampS j ++ xs.drop j)).set j (.string (mtS (j + 1))) = strsV (rampS (j + 1) ++ xs.drop (j + 1)) := by
    unfold strsV
    rw [← List.map_set, List.set_append_right _ _ (by rw [rampS_len]; exact Nat.le_refl _), rampS_len, Nat.sub_self, rampS_succ, List.append_assoc, List.singleton_append]
    rw [List.drop_eq_getElem_cons (by omega)]
    rfl
  rw [e] at h1
  exact h1.1

end Go.Proofs.Ytfaiifiohomdmaa
