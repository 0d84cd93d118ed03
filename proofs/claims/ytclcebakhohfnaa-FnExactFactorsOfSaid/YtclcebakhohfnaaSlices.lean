/- The law's own small functions on lists of numbers: eqInt64S, markInt64S, heldInt64S. -/
import Derived.Test.YtclcebakhohfnaaMatch
import Derived.BigQuiet
import Derived.Deep.QuietTactic
namespace Go.Proofs.Ytclcebakhohfnaa
open Go.RowKit

/-- A slice of numbers that reads as a list: nil, or cells at its address. -/
def Nums (w : World) (A : Option Addr) (n : Nat) (xs : List Int) : Prop :=
  xs.length = n ∧ (0 < n → ∃ g, A = some ⟨g, 0, none⟩ ∧ g < w.heap.size ∧ ∀ (j : Nat) (x : Int), xs[j]? = some x → w.cell? ⟨g, j, none⟩ = some (.int .i64 x))

theorem Nums.of_row {w : World} {base : Nat} {A : Option Addr} {n c : Nat} {xs : List Int} (h : w.ownsRow base 2 1 (.slice A n c) n (numsV xs)) : Nums w A n xs := by
  refine ⟨by have := h.1; simpa [numsV] using this, fun hn => ?_⟩
  rcases h.2 with ⟨h0, h1⟩ | ⟨g, cap, cur, hv, _⟩
  · omega
  · simp only [Value.slice.injEq] at hv
    obtain ⟨rfl, _, rfl⟩ := hv
    refine ⟨g, rfl, (h.lt g rfl).2, fun j x hx => ?_⟩
    have hj : j < n := by
      have := (List.getElem?_eq_some_iff.1 hx).1
      have hl := h.1
      simp [numsV] at hl
      omega
    rw [h.cellAt j (by omega)]
    simp [numsV, hx]

theorem Nums.below {w w' : World} {A : Option Addr} {n : Nat} {xs : List Int} (h : Nums w A n xs) (hb : Below w.heap.size w w') : Nums w' A n xs :=
  ⟨h.1, fun hn => by
    obtain ⟨g, e, hg, hc⟩ := h.2 hn
    exact ⟨g, e, Nat.lt_of_lt_of_le hg hb.size, fun j x hx => (hb.cell (p := ⟨g, j, none⟩) hg).trans (hc j x hx)⟩⟩

theorem Nums.at_ {w : World} {A : Option Addr} {n : Nat} {xs : List Int} (h : Nums w A n xs) (k : Nat) (hk : k < n) : ∃ g x, A = some ⟨g, 0, none⟩ ∧ xs[k]? = some x ∧ w.cell? ⟨g, k, none⟩ = some (.int .i64 x) := by
  obtain ⟨g, e, _, hc⟩ := h.2 (by omega)
  have hl : k < xs.length := by have := h.1; omega
  exact ⟨g, xs[k], e, List.getElem?_eq_getElem hl, hc k _ (List.getElem?_eq_getElem hl)⟩

/-- 1, 2, 3 and so on. -/
def ramp (n : Nat) : List Int := (List.range n).map fun i : Nat => (i : Int) + 1
theorem ramp_len (n : Nat) : (ramp n).length = n := by simp [ramp]
theorem ramp_succ (n : Nat) : ramp (n + 1) = ramp n ++ [(n : Int) + 1] := by simp [ramp, List.range_succ]
theorem ramp_at (n k : Nat) (h : k < n) : (ramp n)[k]? = some ((k : Int) + 1) := by simp [ramp, h]

structure MarkRel (w : World) (base n : Nat) (A : Option Addr) (c : Nat) (xs : List Int) (j : Nat) (wr : World) : Prop where
  row : wr.ownsRow base 2 1 (.slice A n c) n (numsV (ramp j ++ xs.drop j))
  grown : w.grownBy wr (Value.slice A n c).ownBlock

theorem MarkRel.next {w wr : World} {base n g c : Nat} {xs : List Int} {j : Nat} (h : MarkRel w base n (some ⟨g, 0, none⟩) c xs j wr) (hx : xs.length = n) (hj : j < n) :
    MarkRel w base n (some ⟨g, 0, none⟩) c xs (j + 1) (wr.setCell ⟨g, j, none⟩ (.int .i64 ((j : Int) + 1))) := by
  have h1 := h.row.stored j (.int .i64 ((j : Int) + 1))
  refine ⟨?_, ?_⟩
  · have e : (numsV (ramp j ++ xs.drop j)).set j (.int .i64 ((j : Int) + 1)) = numsV (ramp (j + 1) ++ xs.drop (j + 1)) := by
      unfold numsV
      rw [← List.map_set, List.set_append_right _ _ (by rw [ramp_len]; exact Nat.le_refl _), ramp_len, Nat.sub_self, ramp_succ, List.append_assoc, List.singleton_append]
      rw [List.drop_eq_getElem_cons (by omega)]
      rfl
    rw [e] at h1
    exact h1.1
  · have g1 := h.grown
    have g2 := h1.2
    exact ⟨g2.os.trans g1.os, g2.tape.trans g1.tape, g2.output.trans g1.output, Nat.le_trans g1.size g2.size, fun k hk hne => (g2.block k (Nat.lt_of_lt_of_le hk g1.size) hne).trans (g1.block k hk hne)⟩

/-- What lies behind a call that answers a new list of numbers and a code. -/
def NumsPost (n : Nat) (xs : List Int) (code : Int) (w : World) (e : Ending) (w' : World) : Prop :=
  ∃ A c, e = .returned (.tuple #[.slice A n c, .int .i64 code]) ∧ w'.ownsRow w.heap.size 2 1 (.slice A n c) n (numsV xs) ∧ Below w.heap.size w w'
end Go.Proofs.Ytclcebakhohfnaa
