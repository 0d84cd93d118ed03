/- withStates at all states: nothing changes. -/
import Derived.Test.YtdehehdcjfaefabWith3
import Derived.Test.YtdehehdcjfaefabValid
namespace Go.Proofs.Ytdehehdcjfaefab
open Go.RowKit
set_option linter.unusedVariables false

/-- All states, in their order. -/
def idL (n : Nat) : List Int := (List.range n).map fun i : Nat => (i : Int)
theorem idL_len (n : Nat) : (idL n).length = n := by simp [idL]
theorem idL_at {n i : Nat} (h : i < n) : (idL n)[i]? = some (i : Int) := by simp [idL, h]
theorem idL_in (n : Nat) : InL n (idL n) := by
  intro x hx
  simp only [idL, List.mem_map, List.mem_range] at hx
  obtain ⟨i, hi, rfl⟩ := hx
  omega
theorem numsT_id (n : Nat) : ∀ k, k ≤ n → ∀ i, i < n → (numsT n (idL n) k)[i]? = some (if i < k then (i : Int) else 0)
  | 0, _, i, hi => by simp [numsT, hi]
  | k + 1, hk, i, hi => by
    have hk' : (idL n).getD k 0 = (k : Int) := by rw [List.getD_eq_getElem?_getD, idL_at (by omega)]; rfl
    rw [numsT, hk', Int.toNat_natCast]
    by_cases e : k = i
    · subst e
      rw [List.getElem?_set_self (by rw [numsT_len]; omega), if_pos (by omega)]
    · rw [List.getElem?_set_ne e, numsT_id n k (by omega) i hi]
      by_cases hik : i < k
      · rw [if_pos hik, if_pos (by omega)]
      · rw [if_neg hik, if_neg (by omega)]
theorem numAt_id {n : Nat} {s : Int} (h : 0 ≤ s ∧ s < n) : numAt (numsT n (idL n) n) s = s := by
  obtain ⟨k, rfl⟩ := Int.eq_ofNat_of_zero_le h.1
  have hk : k < n := by omega
  rw [numAt_of (numsT_id n n (Nat.le_refl _) k hk), if_pos hk]
theorem map_getD {α β : Type} {xs : List α} {n : Nat} (h : xs.length = n) (d : α) (g : α → β) : ((idL n).map fun s => g (xs.getD s.toNat d)) = xs.map g := by
  apply List.ext_getElem?
  intro i
  rw [List.getElem?_map, List.getElem?_map]
  by_cases hi : i < n
  · rw [idL_at hi, Option.map_some, Int.toNat_natCast, List.getD_eq_getElem?_getD, List.getElem?_eq_getElem (by omega)]; rfl
  · rw [List.getElem?_eq_none (by rw [idL_len]; omega), List.getElem?_eq_none (by omega)]; rfl
theorem map_same {α : Type} {xs : List α} {g : α → α} (h : ∀ x ∈ xs, g x = x) : xs.map g = xs := by
  induction xs with
  | nil => rfl
  | cons x xs ih => rw [List.map_cons, h x (List.mem_cons_self ..), ih fun y hy => h y (List.mem_cons_of_mem _ hy)]
theorem wsC_id {c : Ck} (h : GoesIn c) : wsC c (idL c.accept.length) = c := by
  obtain ⟨s0, s1, ac, ca, re, inn⟩ := c
  obtain ⟨hn, hst, lc, lr, li, hc, hr, hi⟩ := h
  dsimp only at hn hst lc lr li hc hr hi
  have e1 : numAt (numsT ac.length (idL ac.length) ac.length) s1 = s1 := numAt_id hst
  have e2 : ((idL ac.length).map fun s => ac.getD s.toNat false) = ac := by
    have := map_getD (xs := ac) rfl false (fun x => x)
    rw [List.map_id'] at this
    exact this
  have e3 : ((idL ac.length).map fun s => (ca.getD s.toNat []).map (numP (numsT ac.length (idL ac.length) ac.length))) = ca := by
    rw [map_getD lc [] (fun y => y.map (numP (numsT ac.length (idL ac.length) ac.length)))]
    exact map_same fun x hx => map_same fun p hp => by
      unfold numP
      rw [numAt_id (hc x hx p hp)]
  have e4 : ((idL ac.length).map fun s => (re.getD s.toNat []).map fun y => y.map (numAt (numsT ac.length (idL ac.length) ac.length))) = re := by
    rw [map_getD lr [] (fun z => z.map fun y => y.map (numAt (numsT ac.length (idL ac.length) ac.length)))]
    exact map_same fun x hx => map_same fun y hy => map_same fun p hp => numAt_id (hr x hx y hy p hp)
  have e5 : ((idL ac.length).map fun s => (inn.getD s.toNat []).map (numAt (numsT ac.length (idL ac.length) ac.length))) = inn := by
    rw [map_getD li [] (fun y => y.map (numAt (numsT ac.length (idL ac.length) ac.length)))]
    exact map_same fun x hx => map_same fun p hp => numAt_id (hi x hx p hp)
  simp only [wsC, idL_len, e1, e2, e3, e4, e5]
end Go.Proofs.Ytdehehdcjfaefab
