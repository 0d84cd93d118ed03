/- Plain mathematics of the number of a matched word. -/
import Derived.Test.YtnclhgaikglbgaaPending
import Derived.Test.YtnclhgaikglbgaaTree
import Derived.Test.YtnclhgaikglbgaaWays
namespace Go.Proofs.Ytnclhgaikglbgaa
open Go.RowKit
set_option linter.unusedVariables false

theorem cR_mono (l : List UInt8) (ps : List Int) {k m : Nat} (h : k ≤ m) : cR l ps k ≤ cR l ps m := by
  induction m with
  | zero => obtain rfl : k = 0 := by omega
            exact Nat.le_refl _
  | succ m ih =>
    by_cases e : k = m + 1
    · subst e; exact Nat.le_refl _
    · exact Nat.le_trans (ih (by omega)) (by rw [cR]; omega)
theorem cC_mono (l : List UInt8) (ps : List Int) {k m : Nat} (h : k ≤ m) : cC l ps k ≤ cC l ps m := by
  induction m with
  | zero => obtain rfl : k = 0 := by omega
            exact Nat.le_refl _
  | succ m ih =>
    by_cases e : k = m + 1
    · subst e; exact Nat.le_refl _
    · exact Nat.le_trans (ih (by omega)) (by rw [cC]; omega)
/-- Nothing is pending in a matched word. -/
theorem matched_none {l : List UInt8} (hall : AllSym l) {n : Nat} (hn : n = l.length) (h : cR l (prts (ksOf l)) n + cC l (prts (ksOf l)) n = 0) : ∀ k : Nat, (prts (ksOf l))[k]? ≠ some (-2) := by
  intro k hk
  have hkl : k < l.length := by have := (List.getElem?_eq_some_iff.1 hk).1; rw [prts_len, ksOf_len] at this; exact this
  obtain ⟨b, hb⟩ : ∃ b, l[k]? = some b := ⟨_, List.getElem?_eq_getElem hkl⟩
  have hs := hall b (List.mem_of_getElem? hb)
  have hkk := ksOf_at l k b hb
  obtain ⟨c1, c2, c3⟩ := call_kind hs
  have hk2 : kindS (symNo (b.toNat : Int)) ≠ 2 := fun e => by
    have := prts_at_inner (ksOf l) k 2 (by rw [hkk, e]) (by decide) (by decide)
    rw [hk] at this
    simp at this
  have c4 := c3 hk2
  have m1 := cR_mono l (prts (ksOf l)) (show k + 1 ≤ n by omega)
  have m2 := cC_mono l (prts (ksOf l)) (show k + 1 ≤ n by omega)
  rw [cR, hb, Option.getD_some] at m1
  rw [cC, hb, Option.getD_some] at m2
  cases hc : callB (b.toNat : Int) with
  | true => rw [if_pos ⟨hk, hc⟩] at m2; omega
  | false => rw [hc] at c4; rw [if_pos ⟨hk, c4⟩] at m1; omega

/-- How many calls are open behind the first i places. -/
def dq (ks : List Nat) (i : Nat) : Nat := (opns (ks.take i)).length
theorem dq_zero (ks : List Nat) : dq ks 0 = 0 := rfl
theorem dq_le (ks : List Nat) (i : Nat) : dq ks i ≤ i := by
  unfold dq
  refine Nat.le_trans (opns_len _) ?_
  simp; omega
theorem dq_call {ks : List Nat} {i : Nat} (h : ks[i]? = some 0) : dq ks (i + 1) = dq ks i + 1 := by
  unfold dq
  rw [List.take_add_one, h, Option.toList_some, (prts_call _).2, List.length_append]; rfl
theorem dq_ret {ks : List Nat} {i : Nat} (h : ks[i]? = some 1) (hp : (prts ks)[i]? ≠ some (-2)) : 1 ≤ dq ks i ∧ dq ks (i + 1) = dq ks i - 1 := by
  unfold dq
  rw [List.take_add_one, h, Option.toList_some]
  rw [prts_at_ret ks i h] at hp
  cases hl : (opns (ks.take i)).getLast? with
  | none => rw [hl] at hp; exact absurd rfl hp
  | some a =>
    rw [(prts_ret_some _ a hl).2, List.length_dropLast]
    refine ⟨?_, rfl⟩
    cases ho : opns (ks.take i) with
    | nil => rw [ho] at hl; cases hl
    | cons x L => simp
theorem dq_in {ks : List Nat} {i x : Nat} (h : ks[i]? = some x) (h0 : x ≠ 0) (h1 : x ≠ 1) : dq ks (i + 1) = dq ks i := by
  unfold dq
  rw [List.take_add_one, h, Option.toList_some, (prts_inner _ x h0 h1).2]

/-- The symbol at a place, as a number. -/
def syN (l : List UInt8) (i : Nat) : Nat := (symNo ((l[i]?.getD 0).toNat : Int)).toNat
theorem syN_of {l : List UInt8} {i : Nat} {b : UInt8} (h : l[i]? = some b) (hs : 0 ≤ symNo (b.toNat : Int)) : (syN l i : Int) = symNo (b.toNat : Int) ∧ syN l i ≤ 5 := by
  unfold syN
  rw [h, Option.getD_some]
  have := symNo_le (b.toNat : Int)
  omega
/-- Behind a symbol of a matched word as many calls are open as the symbol says. -/
theorem dq_dn {l : List UInt8} (hall : AllSym l) (hm : ∀ k : Nat, (prts (ksOf l))[k]? ≠ some (-2)) {i : Nat} {b : UInt8} (h : l[i]? = some b) :
    dq (ksOf l) (i + 1) = dn (dq (ksOf l) i) (syN l i) ∧ (syN l i < 2 ∨ 4 ≤ syN l i ∨ 1 ≤ dq (ksOf l) i) := by
  have hs := hall b (List.mem_of_getElem? h)
  obtain ⟨e1, e2⟩ := syN_of h hs
  have hkk := ksOf_at l i b h
  rw [← e1] at hkk
  obtain ⟨s, hss⟩ : ∃ s, s = syN l i := ⟨_, rfl⟩
  rw [← hss] at e2 hkk ⊢
  obtain rfl | rfl | rfl | rfl | rfl | rfl : s = 0 ∨ s = 1 ∨ s = 2 ∨ s = 3 ∨ s = 4 ∨ s = 5 := by omega
  · exact ⟨dq_call (by rw [hkk]; rfl), .inl (by omega)⟩
  · exact ⟨dq_call (by rw [hkk]; rfl), .inl (by omega)⟩
  · obtain ⟨h1, h2⟩ := dq_ret (by rw [hkk]; rfl) (hm i)
    exact ⟨h2, .inr (.inr h1)⟩
  · obtain ⟨h1, h2⟩ := dq_ret (by rw [hkk]; rfl) (hm i)
    exact ⟨h2, .inr (.inr h1)⟩
  · exact ⟨dq_in (x := 2) (by rw [hkk]; rfl) (by decide) (by decide), .inr (.inl (by omega))⟩
  · exact ⟨dq_in (x := 2) (by rw [hkk]; rfl) (by decide) (by decide), .inr (.inl (by omega))⟩

/-- The number of a matched word, as far as its first i symbols tell. -/
def rk (l : List UInt8) : Nat → Nat
  | 0 => 0
  | i + 1 => rk l i + cbs (l.length - 1 - i) (dq (ksOf l) i) (syN l i)
theorem rk_le {l : List UInt8} (hl : l.length ≤ 20) (hall : AllSym l) : ∀ i, i ≤ l.length → rk l i ≤ i * 21936950640377856
  | 0, _ => Nat.zero_le _
  | i + 1, h => by
    have ih := rk_le hl hall i (by omega)
    obtain ⟨b, hb⟩ : ∃ b, l[i]? = some b := ⟨_, List.getElem?_eq_getElem (by omega)⟩
    have h6 := (syN_of hb (hall b (List.mem_of_getElem? hb))).2
    have := cbs_top (n := l.length - 1 - i) (by omega) (dq (ksOf l) i) (s := syN l i) (by omega)
    rw [rk]
    omega
end Go.Proofs.Ytnclhgaikglbgaa
