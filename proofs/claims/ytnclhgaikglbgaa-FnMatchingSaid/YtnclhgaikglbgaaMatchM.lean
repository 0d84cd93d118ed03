/- Plain mathematics of the law FnMatching: turned words; what is matched. -/
import Derived.Test.YtnclhgaikglbgaaHgt
import Derived.Test.YtnclhgaikglbgaaRankM
import Derived.Test.YtnclhgaikglbgaaTurn
import Derived.Test.YtnclhgaikglbgaaCore
namespace Go.Proofs.Ytnclhgaikglbgaa
open Go.RowKit
set_option linter.unusedVariables false

/-- The bytes of the turned word. -/
def turnL (l : List UInt8) : List UInt8 := (l.map turnB).reverse
theorem turnL_len (l : List UInt8) : (turnL l).length = l.length := by simp [turnL]
theorem turnB_sym {b : UInt8} (h : 0 ≤ symNo (b.toNat : Int)) : 0 ≤ symNo ((turnB b).toNat : Int) ∧ kindS (symNo ((turnB b).toNat : Int)) = turnK (kindS (symNo (b.toNat : Int))) ∧ turnB (turnB b) = b := by
  rcases valid_byte h with rfl | rfl | rfl | rfl | rfl | rfl <;> decide
theorem turnL_all {l : List UInt8} (h : AllSym l) : AllSym (turnL l) := fun b hb => by
  simp only [turnL, List.mem_reverse, List.mem_map] at hb
  obtain ⟨x, hx, rfl⟩ := hb
  exact (turnB_sym (h x hx)).1
theorem turnL_turnL {l : List UInt8} (h : AllSym l) : turnL (turnL l) = l := by
  unfold turnL
  rw [List.map_reverse, List.reverse_reverse, List.map_map]
  have : ∀ x ∈ l, (turnB ∘ turnB) x = x := fun x hx => (turnB_sym (h x hx)).2.2
  rw [List.map_congr_left this]
  simp
theorem turnL_ks {l : List UInt8} (h : AllSym l) : ksOf (turnL l) = turnKs (ksOf l) := by
  unfold turnL turnKs ksOf
  rw [List.map_reverse, List.map_map, List.map_map]
  congr 1
  exact List.map_congr_left fun x hx => (turnB_sym (h x hx)).2.1

/-- A word of which nothing is pending is matched. -/
theorem none_matched (l : List UInt8) {ps : List Int} (h : ∀ k : Nat, ps[k]? ≠ some (-2)) : ∀ n, cR l ps n + cC l ps n = 0
  | 0 => rfl
  | n + 1 => by
    have ih := none_matched l h n
    rw [cR, cC, if_neg (fun e => h n e.1), if_neg (fun e => h n e.1)]
    exact ih
/-- The part of a word between two places. -/
theorem ext_list (s : ByteArray) (a b : Nat) : (s.extract a b).data.toList = (s.data.toList.take b).drop a := by
  simp [ByteArray.data_extract, List.extract_eq_take_drop, List.drop_take]
theorem ext_isW {s : ByteArray} (h : IsW s) (a b : Nat) (hb : b ≤ s.size) : IsW (s.extract a b) := by
  refine ⟨by rw [ByteArray.size_extract]; have := h.1; omega, fun x hx => ?_⟩
  rw [ext_list] at hx
  exact h.2 x (List.mem_of_mem_take (List.mem_of_mem_drop hx))
theorem ks_part (l : List UInt8) (a b : Nat) : ksOf ((l.take b).drop a) = ((ksOf l).take b).drop a := by
  simp [ksOf, List.map_drop, List.map_take]
/-- How many are pending, in all. -/
theorem pend_sum {l : List UInt8} (hall : AllSym l) (k : Nat) (hk : k ≤ l.length) : (pend (symL l) (prts (ksOf l)) k).length = ((pend (symL l) (prts (ksOf l)) k).filter fun x => !callS x.1.2).length + ((pend (symL l) (prts (ksOf l)) k).filter fun x => callS x.1.2).length := by
  generalize pend (symL l) (prts (ksOf l)) k = L
  induction L with
  | nil => rfl
  | cons x L ih => cases hx : callS x.1.2 <;> simp [hx, ih] <;> omega
/-- What a place of the word is, by its partner. -/
theorem place_cases {l : List UInt8} (hall : AllSym l) {k : Nat} {b : UInt8} (hb : l[k]? = some b) :
    ∃ p : Int, (prts (ksOf l))[k]? = some p ∧
      ((callB (b.toNat : Int) = true ∧ retB (b.toNat : Int) = false ∧ ((∃ m : Nat, p = (m : Int) ∧ HM (ksOf l) k m) ∨ p = -2)) ∨
       (callB (b.toNat : Int) = false ∧ retB (b.toNat : Int) = true ∧ ((∃ a : Nat, p = (a : Int) ∧ HM (ksOf l) a k) ∨ p = -2)) ∨
       (callB (b.toNat : Int) = false ∧ retB (b.toNat : Int) = false ∧ p = -1)) := by
  have hs := hall b (List.mem_of_getElem? hb)
  have hkk := ksOf_at l k b hb
  have hcr : ∀ n : Int, callB n = true → retB n = false := fun n h => by simp only [callB, retB, decide_eq_true_eq, decide_eq_false_iff_not] at h ⊢; omega
  rcases prts_cases (ksOf l) hkk with ⟨e, h⟩ | ⟨e, h⟩ | ⟨e0, e1, h⟩
  · have hc : callB (b.toNat : Int) = true := by
      cases hc : callB (b.toNat : Int) with
      | true => rfl
      | false =>
        cases hd : retB (b.toNat : Int) with
        | true => rw [kind_ret hd] at e; cases e
        | false => rcases kind_in hc hd with h | h <;> omega
    rcases h with ⟨m, hm⟩ | ⟨h, _⟩
    · exact ⟨_, hm.at_call, .inl ⟨hc, hcr _ hc, .inl ⟨m, rfl, hm⟩⟩⟩
    · exact ⟨_, h, .inl ⟨hc, hcr _ hc, .inr rfl⟩⟩
  · have hc : callB (b.toNat : Int) = false := by
      cases hc : callB (b.toNat : Int) with
      | false => rfl
      | true => rw [kind_call hc] at e; cases e
    have hd : retB (b.toNat : Int) = true := by
      cases hd : retB (b.toNat : Int) with
      | true => rfl
      | false => rcases kind_in hc hd with h | h <;> omega
    rcases h with ⟨m, hm⟩ | ⟨h, _⟩
    · exact ⟨_, hm.at_ret, .inr (.inl ⟨hc, hd, .inl ⟨m, rfl, hm⟩⟩)⟩
    · exact ⟨_, h, .inr (.inl ⟨hc, hd, .inr rfl⟩)⟩
  · have hc : callB (b.toNat : Int) = false := by
      cases hc : callB (b.toNat : Int) with
      | false => rfl
      | true => exact absurd (kind_call hc) e0
    have hd : retB (b.toNat : Int) = false := by
      cases hd : retB (b.toNat : Int) with
      | false => rfl
      | true => exact absurd (kind_ret hd) e1
    exact ⟨_, h, .inr (.inr ⟨hc, hd, rfl⟩)⟩
end Go.Proofs.Ytnclhgaikglbgaa
