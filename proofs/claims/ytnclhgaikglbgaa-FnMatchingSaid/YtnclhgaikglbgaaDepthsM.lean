/- Plain mathematics of depths: open calls are counted. -/
import Derived.Test.YtnclhgaikglbgaaRankM
import Derived.Test.YtnclhgaikglbgaaDepths
namespace Go.Proofs.Ytnclhgaikglbgaa
open Go.RowKit
set_option linter.unusedVariables false

theorem dAt_dq (ks : List Nat) : ∀ k, dAt ks k = dq ks k
  | 0 => rfl
  | k + 1 => by
    have ih := dAt_dq ks k
    cases h : ks[k]? with
    | none =>
      have e1 : dAt ks (k + 1) = dAt ks k := by rw [dAt, List.take_add_one, h]; simp [dAt]
      have e2 : dq ks (k + 1) = dq ks k := by unfold dq; rw [List.take_add_one, h]; simp
      rw [e1, e2, ih]
    | some x =>
      rw [dAt_succ h, ih]
      by_cases h0 : x = 0
      · subst h0; rw [dq_call h]; rfl
      · by_cases h1 : x = 1
        · subst h1
          unfold dstep dq
          rw [if_neg (by decide), if_pos rfl, List.take_add_one, h, Option.toList_some]
          cases hl : (opns (ks.take k)).getLast? with
          | none => rw [(prts_ret_none _ (List.getLast?_eq_none_iff.1 hl)).2, List.getLast?_eq_none_iff.1 hl]; rfl
          | some b => rw [(prts_ret_some _ b hl).2, List.length_dropLast]
        · rw [dq_in h h0 h1]; unfold dstep; rw [if_neg h0, if_neg h1]

/-- How many numbers below k are in a list that has none of them twice. -/
def cntIn (L : List Nat) : Nat → Nat
  | 0 => 0
  | k + 1 => cntIn L k + if k ∈ L then 1 else 0
theorem countP_step : ∀ (L : List Nat) (k : Nat), L.Nodup → L.countP (fun x => decide (x < k + 1)) = L.countP (fun x => decide (x < k)) + if k ∈ L then 1 else 0
  | [], _, _ => by simp
  | x :: L, k, hn => by
    have hx := List.nodup_cons.1 hn
    have ih := countP_step L k hx.2
    rw [List.countP_cons, List.countP_cons, ih]
    by_cases e : k = x
    · subst e
      rw [if_neg hx.1, if_pos (List.mem_cons_self ..)]
      simp
    · have e2 : (k ∈ x :: L) ↔ k ∈ L := by simp [e]
      have e3 : (x < k + 1) ↔ x < k := by omega
      simp only [e2, e3]
      omega
theorem cntIn_all {L : List Nat} (hn : L.Nodup) : ∀ k, cntIn L k = L.countP (fun x => decide (x < k))
  | 0 => by simp [cntIn]
  | k + 1 => by rw [cntIn, cntIn_all hn k, countP_step L k hn]
/-- The pending calls are those that are open in the end. -/
theorem cC_open {l : List UInt8} (hall : AllSym l) : cC l (prts (ksOf l)) l.length = dq (ksOf l) l.length := by
  have hP : ∀ k, k ≤ l.length → cC l (prts (ksOf l)) k = cntIn (opns (ksOf l)) k := by
    intro k hk
    induction k with
    | zero => rfl
    | succ k ih =>
      rw [cC, cntIn, ih (by omega)]
      obtain ⟨b, hb⟩ : ∃ b, l[k]? = some b := ⟨_, List.getElem?_eq_getElem (by omega)⟩
      have hs := hall b (List.mem_of_getElem? hb)
      have hkk := ksOf_at l k b hb
      obtain ⟨c1, c2, c3⟩ := call_kind hs
      rw [hb, Option.getD_some]
      congr 1
      by_cases hm : k ∈ opns (ksOf l)
      · have h0 := opns_call (ksOf l) k hm
        rw [hkk] at h0
        have h0' := Option.some.inj h0
        have hc : callB (b.toNat : Int) = true := by
          rw [c1]
          unfold kindS at h0'
          by_cases h : symNo (b.toNat : Int) ≤ 1
          · exact decide_eq_true h
          · rw [if_neg h] at h0'
            split at h0' <;> omega
        have hp : (prts (ksOf l))[k]? = some (-2) := by
          rcases call_is (ksOf l) k (by rw [hkk]; exact congrArg some (Option.some.inj h0)) with h | h
          · exact h.2
          · exact absurd hm h.1
        rw [if_pos ⟨hp, hc⟩, if_pos hm]
      · rw [if_neg hm, if_neg]
        rintro ⟨hp, hc⟩
        rcases call_is (ksOf l) k (by rw [hkk, kind_call hc]) with h | h
        · exact hm h.1
        · obtain ⟨_, m, _, _, h3⟩ := h
          rw [hp] at h3
          have := Option.some.inj h3
          omega
  rw [hP _ (Nat.le_refl _), cntIn_all ((opns_up _).imp (fun h => Nat.ne_of_lt h))]
  unfold dq
  rw [show (ksOf l).take l.length = ksOf l from by rw [← ksOf_len l, List.take_length]]
  rw [List.countP_eq_length]
  intro a ha
  have := opns_lt (ksOf l) a ha
  rw [ksOf_len] at this
  simpa using this
end Go.Proofs.Ytnclhgaikglbgaa
