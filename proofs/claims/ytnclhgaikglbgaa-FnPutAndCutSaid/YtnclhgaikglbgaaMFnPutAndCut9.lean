import Derived.Test.YtnclhgaikglbgaaMFnPutAndCut8
import Derived.Test.YtnclhgaikglbgaaMFnPutAndCut6
import Derived.Test.YtnclhgaikglbgaaMFnPutAndCut7
import Derived.Test.YtnclhgaikglbgaaRows
import Derived.WalkKit
import Derived.ProofKit
import Derived.OpenShut
import Derived.WalkLawsBesides
/- Plain mathematics of depths: open calls are counted. -/
namespace Go.Proofs.Ytnclhgaikglbgaa
open Go.RowKit
set_option linter.unusedVariables false

theorem dAt_dq (ks : List Nat) : ∀ k, dAt ks k = dq ks k
  | 0 => rfl
  | k + 1 => by
    have ih := dAt_dq ks k
    cases h : ks[k]? with
    | none =>
      have e1 : dAt ks (k + 1) = dAt ks k := by rw [dAt, List.take_add_one, h]; simp [dAt]
      have e2 : dq ks (k + 1) = dq ks k := by unfold dq; rw [List.take_add_one, h]; simp
      rw [e1, e2, ih]
    | some x =>
      rw [dAt_succ h, ih]
      by_cases h0 : x = 0
      · subst h0; rw [dq_call h]; rfl
      · by_cases h1 : x = 1
        · subst h1
          unfold dstep dq
          rw [if_neg (by decide), if_pos rfl, List.take_add_one, h, Option.toList_some]
          cases hl : (opns (ks.take k)).getLast? with
          | none => rw [(prts_ret_none _ (List.getLast?_eq_none_iff.1 hl)).2, List.getLast?_eq_none_iff.1 hl]; rfl
          | some b => rw [(prts_ret_some _ b hl).2, List.length_dropLast]
        · rw [dq_in h h0 h1]; unfold dstep; rw [if_neg h0, if_neg h1]

/-- How many numbers below k are in a list that has none of them twice. -/
def cntIn (L : List Nat) : Nat → Nat
  | 0 => 0
  | k + 1 => cntIn L k + if k ∈ L then 1 else 0
theorem countP_step : ∀ (L : List Nat) (k : Nat), L.Nodup → L.countP (fun x => decide (x < k + 1)) = L.countP (fun x => decide (x < k)) + if k ∈ L then 1 else 0
  | [], _, _ => by simp
  | x :: L, k, hn => by
    have hx := List.nodup_cons.1 hn
    have ih := countP_step L k hx.2
    rw [List.countP_cons, List.countP_cons, ih]
    by_cases e : k = x
    · subst e
      rw [if_neg hx.1, if_pos (List.mem_cons_self ..)]
      simp
    · have e2 : (k ∈ x :: L) ↔ k ∈ L := by simp [e]
      have e3 : (x < k + 1) ↔ x < k := by omega
      simp only [e2, e3]
      omega
theorem cntIn_all {L : List Nat} (hn : L.Nodup) : ∀ k, cntIn L k = L.countP (fun x => decide (x < k))
  | 0 => by simp [cntIn]
  | k + 1 => by rw [cntIn, cntIn_all hn k, countP_step L k hn]
/-- The pending calls are those that are open in the end. -/
theorem cC_open {l : List UInt8} (hall : AllSym l) : cC l (prts (ksOf l)) l.length = dq (ksOf l) l.length := by
  have hP : ∀ k, k ≤ l.length → cC l (prts (ksOf l)) k = cntIn (opns (ksOf l)) k := by
    intro k hk
    induction k with
    | zero => rfl
    | succ k ih =>
      rw [cC, cntIn, ih (by omega)]
      obtain ⟨b, hb⟩ : ∃ b, l[k]? = some b := ⟨_, List.getElem?_eq_getElem (by omega)⟩
      have hs := hall b (List.mem_of_getElem? hb)
      have hkk := ksOf_at l k b hb
      obtain ⟨c1, c2, c3⟩ := call_kind hs
      rw [hb, Option.getD_some]
      congr 1
      by_cases hm : k ∈ opns (ksOf l)
      · have h0 := opns_call (ksOf l) k hm
        rw [hkk] at h0
        have h0' := Option.some.inj h0
        have hc : callB (b.toNat : Int) = true := by
          rw [c1]
          unfold kindS at h0'
          by_cases h : symNo (b.toNat : Int) ≤ 1
          · exact decide_eq_true h
          · rw [if_neg h] at h0'
            split at h0' <;> omega
        have hp : (prts (ksOf l))[k]? = some (-2) := by
          rcases call_is (ksOf l) k (by rw [hkk]; exact congrArg some (Option.some.inj h0)) with h | h
          · exact h.2
          · exact absurd hm h.1
        rw [if_pos ⟨hp, hc⟩, if_pos hm]
      · rw [if_neg hm, if_neg]
        rintro ⟨hp, hc⟩
        rcases call_is (ksOf l) k (by rw [hkk, kind_call hc]) with h | h
        · exact hm h.1
        · obtain ⟨_, m, _, _, h3⟩ := h
          rw [hp] at h3
          have := Option.some.inj h3
          omega
  rw [hP _ (Nat.le_refl _), cntIn_all ((opns_up _).imp (fun h => Nat.ne_of_lt h))]
  unfold dq
  rw [show (ksOf l).take l.length = ksOf l from by rw [← ksOf_len l, List.take_length]]
  rw [List.countP_eq_length]
  intro a ha
  have := opns_lt (ksOf l) a ha
  rw [ksOf_len] at this
  simpa using this
end Go.Proofs.Ytnclhgaikglbgaa
/- A completed word is matched: heights. -/
namespace Go.Proofs.Ytnclhgaikglbgaa
set_option linter.unusedVariables false

theorem dq_ret_none {ks : List Nat} {i : Nat} (h : ks[i]? = some 1) (hp : (prts ks)[i]? = some (-2)) : dq ks i = 0 ∧ dq ks (i + 1) = 0 := by
  rw [prts_at_ret ks i h] at hp
  cases hl : (opns (ks.take i)).getLast? with
  | some c =>
    rw [hl] at hp
    have e : (c : Int) = -2 := Option.some.inj hp
    omega
  | none =>
    have he := List.getLast?_eq_none_iff.1 hl
    refine ⟨by unfold dq; rw [he]; rfl, ?_⟩
    unfold dq
    rw [List.take_add_one, h, Option.toList_some, (prts_ret_none _ he).2]; rfl
/-- The height is what is open less the pending returns so far. -/
theorem hgt_cR {l : List UInt8} (hall : AllSym l) : ∀ k, k ≤ l.length → hgt (ksOf l) k = (dq (ksOf l) k : Int) - (cR l (prts (ksOf l)) k : Nat)
  | 0, _ => rfl
  | k + 1, hk => by
    have ih := hgt_cR hall k (by omega)
    obtain ⟨b, hb⟩ : ∃ b, l[k]? = some b := ⟨_, List.getElem?_eq_getElem (by omega)⟩
    have hx : (ksOf l)[k]? = some (kindS (symNo (b.toNat : Int))) := by rw [ksOf, List.getElem?_map, hb]; rfl
    have hs := hall b (List.mem_of_getElem? hb)
    have u0 : upK 0 = 1 := rfl
    have u1 : upK 1 = -1 := rfl
    have u2 : upK 2 = 0 := rfl
    have hR : cR l (prts (ksOf l)) (k + 1) = cR l (prts (ksOf l)) k + if (prts (ksOf l))[k]? = some (-2) ∧ retB (b.toNat : Int) = true then 1 else 0 := by rw [cR, hb]; rfl
    have call : ∀ b : UInt8, kindS (symNo (b.toNat : Int)) = 0 → retB (b.toNat : Int) = false → (ksOf l)[k]? = some (kindS (symNo (b.toNat : Int))) → cR l (prts (ksOf l)) (k + 1) = cR l (prts (ksOf l)) k + (if (prts (ksOf l))[k]? = some (-2) ∧ retB (b.toNat : Int) = true then 1 else 0) →
        hgt (ksOf l) (k + 1) = (dq (ksOf l) (k + 1) : Int) - (cR l (prts (ksOf l)) (k + 1) : Nat) := fun b h1 h2 h3 h4 => by
      rw [h1] at h3
      rw [h2, if_neg (by simp)] at h4
      rw [hgt_succ h3, dq_call h3, h4, ih]; omega
    have ret : ∀ b : UInt8, kindS (symNo (b.toNat : Int)) = 1 → retB (b.toNat : Int) = true → (ksOf l)[k]? = some (kindS (symNo (b.toNat : Int))) → cR l (prts (ksOf l)) (k + 1) = cR l (prts (ksOf l)) k + (if (prts (ksOf l))[k]? = some (-2) ∧ retB (b.toNat : Int) = true then 1 else 0) →
        hgt (ksOf l) (k + 1) = (dq (ksOf l) (k + 1) : Int) - (cR l (prts (ksOf l)) (k + 1) : Nat) := fun b h1 h2 h3 h4 => by
      rw [h1] at h3
      by_cases hp : (prts (ksOf l))[k]? = some (-2)
      · rw [if_pos ⟨hp, h2⟩] at h4
        obtain ⟨d1, d2⟩ := dq_ret_none h3 hp
        rw [hgt_succ h3, h4, ih, d1, d2]; omega
      · rw [if_neg (fun e => hp e.1)] at h4
        obtain ⟨d1, d2⟩ := dq_ret h3 hp
        rw [hgt_succ h3, h4, ih, d2]; omega
    have inn : ∀ b : UInt8, kindS (symNo (b.toNat : Int)) = 2 → retB (b.toNat : Int) = false → (ksOf l)[k]? = some (kindS (symNo (b.toNat : Int))) → cR l (prts (ksOf l)) (k + 1) = cR l (prts (ksOf l)) k + (if (prts (ksOf l))[k]? = some (-2) ∧ retB (b.toNat : Int) = true then 1 else 0) →
        hgt (ksOf l) (k + 1) = (dq (ksOf l) (k + 1) : Int) - (cR l (prts (ksOf l)) (k + 1) : Nat) := fun b h1 h2 h3 h4 => by
      rw [h1] at h3
      rw [h2, if_neg (by simp)] at h4
      rw [hgt_succ h3, dq_in h3 (by decide) (by decide), h4, ih]; omega
    rcases six_byte hs with rfl | rfl | rfl | rfl | rfl | rfl
    · exact call _ rfl rfl hx hR
    · exact call _ rfl rfl hx hR
    · exact ret _ rfl rfl hx hR
    · exact ret _ rfl rfl hx hR
    · exact inn _ rfl rfl hx hR
    · exact inn _ rfl rfl hx hR

/-- The core counts the pending places. -/
theorem core_counts {l : List UInt8} (hall : AllSym l) (ps : List Int) : ∀ k, k ≤ l.length → ((coreL l ps k).filter fun b => retB (b.toNat : Int)).length = cR l ps k ∧ ((coreL l ps k).filter fun b => callB (b.toNat : Int)).length = cC l ps k
  | 0, _ => ⟨rfl, rfl⟩
  | k + 1, hk => by
    obtain ⟨i1, i2⟩ := core_counts hall ps k (by omega)
    obtain ⟨b, hb⟩ : ∃ b, l[k]? = some b := ⟨_, List.getElem?_eq_getElem (by omega)⟩
    have hR : cR l ps (k + 1) = cR l ps k + if ps[k]? = some (-2) ∧ retB (b.toNat : Int) = true then 1 else 0 := by rw [cR, hb]; rfl
    have hC : cC l ps (k + 1) = cC l ps k + if ps[k]? = some (-2) ∧ callB (b.toNat : Int) = true then 1 else 0 := by rw [cC, hb]; rfl
    by_cases hp : ps[k]? = some (-2)
    · rw [coreL_yes hp hb (hall b (List.mem_of_getElem? hb)), hR, hC, List.filter_append, List.filter_append, List.length_append, List.length_append, i1, i2]
      constructor
      · cases h : retB (b.toNat : Int) <;> simp [hp, h]
      · cases h : callB (b.toNat : Int) <;> simp [hp, h]
    · rw [coreL_no hp, hR, hC, if_neg (fun e => hp e.1), if_neg (fun e => hp e.1)]
      exact ⟨i1, i2⟩

theorem hgt_ups (r c : Nat) : (∀ j, j ≤ r → hgt (List.replicate r 0 ++ List.replicate c 1) j = j) ∧ ∀ t, t ≤ c → hgt (List.replicate r 0 ++ List.replicate c 1) (r + t) = (r : Int) - t := by
  have u0 : upK 0 = 1 := rfl
  have u1 : upK 1 = -1 := rfl
  have h1 : ∀ j, j ≤ r → hgt (List.replicate r 0 ++ List.replicate c 1) j = j := by
    intro j hj
    induction j with
    | zero => rfl
    | succ j ih =>
      rw [hgt_succ (x := 0) (by rw [List.getElem?_append_left (by simp; omega), List.getElem?_replicate, if_pos (by omega)]), ih (by omega), u0]; omega
  refine ⟨h1, fun t ht => ?_⟩
  induction t with
  | zero => rw [Nat.add_zero, h1 r (Nat.le_refl _)]; omega
  | succ t ih =>
    rw [← Nat.add_assoc, hgt_succ (x := 1) (by rw [List.getElem?_append_right (by simp), List.length_replicate, show r + t - r = t by omega, List.getElem?_replicate, if_pos (by omega)]), ih (by omega), u1]; omega

theorem ks_beL {c : List UInt8} (hc : AllSym c) : ksOf (beL c) = List.replicate (c.filter fun b => callB (b.toNat : Int)).length 1 := by
  rw [List.eq_replicate_iff]
  refine ⟨by simp [ksOf, beL], fun x hx => ?_⟩
  simp only [ksOf, beL, List.mem_map, List.mem_filter, List.mem_reverse] at hx
  obtain ⟨y, ⟨b, ⟨hb, hcb⟩, rfl⟩, rfl⟩ := hx
  rcases six_byte (hc b hb) with rfl | rfl | rfl | rfl | rfl | rfl
  · rfl
  · rfl
  all_goals exact absurd hcb (by decide)
theorem ks_frL (c : List UInt8) : ksOf (frL c) = List.replicate (c.filter fun b => retB (b.toNat : Int)).length 0 := by
  rw [ksOf, frL, List.map_replicate]; rfl
/-- The heights of the completed word. -/
theorem comp_flat {l c : List UInt8} (hall : AllSym l) (hc : c = coreL l (prts (ksOf l)) l.length) (hcs : AllSym c) :
    (∀ j, j ≤ (ksOf (compL l c)).length → 0 ≤ hgt (ksOf (compL l c)) j) ∧ hgt (ksOf (compL l c)) (ksOf (compL l c)).length = 0 := by
  obtain ⟨k1, k2⟩ := core_counts hall (prts (ksOf l)) l.length (Nat.le_refl _)
  rw [← hc] at k1 k2
  have hks : ksOf (compL l c) = putK (List.replicate (cR l (prts (ksOf l)) l.length) 0 ++ List.replicate (cC l (prts (ksOf l)) l.length) 1) (ksOf l) (cR l (prts (ksOf l)) l.length) := by
    have e : ksOf (compL l c) = ksOf (frL c) ++ ksOf l ++ ksOf (beL c) := by simp [ksOf, compL]
    rw [e, ks_frL, ks_beL hcs, k1, k2, putK]
    simp
  have hO := cC_open hall
  have hH := hgt_cR hall
  have hM : ∀ k, k ≤ l.length → cR l (prts (ksOf l)) k ≤ cR l (prts (ksOf l)) l.length := fun k hk => cR_mono _ _ hk
  rw [hks]
  generalize hr : cR l (prts (ksOf l)) l.length = r at *
  generalize hq : cC l (prts (ksOf l)) l.length = q at *
  obtain ⟨a1, a2⟩ := hgt_ups r q
  have hi : r ≤ (List.replicate r 0 ++ List.replicate q 1 : List Nat).length := by simp
  have hkl : (ksOf l).length = l.length := by simp [ksOf]
  have hend : hgt (ksOf l) l.length = (q : Int) - r := by rw [hH _ (Nat.le_refl _), hr, hO]
  have hhi : ∀ t, t ≤ q → hgt (putK (List.replicate r 0 ++ List.replicate q 1) (ksOf l) r) (r + (ksOf l).length + t) = (q : Int) - t := fun t ht => by
    have := hgt_like (xs := putK (List.replicate r 0 ++ List.replicate q 1) (ksOf l) r) (ys := List.replicate r 0 ++ List.replicate q 1) (a := r + (ksOf l).length) (b := r) t (fun j hj => putK_hi hi j)
    have e1 := put_mid (vs := ksOf l) hi (Nat.le_refl _)
    have e2 := a2 t ht
    have e3 := a2 0 (Nat.zero_le _)
    rw [Nat.add_zero] at e3
    rw [hkl] at e1 ⊢
    rw [hkl] at this
    omega
  have hlen : (putK (List.replicate r 0 ++ List.replicate q 1) (ksOf l) r).length = r + (ksOf l).length + q := by rw [putK_len hi]; simp; omega
  rw [hlen]
  refine ⟨fun j hj => ?_, by have := hhi q (Nat.le_refl _); omega⟩
  by_cases h1 : j ≤ r
  · rw [put_lo hi h1, a1 j h1]; omega
  · by_cases h2 : j ≤ r + (ksOf l).length
    · have e1 := put_mid (vs := ksOf l) hi (t := j - r) (by omega)
      rw [show r + (j - r) = j by omega] at e1
      have e2 := hH (j - r) (by omega)
      have e3 := hM (j - r) (by omega)
      have e4 := a1 r (Nat.le_refl _)
      omega
    · have e1 := hhi (j - (r + (ksOf l).length)) (by omega)
      rw [show r + (ksOf l).length + (j - (r + (ksOf l).length)) = j by omega] at e1
      omega
/-- .. so nothing is pending in it. -/
theorem comp_none {l c : List UInt8} (hall : AllSym l) (hc : c = coreL l (prts (ksOf l)) l.length) (hcs : AllSym c) : ∀ k : Nat, (prts (ksOf (compL l c)))[k]? ≠ some (-2) :=
  flat_none (comp_flat hall hc hcs).1 (comp_flat hall hc hcs).2
end Go.Proofs.Ytnclhgaikglbgaa
/- l00In: whether a number lies between two. -/
namespace Go.Proofs.Ytnclhgaikglbgaa
open Go.RowKit

theorem in_yes (n a b : Int) (w : World) (h1 : a ≤ n) (h2 : n ≤ b) :
    Calls Try.prog 65 #[.int .i64 n, .int .i64 a, .int .i64 b] w fun e w' => e = .returned (.bool true) ∧ w' = w := by
  go_enter Try.func65, Try.ntmps65
  go_wp2
  go_ret
  exact ⟨rfl, rfl⟩

theorem in_no (n a b : Int) (w : World) (h : n < a ∨ b < n) :
    Calls Try.prog 65 #[.int .i64 n, .int .i64 a, .int .i64 b] w fun e w' => e = .returned (.bool false) ∧ w' = w := by
  by_cases h1 : a ≤ n
  · have h2 : b < n := by omega
    clear h
    go_enter Try.func65, Try.ntmps65
    go_wp2
    go_ret
    exact ⟨by simp; omega, rfl⟩
  · have h2 : n < a := by omega
    clear h
    go_enter Try.func65, Try.ntmps65
    go_wp2
    go_ret
    exact ⟨rfl, rfl⟩

end Go.Proofs.Ytnclhgaikglbgaa
