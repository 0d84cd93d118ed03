/- The law FnMatching, walked. -/
import Derived.Test.YtnclhgaikglbgaaMatchM
import Derived.Test.YtnclhgaikglbgaaBody
import Derived.Test.YtnclhgaikglbgaaPartnersOf
import Derived.Test.YtnclhgaikglbgaaPendingOf
import Derived.Test.YtnclhgaikglbgaaDepthsLaw
import Derived.Test.YtnclhgaikglbgaaFree
import Derived.BigQuiet
import Derived.Deep.QuietTactic
namespace Go.Proofs.Ytnclhgaikglbgaa
open Go.RowKit
set_option linter.unusedVariables false

/-- What the law knows behind its calls. -/
structure MW (s : ByteArray) (l : List UInt8) (gp gq : Nat) (W : World) : Prop where
  p : ∀ (k : Nat) (x : Int), (prts (ksOf l))[k]? = some x → W.cell? ⟨gp, k, none⟩ = some (.int .i64 x)
  q : ∀ (k : Nat) (x : Int), (prts (turnKs (ksOf l)))[k]? = some x → W.cell? ⟨gq, k, none⟩ = some (.int .i64 x)
theorem MW.later {s : ByteArray} {l : List UInt8} {gp gq : Nat} {W W' : World} (h : MW s l gp gq W) (hb : Below W.heap.size W W') : MW s l gp gq W' :=
  ⟨fun k x hx => by have := h.p k x hx; exact (hb.cell (World.block_lt_of_cell? _ _ this)).trans this, fun k x hx => by have := h.q k x hx; exact (hb.cell (World.block_lt_of_cell? _ _ this)).trans this⟩
theorem MW.drewN {s : ByteArray} {l : List UInt8} {gp gq : Nat} {W : World} (h : MW s l gp gq W) (m : Nat) : MW s l gp gq (W.drewN m) := ⟨fun k x hx => h.p k x hx, fun k x hx => h.q k x hx⟩
theorem wrap_m {n : Int} (h : -1000 ≤ n ∧ n ≤ 1000) : IntKind.i64.wrap n = n := by unfold IntKind.wrap IntKind.signed IntKind.bits; simp; omega

set_option maxHeartbeats 6400000 in
set_option maxRecDepth 100000 in
theorem FnMatching_walk {A0 A1 : Option Addr} {n0 c0 n1 c1 : Nat} {l0 l1 : List Int} (w : World) (w0 : BytesR w (.slice A0 n0 c0) l0) (w1 : BytesR w (.slice A1 n1 c1) l1) (f0 : WfU l0) (f1 : WfU l1) :
    Calls Try.prog 4 #[.slice A0 n0 c0, .slice A1 n1 c1] w fun e w' => e = .returned (.bool true) ∧ Below w.heap.size w w' := by
  have Hl := Lib.hid (law_long (A0 := A0) (A1 := A1) (c0 := c0) (c1 := c1) w w0.len_.2 w1.len_.2)
  by_cases hlong : 3000 < n0 ∨ 3000 < n1
  · rw [decide_eq_true hlong] at Hl
    clear w0 w1 f0 f1 hlong
    go_enter Try.func4, Try.ntmps4
    go_wp2_with fail
    refine Hl.out.mono ?_
    rintro e w2 ⟨rfl, rfl⟩
    go_wp2
    go_ret
    exact ⟨rfl, Below.refl _ _⟩
  · rw [decide_eq_false hlong] at Hl
    have Hd := Lib.hid (draw_A2Word (m := 16) (c := c0) w (w0.code w0.len_.1 (by omega) f0 (Below.refl _ _)) (by omega) (by omega))
    clear w0 w1 f0 f1 hlong
    go_enter Try.func4, Try.ntmps4
    go_wp2_with fail
    refine Hl.out.mono ?_
    rintro e w2 ⟨rfl, rfl⟩
    go_wp2_with fail
    refine Hd.out.mono ?_
    rintro e w1 ⟨s, rfl, hw, h16, hb1⟩
    have h60 := hw.1
    have hall := hw.2
    obtain ⟨l, hl⟩ : ∃ l, l = s.data.toList := ⟨_, rfl⟩
    have hlen : l.length = s.size := by rw [hl]; simp
    have hsat : ∀ (k : Nat) (hk : k < s.size), l[k]? = some s[k] := fun k hk => by rw [hl, List.getElem?_eq_getElem (by simpa using hk)]; rfl
    have P1 := fun w => impl_PartnersOf_yes s w hw
    have T1 := fun w => impl_TurnWord_yes s w hw
    have N1 := fun w => impl_PendingOf_yes s w hw
    have C1 := fun w => impl_CoreOf_yes s w hw
    have M1 := fun w => impl_IsMatched_yes s w hw
    simp only [← hl] at P1 T1 N1 C1 M1 hall
    -- the turned word
    obtain ⟨t, ht⟩ : ∃ t : ByteArray, t = ⟨(turnL l).toArray⟩ := ⟨_, rfl⟩
    have htl : t.data.toList = turnL l := by rw [ht]
    have hts : t.size = s.size := by show t.data.size = _; rw [← hlen, ← turnL_len l, ← htl]; simp
    have htw : IsW t := ⟨by omega, by rw [htl]; exact turnL_all hall⟩
    have P2 := fun w => impl_PartnersOf_yes t w htw
    have T2 := fun w => impl_TurnWord_yes t w htw
    rw [htl, turnL_ks hall] at P2
    rw [htl] at T2
    have hback : (⟨((turnL l).map turnB).reverse.toArray⟩ : ByteArray) = s := by
      apply ByteArray.ext
      show (turnL (turnL l)).toArray = s.data
      rw [turnL_turnL hall, hl]
    rw [hback] at T2
    rw [show (⟨(l.map turnB).reverse.toArray⟩ : ByteArray) = t from ht.symm] at T1
    -- what is pending
    have hpc := pend_counts l hall s.size (by omega)
    have hps := pend_sum hall s.size (by omega)
    rw [← hpc.1, ← hpc.2] at M1
    obtain ⟨R, hR⟩ : ∃ R, R = ((pend (symL l) (prts (ksOf l)) s.size).filter fun x => !callS x.1.2).length := ⟨_, rfl⟩
    obtain ⟨Q, hQ⟩ : ∃ Q, Q = ((pend (symL l) (prts (ksOf l)) s.size).filter fun x => callS x.1.2).length := ⟨_, rfl⟩
    rw [← hR, ← hQ] at hps
    simp only [← hR, ← hQ] at N1 M1
    have hpl := pend_len (symL l) (prts (ksOf l)) s.size
    have hdec : decide (R + Q = 0) = ((R : Int) + (Q : Int) == 0) := by
      rw [Bool.eq_iff_iff, decide_eq_true_eq, beq_iff_eq]; omega
    rw [hdec] at M1
    obtain ⟨c, hc⟩ : ∃ c : ByteArray, c = ⟨(coreL l (prts (ksOf l)) s.size).toArray⟩ := ⟨_, rfl⟩
    have hcs : c.size = R + Q := by rw [hc]; show (coreL l (prts (ksOf l)) s.size).toArray.size = _; rw [List.size_toArray, coreL, List.length_map, hps]
    rw [← hc] at C1
    have hRQ : R + Q ≤ 60 := by omega
    have P1 := Lib.hid P1
    have P2 := Lib.hid P2
    have T1 := Lib.hid T1
    have T2 := Lib.hid T2
    have N1 := Lib.hid N1
    have C1 := Lib.hid C1
    have M1 := Lib.hid M1
    have Hlen := Lib.hid hlen
    have Hall := Lib.hid hall
    have Hsat := Lib.hid hsat
    have Hw := Lib.hid hw
    have Hl2 := Lib.hid hl
    have Hc := Lib.hid hc
    clear Hd hw hl hlen hall hsat ht htl htw hback hpc hps hR hQ hdec hc hpl
    go_wp2_with fail
    refine (P1.out _).mono ?_
    rintro e w2 ⟨Ap, cp, rfl, hrp, hb2⟩
    go_wp2_with fail
    refine (T1.out _).mono ?_
    rintro e w3 ⟨rfl, hb3⟩
    go_wp2_with fail
    refine (P2.out _).mono ?_
    rintro e w4 ⟨Aq, cq, rfl, hrq, hb4⟩
    go_wp2_with fail
    refine (T2.out _).mono ?_
    rintro e w5 ⟨rfl, hb5⟩
    go_wp2_with fail
    refine (N1.out _).mono ?_
    rintro e w6 ⟨rfl, hb6⟩
    go_wp2_with fail
    refine (C1.out _).mono ?_
    rintro e w7 ⟨rfl, hb7⟩
    go_wp2_with fail
    refine (M1.out _).mono ?_
    rintro e w8 ⟨rfl, hb8⟩
    have z1 := hb1.size
    have z2 := hb2.size
    have z3 := hb3.size
    have z4 := hb4.size
    have z5 := hb5.size
    have z6 := hb6.size
    have z7 := hb7.size
    have hB := hb1.trans ((hb2.trans ((hb3.trans ((hb4.trans ((hb5.trans ((hb6.trans ((hb7.trans (hb8.mono z7)).mono z6)).mono z5)).mono z4)).mono z3)).mono z2)).mono z1)
    have hB3 := hb3.trans ((hb4.trans ((hb5.trans ((hb6.trans ((hb7.trans (hb8.mono z7)).mono z6)).mono z5)).mono z4)).mono z3)
    have hB5 := hb5.trans ((hb6.trans ((hb7.trans (hb8.mono z7)).mono z6)).mono z5)
    have hrp8 := row_below hrp hB3
    have hrq8 := row_below hrq hB5
    rw [hts] at hrq8
    have HB := Lib.hid (And.intro hB (And.intro hrp8 hrq8))
    clear hb1 hb2 hb3 hb4 hb5 hb6 hb7 hb8 hB hB3 hB5 hrp hrq hrp8 hrq8 z1 z2 z3 z4 z5 z6 z7 P1 P2 T1 T2 N1 C1 M1
    go_wp2_with fail
    go_loopw [21, 23] (fun y i wr => ∃ (k : Nat) (t' : ByteArray), k ≤ s.size ∧ i = .int .i64 (k : Int) ∧ y = .string t' ∧ t'.size ≤ k ∧ Hid (t'.data.toList = coreL l (prts (ksOf l)) k) ∧ Below w8.heap.size w8 wr) (fun _ i _ => s.size - (intOf i).toNat)
    case atStart => exact ⟨0, ⟨#[]⟩, Nat.zero_le _, rfl, rfl, Nat.le_refl _, rfl, Below.refl _ _⟩
    case round =>
      obtain ⟨k, t', hk, rfl, rfl, htk, Ht', hBk⟩ := hrel
      by_cases hlt : k < s.size
      · have hwa : IntKind.i64.wrap ((s.size : Int) - 1) = ((s.size - 1 : Nat) : Int) := by rw [wrap_m (by omega)]; omega
        have hwb : IntKind.i64.wrap (((s.size - 1 : Nat) : Int) - (k : Int)) = ((s.size - 1 - k : Nat) : Int) := by rw [wrap_m (by omega)]; omega
        obtain ⟨gp, rfl⟩ : ∃ g, Ap = some ⟨g, 0, none⟩ := by
          rcases HB.out.2.1.2 with ⟨_, h1⟩ | ⟨g, cap, cur, hv, _⟩
          · omega
          · simp only [Value.slice.injEq] at hv
            exact ⟨g, hv.1⟩
        obtain ⟨gq, rfl⟩ : ∃ g, Aq = some ⟨g, 0, none⟩ := by
          rcases HB.out.2.2.2 with ⟨_, h1⟩ | ⟨g, cap, cur, hv, _⟩
          · omega
          · simp only [Value.slice.injEq] at hv
            exact ⟨g, hv.1⟩
        have hlb := Hsat.out k hlt
        have hkd : k < s.data.size := hlt
        have ht60 : t'.size ≤ 60 := by omega
        have hnz : s.size - 1 - k < s.size := by omega
        obtain ⟨p, hp, hcase⟩ := place_cases Hall.out hlb
        have hrp := row_below HB.out.2.1 hBk
        have hrq := row_below HB.out.2.2 hBk
        have cpk := nums_cell hrp k p hp
        have hqp := turn_prts (ksOf l) hp
        rw [ksOf_len, Hlen.out] at hqp
        have cq := nums_cell hrq (s.size - 1 - k) _ hqp
        have HP := Lib.hid (And.intro hp hlb)
        have HBk := Lib.hid hBk
        have Hrp := Lib.hid hrp
        have hsz := hBk.size
        clear hp hlb hBk hrp hrq hqp
        rcases hcase with ⟨hc, hr, h⟩ | ⟨hc, hr, h⟩ | ⟨hc, hr, rfl⟩
        · rcases h with ⟨m, rfl, hm⟩ | rfl
          · -- a call that is closed
            have hkm := hm.lt
            have hml : m < s.size := by have := (List.getElem?_eq_some_iff.1 hm.ret).1; rw [ksOf_len, Hlen.out] at this; exact this
            have cm := nums_cell Hrp.out m _ hm.at_ret
            have b1 : ((m : Int) == -1) = false := by rw [beq_eq_false_iff_ne]; omega
            have b2 : ((m : Int) == -2) = false := by rw [beq_eq_false_iff_ne]; omega
            rw [if_pos (by omega)] at cq
            rw [show (s.size : Int) - 1 - (m : Int) = ((s.size - 1 - m : Nat) : Int) by omega] at cq
            have hwc : IntKind.i64.wrap (((s.size - 1 : Nat) : Int) - (m : Int)) = ((s.size - 1 - m : Nat) : Int) := by rw [wrap_m (by omega)]; omega
            have hcn : Hid (coreL l (prts (ksOf l)) (k + 1) = coreL l (prts (ksOf l)) k) := coreL_no (by rw [HP.out.1]; intro e; have := Option.some.inj e; omega)
            have hsl := slice_mid s k m hkm (by omega)
            have hcl0 := fun W => impl_BodyOf_yes s k m W hkm hml h60 (fun W' => impl_closed_yes s W' Hw.out k (m : Int) hlt (by rw [← Hl2.out]; exact HP.out.1) hc (by omega))
            simp only [bodV] at hcl0
            have hcl := Lib.hid hcl0
            clear hcl0
            have hsub : IsW (s.extract (k + 1) m) := ext_isW Hw.out _ _ (by omega)
            have hzs : (s.extract (k + 1) m).size ≤ 60 := hsub.1
            have hmat := Lib.hid (fun W => impl_IsMatched_yes (s.extract (k + 1) m) W hsub)
            have hnone : cR (s.extract (k + 1) m).data.toList (prts (ksOf (s.extract (k + 1) m).data.toList)) (s.extract (k + 1) m).size + cC (s.extract (k + 1) m).data.toList (prts (ksOf (s.extract (k + 1) m).data.toList)) (s.extract (k + 1) m).size = 0 := by
              refine none_matched _ ?_ _
              rw [ext_list, ← Hl2.out, ks_part]
              exact body_none hm
            rw [decide_eq_true hnone] at hmat
            have HMM := Lib.hid hmat.out
            clear hm hnone hmat hsub
            have HCC := Lib.hid (fun W => by have := law_call (s[k].toNat : Int) W; rwa [hc] at this)
            have KC := Lib.hid (And.intro cpk cm)
            go_upto_region 29 with (first | (go_at_call 12; refine (law_call _ _).mono ?_; rintro e w' ⟨rfl, rfl⟩; rw [hc]) | (go_at_call 13; refine (law_return _ _).mono ?_; rintro e w' ⟨rfl, rfl⟩; rw [hr]))
            refine wp_region_free (by kernel_rfl) [
                .val [] (fun _ => .slice (some ⟨gp, 0, none⟩) s.size cp),
                .val [] (fun _ => .slice (some ⟨gp, 0, none⟩) s.size cp),
                .val [] (fun _ => .int .i64 (k : Int)),
                .val [] (fun _ => .pointer (some ⟨gp, k, none⟩)),
                .val [] (fun _ => .int .i64 (m : Int)),
                .val [] (fun _ => .pointer (some ⟨gp, m, none⟩)),
                .val [] (fun _ => .int .i64 (k : Int)),
                .val [] (fun _ => .int .i64 (k : Int)),
                .val [] (fun _ => .bool false),
                .val [] (fun _ => .bool false),
                .val [] (fun _ => .string s),
                .val [] (fun _ => .int .i64 (k : Int)),
                .val [] (fun _ => .int .u8 (s[k].toNat : Int)),
                .val [] (fun _ => .bool true),
                .val [] (fun _ => .slice (some ⟨gp, 0, none⟩) s.size cp),
                .val [] (fun _ => .int .i64 (k : Int)),
                .val [] (fun _ => .pointer (some ⟨gp, k, none⟩)),
                .val [] (fun _ => .int .i64 (m : Int)),
                .val [] (fun _ => .int .i64 (k : Int)),
                .val [] (fun _ => .bool true),
                .val [] (fun _ => .bool false),
                .val [] (fun _ => .bool false)] ?hp ?hfw ?deps ?oks ?steps ?tail
            case hp => kernel_rfl
            case hfw => kernel_rfl
            case deps => kernel_rfl
            case oks =>
              intro F hF
              simp only [List.mem_cons, List.not_mem_nil, or_false] at hF
              rcases hF with rfl | rfl | rfl | rfl | rfl | rfl | rfl | rfl | rfl | rfl | rfl | rfl | rfl | rfl | rfl | rfl | rfl | rfl | rfl | rfl | rfl | rfl
              all_goals trivial
            case steps =>
              refine Steps.cons ?_ ?_
              · refine FreeStep.val [] _ rfl rfl fun u β W hW hn fr hfr K hK => ?_
                simp only [frameL, putL, Act.put, List.setIfInBounds_toArray, List.set_cons_zero, List.set_cons_succ, Nat.zero_add, Nat.reduceAdd] at hfr
                subst hfr
                have HK := Lib.hid hK
                clear hK hn
                go_simp
                have h9 := HK.out
                revert h9
                clear HK
                go_simp
                try exact id
              refine Steps.cons ?_ ?_
              · refine FreeStep.val [] _ rfl rfl fun u β W hW hn fr hfr K hK => ?_
                simp only [frameL, putL, Act.put, List.setIfInBounds_toArray, List.set_cons_zero, List.set_cons_succ, Nat.zero_add, Nat.reduceAdd] at hfr
                subst hfr
                have HK := Lib.hid hK
                clear hK hn
                go_simp
                have h9 := HK.out
                revert h9
                clear HK
                go_simp
                try exact id
              refine Steps.cons ?_ ?_
              · refine FreeStep.val [] _ rfl rfl fun u β W hW hn fr hfr K hK => ?_
                simp only [frameL, putL, Act.put, List.setIfInBounds_toArray, List.set_cons_zero, List.set_cons_succ, Nat.zero_add, Nat.reduceAdd] at hfr
                subst hfr
                have HK := Lib.hid hK
                clear hK hn
                go_simp
                have h9 := HK.out
                revert h9
                clear HK
                go_simp
                try exact id
              refine Steps.cons ?_ ?_
              · refine FreeStep.val [] _ rfl rfl fun u β W hW hn fr hfr K hK => ?_
                simp only [frameL, putL, Act.put, List.setIfInBounds_toArray, List.set_cons_zero, List.set_cons_succ, Nat.zero_add, Nat.reduceAdd] at hfr
                subst hfr
                have e1 : u 1 = .slice (some ⟨gp, 0, none⟩) s.size cp := Have.get (k := 1) hn rfl
                have e2 : u 2 = .int .i64 (k : Int) := Have.get (k := 2) hn rfl
                simp only [e1, e2] at hK
                have hix : (k : Int) < (s.size : Int) := by omega
                have HK := Lib.hid hK
                clear hK hn
                go_simp
                have h9 := HK.out
                revert h9
                clear HK
                go_simp
                try exact id
              refine Steps.cons ?_ ?_
              · refine FreeStep.val [] _ rfl rfl fun u β W hW hn fr hfr K hK => ?_
                simp only [frameL, putL, Act.put, List.setIfInBounds_toArray, List.set_cons_zero, List.set_cons_succ, Nat.zero_add, Nat.reduceAdd] at hfr
                subst hfr
                have e3 : u 3 = .pointer (some ⟨gp, k, none⟩) := Have.get (k := 3) hn rfl
                simp only [e3] at hK
                have c1 : W.cell? ⟨gp, k, none⟩ = some (.int .i64 (m : Int)) := (hW.cell (World.block_lt_of_cell? _ _ KC.out.1)).trans KC.out.1
                have HK := Lib.hid hK
                clear hK hn
                go_simp
                have h9 := HK.out
                revert h9
                clear HK
                go_simp
                try exact id
              refine Steps.cons ?_ ?_
              · refine FreeStep.val [] _ rfl rfl fun u β W hW hn fr hfr K hK => ?_
                simp only [frameL, putL, Act.put, List.setIfInBounds_toArray, List.set_cons_zero, List.set_cons_succ, Nat.zero_add, Nat.reduceAdd] at hfr
                subst hfr
                have e0 : u 0 = .slice (some ⟨gp, 0, none⟩) s.size cp := Have.get (k := 0) hn rfl
                have e4 : u 4 = .int .i64 (m : Int) := Have.get (k := 4) hn rfl
                simp only [e0, e4] at hK
                have hix : (m : Int) < (s.size : Int) := by omega
                have HK := Lib.hid hK
                clear hK hn
                go_simp
                have h9 := HK.out
                revert h9
                clear HK
                go_simp
                try exact id
              refine Steps.cons ?_ ?_
              · refine FreeStep.val [] _ rfl rfl fun u β W hW hn fr hfr K hK => ?_
                simp only [frameL, putL, Act.put, List.setIfInBounds_toArray, List.set_cons_zero, List.set_cons_succ, Nat.zero_add, Nat.reduceAdd] at hfr
                subst hfr
                have e5 : u 5 = .pointer (some ⟨gp, m, none⟩) := Have.get (k := 5) hn rfl
                simp only [e5] at hK
                have c1 : W.cell? ⟨gp, m, none⟩ = some (.int .i64 (k : Int)) := (hW.cell (World.block_lt_of_cell? _ _ KC.out.2)).trans KC.out.2
                have HK := Lib.hid hK
                clear hK hn
                go_simp
                have h9 := HK.out
                revert h9
                clear HK
                go_simp
                try exact id
              refine Steps.cons ?_ ?_
              · refine FreeStep.val [] _ rfl rfl fun u β W hW hn fr hfr K hK => ?_
                simp only [frameL, putL, Act.put, List.setIfInBounds_toArray, List.set_cons_zero, List.set_cons_succ, Nat.zero_add, Nat.reduceAdd] at hfr
                subst hfr
                have HK := Lib.hid hK
                clear hK hn
                go_simp
                have h9 := HK.out
                revert h9
                clear HK
                go_simp
                try exact id
              refine Steps.cons ?_ ?_
              · refine FreeStep.val [] _ rfl rfl fun u β W hW hn fr hfr K hK => ?_
                simp only [frameL, putL, Act.put, List.setIfInBounds_toArray, List.set_cons_zero, List.set_cons_succ, Nat.zero_add, Nat.reduceAdd] at hfr
                subst hfr
                have e6 : u 6 = .int .i64 (k : Int) := Have.get (k := 6) hn rfl
                have e7 : u 7 = .int .i64 (k : Int) := Have.get (k := 7) hn rfl
                simp only [e6, e7] at hK
                have HK := Lib.hid hK
                clear hK hn
                go_simp
                have h9 := HK.out
                revert h9
                clear HK
                go_simp
                try exact id
              refine Steps.cons ?_ ?_
              · refine FreeStep.val [] _ rfl rfl fun u β W hW hn fr hfr K hK => ?_
                simp only [frameL, putL, Act.put, List.setIfInBounds_toArray, List.set_cons_zero, List.set_cons_succ, Nat.zero_add, Nat.reduceAdd] at hfr
                subst hfr
                have e8 : u 8 = .bool false := Have.get (k := 8) hn rfl
                simp only [e8] at hK
                have HK := Lib.hid hK
                clear hK hn
                go_simp
                have h9 := HK.out
                revert h9
                clear HK
                go_simp
                try exact id
              refine Steps.cons ?_ ?_
              · refine FreeStep.val [] _ rfl rfl fun u β W hW hn fr hfr K hK => ?_
                simp only [frameL, putL, Act.put, List.setIfInBounds_toArray, List.set_cons_zero, List.set_cons_succ, Nat.zero_add, Nat.reduceAdd] at hfr
                subst hfr
                have e9 : u 9 = .bool false := Have.get (k := 9) hn rfl
                simp only [e9] at hK
                have HK := Lib.hid hK
                clear hK hn
                go_simp
                have h9 := HK.out
                revert h9
                clear HK
                go_simp
                try exact id
              refine Steps.cons ?_ ?_
              · refine FreeStep.val [] _ rfl rfl fun u β W hW hn fr hfr K hK => ?_
                simp only [frameL, putL, Act.put, List.setIfInBounds_toArray, List.set_cons_zero, List.set_cons_succ, Nat.zero_add, Nat.reduceAdd] at hfr
                subst hfr
                have e9 : u 9 = .bool false := Have.get (k := 9) hn rfl
                simp only [e9] at hK
                have HK := Lib.hid hK
                clear hK hn
                go_simp
                have h9 := HK.out
                revert h9
                clear HK
                go_simp
                try exact id
              refine Steps.cons ?_ ?_
              · refine FreeStep.val [] _ rfl rfl fun u β W hW hn fr hfr K hK => ?_
                simp only [frameL, putL, Act.put, List.setIfInBounds_toArray, List.set_cons_zero, List.set_cons_succ, Nat.zero_add, Nat.reduceAdd] at hfr
                subst hfr
                have e10 : u 10 = .string s := Have.get (k := 10) hn rfl
                have e11 : u 11 = .int .i64 (k : Int) := Have.get (k := 11) hn rfl
                have e9 : u 9 = .bool false := Have.get (k := 9) hn rfl
                simp only [e10, e11, e9] at hK
                have HK := Lib.hid hK
                clear hK hn
                go_simp
                have h9 := HK.out
                revert h9
                clear HK
                go_simp
                try exact id
              refine Steps.cons ?_ ?_
              · refine FreeStep.calm [] _ rfl rfl fun u β W hW hn fr hfr K hK => ?_
                simp only [frameL, putL, Act.put, List.setIfInBounds_toArray, List.set_cons_zero, List.set_cons_succ, Nat.zero_add, Nat.reduceAdd] at hfr
                subst hfr
                have e12 : u 12 = .int .u8 (s[k].toNat : Int) := Have.get (k := 12) hn rfl
                have e9 : u 9 = .bool false := Have.get (k := 9) hn rfl
                simp only [e12, e9] at hK
                have HK := Lib.hid hK
                clear hK hn
                go_simp
                refine (HCC.out _).mono ?_
                rintro e w1 ⟨rfl, rfl⟩
                have h9 := HK.out _ (Below.refl _ _)
                revert h9
                clear HK
                go_simp
                try exact id
              refine Steps.cons ?_ ?_
              · refine FreeStep.val [] _ rfl rfl fun u β W hW hn fr hfr K hK => ?_
                simp only [frameL, putL, Act.put, List.setIfInBounds_toArray, List.set_cons_zero, List.set_cons_succ, Nat.zero_add, Nat.reduceAdd] at hfr
                subst hfr
                have e9 : u 9 = .bool false := Have.get (k := 9) hn rfl
                simp only [e9] at hK
                have HK := Lib.hid hK
                clear hK hn
                go_simp
                have h9 := HK.out
                revert h9
                clear HK
                go_simp
                try exact id
              refine Steps.cons ?_ ?_
              · refine FreeStep.val [] _ rfl rfl fun u β W hW hn fr hfr K hK => ?_
                simp only [frameL, putL, Act.put, List.setIfInBounds_toArray, List.set_cons_zero, List.set_cons_succ, Nat.zero_add, Nat.reduceAdd] at hfr
                subst hfr
                have e9 : u 9 = .bool false := Have.get (k := 9) hn rfl
                simp only [e9] at hK
                have HK := Lib.hid hK
                clear hK hn
                go_simp
                have h9 := HK.out
                revert h9
                clear HK
                go_simp
                try exact id
              refine Steps.cons ?_ ?_
              · refine FreeStep.val [] _ rfl rfl fun u β W hW hn fr hfr K hK => ?_
                simp only [frameL, putL, Act.put, List.setIfInBounds_toArray, List.set_cons_zero, List.set_cons_succ, Nat.zero_add, Nat.reduceAdd] at hfr
                subst hfr
                have e14 : u 14 = .slice (some ⟨gp, 0, none⟩) s.size cp := Have.get (k := 14) hn rfl
                have e15 : u 15 = .int .i64 (k : Int) := Have.get (k := 15) hn rfl
                have e9 : u 9 = .bool false := Have.get (k := 9) hn rfl
                simp only [e14, e15, e9] at hK
                have hix : (k : Int) < (s.size : Int) := by omega
                have HK := Lib.hid hK
                clear hK hn
                go_simp
                have h9 := HK.out
                revert h9
                clear HK
                go_simp
                try exact id
              refine Steps.cons ?_ ?_
              · refine FreeStep.val [] _ rfl rfl fun u β W hW hn fr hfr K hK => ?_
                simp only [frameL, putL, Act.put, List.setIfInBounds_toArray, List.set_cons_zero, List.set_cons_succ, Nat.zero_add, Nat.reduceAdd] at hfr
                subst hfr
                have e16 : u 16 = .pointer (some ⟨gp, k, none⟩) := Have.get (k := 16) hn rfl
                have e9 : u 9 = .bool false := Have.get (k := 9) hn rfl
                simp only [e16, e9] at hK
                have c1 : W.cell? ⟨gp, k, none⟩ = some (.int .i64 (m : Int)) := (hW.cell (World.block_lt_of_cell? _ _ KC.out.1)).trans KC.out.1
                have HK := Lib.hid hK
                clear hK hn
                go_simp
                have h9 := HK.out
                revert h9
                clear HK
                go_simp
                try exact id
              refine Steps.cons ?_ ?_
              · refine FreeStep.val [] _ rfl rfl fun u β W hW hn fr hfr K hK => ?_
                simp only [frameL, putL, Act.put, List.setIfInBounds_toArray, List.set_cons_zero, List.set_cons_succ, Nat.zero_add, Nat.reduceAdd] at hfr
                subst hfr
                have e9 : u 9 = .bool false := Have.get (k := 9) hn rfl
                simp only [e9] at hK
                have HK := Lib.hid hK
                clear hK hn
                go_simp
                have h9 := HK.out
                revert h9
                clear HK
                go_simp
                try exact id
              refine Steps.cons ?_ ?_
              · refine FreeStep.val [] _ rfl rfl fun u β W hW hn fr hfr K hK => ?_
                simp only [frameL, putL, Act.put, List.setIfInBounds_toArray, List.set_cons_zero, List.set_cons_succ, Nat.zero_add, Nat.reduceAdd] at hfr
                subst hfr
                have e17 : u 17 = .int .i64 (m : Int) := Have.get (k := 17) hn rfl
                have e18 : u 18 = .int .i64 (k : Int) := Have.get (k := 18) hn rfl
                have e9 : u 9 = .bool false := Have.get (k := 9) hn rfl
                simp only [e17, e18, e9] at hK
                have hgt_ : decide ((k : Int) < (m : Int)) = true := decide_eq_true (by omega)
                have HK := Lib.hid hK
                clear hK hn
                go_simp
                have h9 := HK.out
                revert h9
                clear HK
                go_simp
                try exact id
              refine Steps.cons ?_ ?_
              · refine FreeStep.val [] _ rfl rfl fun u β W hW hn fr hfr K hK => ?_
                simp only [frameL, putL, Act.put, List.setIfInBounds_toArray, List.set_cons_zero, List.set_cons_succ, Nat.zero_add, Nat.reduceAdd] at hfr
                subst hfr
                have e13 : u 13 = .bool true := Have.get (k := 13) hn rfl
                have e19 : u 19 = .bool true := Have.get (k := 19) hn rfl
                have e9 : u 9 = .bool false := Have.get (k := 9) hn rfl
                simp only [e13, e19, e9] at hK
                have HK := Lib.hid hK
                clear hK hn
                go_simp
                have h9 := HK.out
                revert h9
                clear HK
                go_simp
                try exact id
              refine Steps.cons ?_ ?_
              · refine FreeStep.val [] _ rfl rfl fun u β W hW hn fr hfr K hK => ?_
                simp only [frameL, putL, Act.put, List.setIfInBounds_toArray, List.set_cons_zero, List.set_cons_succ, Nat.zero_add, Nat.reduceAdd] at hfr
                subst hfr
                have e9 : u 9 = .bool false := Have.get (k := 9) hn rfl
                have e20 : u 20 = .bool false := Have.get (k := 20) hn rfl
                simp only [e9, e20] at hK
                have HK := Lib.hid hK
                clear hK hn
                go_simp
                have h9 := HK.out
                revert h9
                clear HK
                go_simp
                try exact id
              exact Steps.nil
            case tail =>
              intro u_ β W hW hn hdis hbnd
              have z0 : u_ 0 = .slice (some ⟨gp, 0, none⟩) s.size cp := Have.get (k := 0) hn rfl
              have z1 : u_ 1 = .slice (some ⟨gp, 0, none⟩) s.size cp := Have.get (k := 1) hn rfl
              have z2 : u_ 2 = .int .i64 (k : Int) := Have.get (k := 2) hn rfl
              have z3 : u_ 3 = .pointer (some ⟨gp, k, none⟩) := Have.get (k := 3) hn rfl
              have z4 : u_ 4 = .int .i64 (m : Int) := Have.get (k := 4) hn rfl
              have z5 : u_ 5 = .pointer (some ⟨gp, m, none⟩) := Have.get (k := 5) hn rfl
              have z6 : u_ 6 = .int .i64 (k : Int) := Have.get (k := 6) hn rfl
              have z7 : u_ 7 = .int .i64 (k : Int) := Have.get (k := 7) hn rfl
              have z8 : u_ 8 = .bool false := Have.get (k := 8) hn rfl
              have z9 : u_ 9 = .bool false := Have.get (k := 9) hn rfl
              have z10 : u_ 10 = .string s := Have.get (k := 10) hn rfl
              have z11 : u_ 11 = .int .i64 (k : Int) := Have.get (k := 11) hn rfl
              have z12 : u_ 12 = .int .u8 (s[k].toNat : Int) := Have.get (k := 12) hn rfl
              have z13 : u_ 13 = .bool true := Have.get (k := 13) hn rfl
              have z14 : u_ 14 = .slice (some ⟨gp, 0, none⟩) s.size cp := Have.get (k := 14) hn rfl
              have z15 : u_ 15 = .int .i64 (k : Int) := Have.get (k := 15) hn rfl
              have z16 : u_ 16 = .pointer (some ⟨gp, k, none⟩) := Have.get (k := 16) hn rfl
              have z17 : u_ 17 = .int .i64 (m : Int) := Have.get (k := 17) hn rfl
              have z18 : u_ 18 = .int .i64 (k : Int) := Have.get (k := 18) hn rfl
              have z19 : u_ 19 = .bool true := Have.get (k := 19) hn rfl
              have z20 : u_ 20 = .bool false := Have.get (k := 20) hn rfl
              have z21 : u_ 21 = .bool false := Have.get (k := 21) hn rfl
              rw [← frameL_eq (by kernel_rfl)]
              clear hn hdis hbnd
              simp only [frameL, putL, Act.put, List.setIfInBounds_toArray, List.set_cons_zero, List.set_cons_succ, Nat.zero_add, Nat.reduceAdd, z0, z1, z2, z3, z4, z5, z6, z7, z8, z9, z10, z11, z12, z13, z14, z15, z16, z17, z18, z19, z20, z21]
              clear z0 z1 z2 z3 z4 z5 z6 z7 z8 z9 z10 z11 z12 z13 z14 z15 z16 z17 z18 z19 z20 z21
              have hbW := HBk.out.trans (hW.mono HBk.out.size)
              have cpW : W.cell? ⟨gp, k, none⟩ = some (.int .i64 (m : Int)) := (hW.cell (World.block_lt_of_cell? _ _ KC.out.1)).trans KC.out.1
              have HbW := Lib.hid (And.intro hbW cpW)
              clear hW hbW cpk cm cq
              go_wp2_with fail
              refine (hcl.out _).mono ?_
              rintro e wb ⟨rfl, hbb⟩
              have cpW := (hbb.cell (World.block_lt_of_cell? _ _ HbW.out.2)).trans HbW.out.2
              have Hbb := Lib.hid (And.intro (HbW.out.1.trans (hbb.mono HbW.out.1.size)) cpW)
              clear hbb
              go_wp2_with fail
              refine (HMM.out _).mono ?_
              rintro e wc ⟨rfl, hbc⟩
              have cpW := (hbc.cell (World.block_lt_of_cell? _ _ Hbb.out.2)).trans Hbb.out.2
              have Hbc := Lib.hid (Hbb.out.1.trans (hbc.mono Hbb.out.1.size))
              clear hbc
              go_wp2
              go_roundw
              case rel => exact ⟨k + 1, t', by omega, by go_num, rfl, by omega, by show _ = _; rw [hcn.out]; exact Ht'.out, Hbc.out⟩
              case measure => simp [intOf]; omega
          · -- a call that is pending
            rw [if_neg (by omega)] at cq
            have hsl : ∀ W : World, (Instr.slice 9 (.string s) (some (.int .i64 (k : Int))) (some (.int .i64 ((k : Int) + 1))) none).run Try.prog W = .ok (.string (s.extract k (k + 1))) W := fun W => by
              have := run_slice_string (P := Try.prog) W 9 s .i64 .i64 (k : Int) ((k : Int) + 1) Try.underlying9 (by omega) (by omega) (by omega)
              rwa [show ((k : Int) + 1).toNat = k + 1 from by omega, Int.toNat_natCast] at this
            have hsz2 : (s.extract k (k + 1)).size ≤ 60 := by rw [ByteArray.size_extract]; omega
            have fin : (t' ++ s.extract k (k + 1)).size ≤ k + 1 ∧ (t' ++ s.extract k (k + 1)).data.toList = coreL l (prts (ksOf l)) (k + 1) := by
              have e1 : (t' ++ s.extract k (k + 1)).data.toList = coreL l (prts (ksOf l)) (k + 1) := by
                rw [coreL_yes HP.out.1 HP.out.2 (Hall.out _ (List.mem_of_getElem? HP.out.2)), ByteArray.data_append, Array.toList_append, Ht'.out, cut_one s k hlt]
              refine ⟨?_, e1⟩
              have e2 : (t' ++ s.extract k (k + 1)).size = (t' ++ s.extract k (k + 1)).data.toList.length := by rw [Array.length_toList]; rfl
              rw [e2, e1]
              exact coreL_len _ _ _
            have Fin := Lib.hid fin
            clear fin
            go_wp2_with (first | (go_at_call 12; refine (law_call _ _).mono ?_; rintro e w' ⟨rfl, rfl⟩; rw [hc]) | (go_at_call 13; refine (law_return _ _).mono ?_; rintro e w' ⟨rfl, rfl⟩; rw [hr]))
            go_roundw
            case rel => exact ⟨k + 1, _, by omega, by go_num, rfl, Fin.out.1, Fin.out.2, HBk.out⟩
            case measure => simp [intOf]; omega
        · rcases h with ⟨a, rfl, ha⟩ | rfl
          · -- a return that matches
            have hak := ha.lt
            have ca := nums_cell Hrp.out a _ ha.at_call
            have b1 : ((a : Int) == -1) = false := by rw [beq_eq_false_iff_ne]; omega
            have b2 : ((a : Int) == -2) = false := by rw [beq_eq_false_iff_ne]; omega
            rw [if_pos (by omega)] at cq
            rw [show (s.size : Int) - 1 - (a : Int) = ((s.size - 1 - a : Nat) : Int) by omega] at cq
            have hwc : IntKind.i64.wrap (((s.size - 1 : Nat) : Int) - (a : Int)) = ((s.size - 1 - a : Nat) : Int) := by rw [wrap_m (by omega)]; omega
            have hcn : Hid (coreL l (prts (ksOf l)) (k + 1) = coreL l (prts (ksOf l)) k) := coreL_no (by rw [HP.out.1]; intro e; have := Option.some.inj e; omega)
            clear ha
            have HCC := Lib.hid (fun W => by have := law_call (s[k].toNat : Int) W; rwa [hc] at this)
            have KC := Lib.hid (And.intro cpk ca)
            go_upto_region 29 with (first | (go_at_call 12; refine (law_call _ _).mono ?_; rintro e w' ⟨rfl, rfl⟩; rw [hc]) | (go_at_call 13; refine (law_return _ _).mono ?_; rintro e w' ⟨rfl, rfl⟩; rw [hr]))
            refine wp_region_free (by kernel_rfl) [
                .val [] (fun _ => .slice (some ⟨gp, 0, none⟩) s.size cp),
                .val [] (fun _ => .slice (some ⟨gp, 0, none⟩) s.size cp),
                .val [] (fun _ => .int .i64 (k : Int)),
                .val [] (fun _ => .pointer (some ⟨gp, k, none⟩)),
                .val [] (fun _ => .int .i64 (a : Int)),
                .val [] (fun _ => .pointer (some ⟨gp, a, none⟩)),
                .val [] (fun _ => .int .i64 (k : Int)),
                .val [] (fun _ => .int .i64 (k : Int)),
                .val [] (fun _ => .bool false),
                .val [] (fun _ => .bool false),
                .val [] (fun _ => .string s),
                .val [] (fun _ => .int .i64 (k : Int)),
                .val [] (fun _ => .int .u8 (s[k].toNat : Int)),
                .val [] (fun _ => .bool false),
                .val [] (fun _ => .slice (some ⟨gp, 0, none⟩) s.size cp),
                .val [] (fun _ => .int .i64 (k : Int)),
                .val [] (fun _ => .pointer (some ⟨gp, k, none⟩)),
                .val [] (fun _ => .int .i64 (a : Int)),
                .val [] (fun _ => .int .i64 (k : Int)),
                .val [] (fun _ => .bool false),
                .val [] (fun _ => .bool false),
                .val [] (fun _ => .bool false)] ?hp ?hfw ?deps ?oks ?steps ?tail
            case hp => kernel_rfl
            case hfw => kernel_rfl
            case deps => kernel_rfl
            case oks =>
              intro F hF
              simp only [List.mem_cons, List.not_mem_nil, or_false] at hF
              rcases hF with rfl | rfl | rfl | rfl | rfl | rfl | rfl | rfl | rfl | rfl | rfl | rfl | rfl | rfl | rfl | rfl | rfl | rfl | rfl | rfl | rfl | rfl
              all_goals trivial
            case steps =>
              refine Steps.cons ?_ ?_
              · refine FreeStep.val [] _ rfl rfl fun u β W hW hn fr hfr K hK => ?_
                simp only [frameL, putL, Act.put, List.setIfInBounds_toArray, List.set_cons_zero, List.set_cons_succ, Nat.zero_add, Nat.reduceAdd] at hfr
                subst hfr
                have HK := Lib.hid hK
                clear hK hn
                go_simp
                have h9 := HK.out
                revert h9
                clear HK
                go_simp
                try exact id
              refine Steps.cons ?_ ?_
              · refine FreeStep.val [] _ rfl rfl fun u β W hW hn fr hfr K hK => ?_
                simp only [frameL, putL, Act.put, List.setIfInBounds_toArray, List.set_cons_zero, List.set_cons_succ, Nat.zero_add, Nat.reduceAdd] at hfr
                subst hfr
                have HK := Lib.hid hK
                clear hK hn
                go_simp
                have h9 := HK.out
                revert h9
                clear HK
                go_simp
                try exact id
              refine Steps.cons ?_ ?_
              · refine FreeStep.val [] _ rfl rfl fun u β W hW hn fr hfr K hK => ?_
                simp only [frameL, putL, Act.put, List.setIfInBounds_toArray, List.set_cons_zero, List.set_cons_succ, Nat.zero_add, Nat.reduceAdd] at hfr
                subst hfr
                have HK := Lib.hid hK
                clear hK hn
                go_simp
                have h9 := HK.out
                revert h9
                clear HK
                go_simp
                try exact id
              refine Steps.cons ?_ ?_
              · refine FreeStep.val [] _ rfl rfl fun u β W hW hn fr hfr K hK => ?_
                simp only [frameL, putL, Act.put, List.setIfInBounds_toArray, List.set_cons_zero, List.set_cons_succ, Nat.zero_add, Nat.reduceAdd] at hfr
                subst hfr
                have e1 : u 1 = .slice (some ⟨gp, 0, none⟩) s.size cp := Have.get (k := 1) hn rfl
                have e2 : u 2 = .int .i64 (k : Int) := Have.get (k := 2) hn rfl
                simp only [e1, e2] at hK
                have hix : (k : Int) < (s.size : Int) := by omega
                have HK := Lib.hid hK
                clear hK hn
                go_simp
                have h9 := HK.out
                revert h9
                clear HK
                go_simp
                try exact id
              refine Steps.cons ?_ ?_
              · refine FreeStep.val [] _ rfl rfl fun u β W hW hn fr hfr K hK => ?_
                simp only [frameL, putL, Act.put, List.setIfInBounds_toArray, List.set_cons_zero, List.set_cons_succ, Nat.zero_add, Nat.reduceAdd] at hfr
                subst hfr
                have e3 : u 3 = .pointer (some ⟨gp, k, none⟩) := Have.get (k := 3) hn rfl
                simp only [e3] at hK
                have c1 : W.cell? ⟨gp, k, none⟩ = some (.int .i64 (a : Int)) := (hW.cell (World.block_lt_of_cell? _ _ KC.out.1)).trans KC.out.1
                have HK := Lib.hid hK
                clear hK hn
                go_simp
                have h9 := HK.out
                revert h9
                clear HK
                go_simp
                try exact id
              refine Steps.cons ?_ ?_
              · refine FreeStep.val [] _ rfl rfl fun u β W hW hn fr hfr K hK => ?_
                simp only [frameL, putL, Act.put, List.setIfInBounds_toArray, List.set_cons_zero, List.set_cons_succ, Nat.zero_add, Nat.reduceAdd] at hfr
                subst hfr
                have e0 : u 0 = .slice (some ⟨gp, 0, none⟩) s.size cp := Have.get (k := 0) hn rfl
                have e4 : u 4 = .int .i64 (a : Int) := Have.get (k := 4) hn rfl
                simp only [e0, e4] at hK
                have hix : (a : Int) < (s.size : Int) := by omega
                have HK := Lib.hid hK
                clear hK hn
                go_simp
                have h9 := HK.out
                revert h9
                clear HK
                go_simp
                try exact id
              refine Steps.cons ?_ ?_
              · refine FreeStep.val [] _ rfl rfl fun u β W hW hn fr hfr K hK => ?_
                simp only [frameL, putL, Act.put, List.setIfInBounds_toArray, List.set_cons_zero, List.set_cons_succ, Nat.zero_add, Nat.reduceAdd] at hfr
                subst hfr
                have e5 : u 5 = .pointer (some ⟨gp, a, none⟩) := Have.get (k := 5) hn rfl
                simp only [e5] at hK
                have c1 : W.cell? ⟨gp, a, none⟩ = some (.int .i64 (k : Int)) := (hW.cell (World.block_lt_of_cell? _ _ KC.out.2)).trans KC.out.2
                have HK := Lib.hid hK
                clear hK hn
                go_simp
                have h9 := HK.out
                revert h9
                clear HK
                go_simp
                try exact id
              refine Steps.cons ?_ ?_
              · refine FreeStep.val [] _ rfl rfl fun u β W hW hn fr hfr K hK => ?_
                simp only [frameL, putL, Act.put, List.setIfInBounds_toArray, List.set_cons_zero, List.set_cons_succ, Nat.zero_add, Nat.reduceAdd] at hfr
                subst hfr
                have HK := Lib.hid hK
                clear hK hn
                go_simp
                have h9 := HK.out
                revert h9
                clear HK
                go_simp
                try exact id
              refine Steps.cons ?_ ?_
              · refine FreeStep.val [] _ rfl rfl fun u β W hW hn fr hfr K hK => ?_
                simp only [frameL, putL, Act.put, List.setIfInBounds_toArray, List.set_cons_zero, List.set_cons_succ, Nat.zero_add, Nat.reduceAdd] at hfr
                subst hfr
                have e6 : u 6 = .int .i64 (k : Int) := Have.get (k := 6) hn rfl
                have e7 : u 7 = .int .i64 (k : Int) := Have.get (k := 7) hn rfl
                simp only [e6, e7] at hK
                have HK := Lib.hid hK
                clear hK hn
                go_simp
                have h9 := HK.out
                revert h9
                clear HK
                go_simp
                try exact id
              refine Steps.cons ?_ ?_
              · refine FreeStep.val [] _ rfl rfl fun u β W hW hn fr hfr K hK => ?_
                simp only [frameL, putL, Act.put, List.setIfInBounds_toArray, List.set_cons_zero, List.set_cons_succ, Nat.zero_add, Nat.reduceAdd] at hfr
                subst hfr
                have e8 : u 8 = .bool false := Have.get (k := 8) hn rfl
                simp only [e8] at hK
                have HK := Lib.hid hK
                clear hK hn
                go_simp
                have h9 := HK.out
                revert h9
                clear HK
                go_simp
                try exact id
              refine Steps.cons ?_ ?_
              · refine FreeStep.val [] _ rfl rfl fun u β W hW hn fr hfr K hK => ?_
                simp only [frameL, putL, Act.put, List.setIfInBounds_toArray, List.set_cons_zero, List.set_cons_succ, Nat.zero_add, Nat.reduceAdd] at hfr
                subst hfr
                have e9 : u 9 = .bool false := Have.get (k := 9) hn rfl
                simp only [e9] at hK
                have HK := Lib.hid hK
                clear hK hn
                go_simp
                have h9 := HK.out
                revert h9
                clear HK
                go_simp
                try exact id
              refine Steps.cons ?_ ?_
              · refine FreeStep.val [] _ rfl rfl fun u β W hW hn fr hfr K hK => ?_
                simp only [frameL, putL, Act.put, List.setIfInBounds_toArray, List.set_cons_zero, List.set_cons_succ, Nat.zero_add, Nat.reduceAdd] at hfr
                subst hfr
                have e9 : u 9 = .bool false := Have.get (k := 9) hn rfl
                simp only [e9] at hK
                have HK := Lib.hid hK
                clear hK hn
                go_simp
                have h9 := HK.out
                revert h9
                clear HK
                go_simp
                try exact id
              refine Steps.cons ?_ ?_
              · refine FreeStep.val [] _ rfl rfl fun u β W hW hn fr hfr K hK => ?_
                simp only [frameL, putL, Act.put, List.setIfInBounds_toArray, List.set_cons_zero, List.set_cons_succ, Nat.zero_add, Nat.reduceAdd] at hfr
                subst hfr
                have e10 : u 10 = .string s := Have.get (k := 10) hn rfl
                have e11 : u 11 = .int .i64 (k : Int) := Have.get (k := 11) hn rfl
                have e9 : u 9 = .bool false := Have.get (k := 9) hn rfl
                simp only [e10, e11, e9] at hK
                have HK := Lib.hid hK
                clear hK hn
                go_simp
                have h9 := HK.out
                revert h9
                clear HK
                go_simp
                try exact id
              refine Steps.cons ?_ ?_
              · refine FreeStep.calm [] _ rfl rfl fun u β W hW hn fr hfr K hK => ?_
                simp only [frameL, putL, Act.put, List.setIfInBounds_toArray, List.set_cons_zero, List.set_cons_succ, Nat.zero_add, Nat.reduceAdd] at hfr
                subst hfr
                have e12 : u 12 = .int .u8 (s[k].toNat : Int) := Have.get (k := 12) hn rfl
                have e9 : u 9 = .bool false := Have.get (k := 9) hn rfl
                simp only [e12, e9] at hK
                have HK := Lib.hid hK
                clear hK hn
                go_simp
                refine (HCC.out _).mono ?_
                rintro e w1 ⟨rfl, rfl⟩
                have h9 := HK.out _ (Below.refl _ _)
                revert h9
                clear HK
                go_simp
                try exact id
              refine Steps.cons ?_ ?_
              · refine FreeStep.val [] _ rfl rfl fun u β W hW hn fr hfr K hK => ?_
                simp only [frameL, putL, Act.put, List.setIfInBounds_toArray, List.set_cons_zero, List.set_cons_succ, Nat.zero_add, Nat.reduceAdd] at hfr
                subst hfr
                have e9 : u 9 = .bool false := Have.get (k := 9) hn rfl
                simp only [e9] at hK
                have HK := Lib.hid hK
                clear hK hn
                go_simp
                have h9 := HK.out
                revert h9
                clear HK
                go_simp
                try exact id
              refine Steps.cons ?_ ?_
              · refine FreeStep.val [] _ rfl rfl fun u β W hW hn fr hfr K hK => ?_
                simp only [frameL, putL, Act.put, List.setIfInBounds_toArray, List.set_cons_zero, List.set_cons_succ, Nat.zero_add, Nat.reduceAdd] at hfr
                subst hfr
                have e9 : u 9 = .bool false := Have.get (k := 9) hn rfl
                simp only [e9] at hK
                have HK := Lib.hid hK
                clear hK hn
                go_simp
                have h9 := HK.out
                revert h9
                clear HK
                go_simp
                try exact id
              refine Steps.cons ?_ ?_
              · refine FreeStep.val [] _ rfl rfl fun u β W hW hn fr hfr K hK => ?_
                simp only [frameL, putL, Act.put, List.setIfInBounds_toArray, List.set_cons_zero, List.set_cons_succ, Nat.zero_add, Nat.reduceAdd] at hfr
                subst hfr
                have e14 : u 14 = .slice (some ⟨gp, 0, none⟩) s.size cp := Have.get (k := 14) hn rfl
                have e15 : u 15 = .int .i64 (k : Int) := Have.get (k := 15) hn rfl
                have e9 : u 9 = .bool false := Have.get (k := 9) hn rfl
                simp only [e14, e15, e9] at hK
                have hix : (k : Int) < (s.size : Int) := by omega
                have HK := Lib.hid hK
                clear hK hn
                go_simp
                have h9 := HK.out
                revert h9
                clear HK
                go_simp
                try exact id
              refine Steps.cons ?_ ?_
              · refine FreeStep.val [] _ rfl rfl fun u β W hW hn fr hfr K hK => ?_
                simp only [frameL, putL, Act.put, List.setIfInBounds_toArray, List.set_cons_zero, List.set_cons_succ, Nat.zero_add, Nat.reduceAdd] at hfr
                subst hfr
                have e16 : u 16 = .pointer (some ⟨gp, k, none⟩) := Have.get (k := 16) hn rfl
                have e9 : u 9 = .bool false := Have.get (k := 9) hn rfl
                simp only [e16, e9] at hK
                have c1 : W.cell? ⟨gp, k, none⟩ = some (.int .i64 (a : Int)) := (hW.cell (World.block_lt_of_cell? _ _ KC.out.1)).trans KC.out.1
                have HK := Lib.hid hK
                clear hK hn
                go_simp
                have h9 := HK.out
                revert h9
                clear HK
                go_simp
                try exact id
              refine Steps.cons ?_ ?_
              · refine FreeStep.val [] _ rfl rfl fun u β W hW hn fr hfr K hK => ?_
                simp only [frameL, putL, Act.put, List.setIfInBounds_toArray, List.set_cons_zero, List.set_cons_succ, Nat.zero_add, Nat.reduceAdd] at hfr
                subst hfr
                have e9 : u 9 = .bool false := Have.get (k := 9) hn rfl
                simp only [e9] at hK
                have HK := Lib.hid hK
                clear hK hn
                go_simp
                have h9 := HK.out
                revert h9
                clear HK
                go_simp
                try exact id
              refine Steps.cons ?_ ?_
              · refine FreeStep.val [] _ rfl rfl fun u β W hW hn fr hfr K hK => ?_
                simp only [frameL, putL, Act.put, List.setIfInBounds_toArray, List.set_cons_zero, List.set_cons_succ, Nat.zero_add, Nat.reduceAdd] at hfr
                subst hfr
                have e17 : u 17 = .int .i64 (a : Int) := Have.get (k := 17) hn rfl
                have e18 : u 18 = .int .i64 (k : Int) := Have.get (k := 18) hn rfl
                have e9 : u 9 = .bool false := Have.get (k := 9) hn rfl
                simp only [e17, e18, e9] at hK
                have hgt_ : decide ((k : Int) < (a : Int)) = false := decide_eq_false (by omega)
                have hgn_ : ¬ (k < a) := by omega
                have HK := Lib.hid hK
                clear hK hn
                go_simp
                have h9 := HK.out
                revert h9
                clear HK
                go_simp
                try exact id
              refine Steps.cons ?_ ?_
              · refine FreeStep.val [] _ rfl rfl fun u β W hW hn fr hfr K hK => ?_
                simp only [frameL, putL, Act.put, List.setIfInBounds_toArray, List.set_cons_zero, List.set_cons_succ, Nat.zero_add, Nat.reduceAdd] at hfr
                subst hfr
                have e13 : u 13 = .bool false := Have.get (k := 13) hn rfl
                have e19 : u 19 = .bool false := Have.get (k := 19) hn rfl
                have e9 : u 9 = .bool false := Have.get (k := 9) hn rfl
                simp only [e13, e19, e9] at hK
                have HK := Lib.hid hK
                clear hK hn
                go_simp
                have h9 := HK.out
                revert h9
                clear HK
                go_simp
                try exact id
              refine Steps.cons ?_ ?_
              · refine FreeStep.val [] _ rfl rfl fun u β W hW hn fr hfr K hK => ?_
                simp only [frameL, putL, Act.put, List.setIfInBounds_toArray, List.set_cons_zero, List.set_cons_succ, Nat.zero_add, Nat.reduceAdd] at hfr
                subst hfr
                have e9 : u 9 = .bool false := Have.get (k := 9) hn rfl
                have e20 : u 20 = .bool false := Have.get (k := 20) hn rfl
                simp only [e9, e20] at hK
                have HK := Lib.hid hK
                clear hK hn
                go_simp
                have h9 := HK.out
                revert h9
                clear HK
                go_simp
                try exact id
              exact Steps.nil
            case tail =>
              intro u_ β W hW hn hdis hbnd
              have z0 : u_ 0 = .slice (some ⟨gp, 0, none⟩) s.size cp := Have.get (k := 0) hn rfl
              have z1 : u_ 1 = .slice (some ⟨gp, 0, none⟩) s.size cp := Have.get (k := 1) hn rfl
              have z2 : u_ 2 = .int .i64 (k : Int) := Have.get (k := 2) hn rfl
              have z3 : u_ 3 = .pointer (some ⟨gp, k, none⟩) := Have.get (k := 3) hn rfl
              have z4 : u_ 4 = .int .i64 (a : Int) := Have.get (k := 4) hn rfl
              have z5 : u_ 5 = .pointer (some ⟨gp, a, none⟩) := Have.get (k := 5) hn rfl
              have z6 : u_ 6 = .int .i64 (k : Int) := Have.get (k := 6) hn rfl
              have z7 : u_ 7 = .int .i64 (k : Int) := Have.get (k := 7) hn rfl
              have z8 : u_ 8 = .bool false := Have.get (k := 8) hn rfl
              have z9 : u_ 9 = .bool false := Have.get (k := 9) hn rfl
              have z10 : u_ 10 = .string s := Have.get (k := 10) hn rfl
              have z11 : u_ 11 = .int .i64 (k : Int) := Have.get (k := 11) hn rfl
              have z12 : u_ 12 = .int .u8 (s[k].toNat : Int) := Have.get (k := 12) hn rfl
              have z13 : u_ 13 = .bool false := Have.get (k := 13) hn rfl
              have z14 : u_ 14 = .slice (some ⟨gp, 0, none⟩) s.size cp := Have.get (k := 14) hn rfl
              have z15 : u_ 15 = .int .i64 (k : Int) := Have.get (k := 15) hn rfl
              have z16 : u_ 16 = .pointer (some ⟨gp, k, none⟩) := Have.get (k := 16) hn rfl
              have z17 : u_ 17 = .int .i64 (a : Int) := Have.get (k := 17) hn rfl
              have z18 : u_ 18 = .int .i64 (k : Int) := Have.get (k := 18) hn rfl
              have z19 : u_ 19 = .bool false := Have.get (k := 19) hn rfl
              have z20 : u_ 20 = .bool false := Have.get (k := 20) hn rfl
              have z21 : u_ 21 = .bool false := Have.get (k := 21) hn rfl
              rw [← frameL_eq (by kernel_rfl)]
              clear hn hdis hbnd
              simp only [frameL, putL, Act.put, List.setIfInBounds_toArray, List.set_cons_zero, List.set_cons_succ, Nat.zero_add, Nat.reduceAdd, z0, z1, z2, z3, z4, z5, z6, z7, z8, z9, z10, z11, z12, z13, z14, z15, z16, z17, z18, z19, z20, z21]
              clear z0 z1 z2 z3 z4 z5 z6 z7 z8 z9 z10 z11 z12 z13 z14 z15 z16 z17 z18 z19 z20 z21
              have hbW := HBk.out.trans (hW.mono HBk.out.size)
              have cpW : W.cell? ⟨gp, k, none⟩ = some (.int .i64 (a : Int)) := (hW.cell (World.block_lt_of_cell? _ _ KC.out.1)).trans KC.out.1
              have HbW := Lib.hid hbW
              clear hW hbW cpk ca cq
              go_wp2
              go_roundw
              case rel => exact ⟨k + 1, t', by omega, by go_num, rfl, by omega, by show _ = _; rw [hcn.out]; exact Ht'.out, HbW.out⟩
              case measure => simp [intOf]; omega
          · rw [if_neg (by omega)] at cq
            have hsl : ∀ W : World, (Instr.slice 9 (.string s) (some (.int .i64 (k : Int))) (some (.int .i64 ((k : Int) + 1))) none).run Try.prog W = .ok (.string (s.extract k (k + 1))) W := fun W => by
              have := run_slice_string (P := Try.prog) W 9 s .i64 .i64 (k : Int) ((k : Int) + 1) Try.underlying9 (by omega) (by omega) (by omega)
              rwa [show ((k : Int) + 1).toNat = k + 1 from by omega, Int.toNat_natCast] at this
            have hsz2 : (s.extract k (k + 1)).size ≤ 60 := by rw [ByteArray.size_extract]; omega
            have fin : (t' ++ s.extract k (k + 1)).size ≤ k + 1 ∧ (t' ++ s.extract k (k + 1)).data.toList = coreL l (prts (ksOf l)) (k + 1) := by
              have e1 : (t' ++ s.extract k (k + 1)).data.toList = coreL l (prts (ksOf l)) (k + 1) := by
                rw [coreL_yes HP.out.1 HP.out.2 (Hall.out _ (List.mem_of_getElem? HP.out.2)), ByteArray.data_append, Array.toList_append, Ht'.out, cut_one s k hlt]
              refine ⟨?_, e1⟩
              have e2 : (t' ++ s.extract k (k + 1)).size = (t' ++ s.extract k (k + 1)).data.toList.length := by rw [Array.length_toList]; rfl
              rw [e2, e1]
              exact coreL_len _ _ _
            have Fin := Lib.hid fin
            clear fin
            go_wp2_with (first | (go_at_call 12; refine (law_call _ _).mono ?_; rintro e w' ⟨rfl, rfl⟩; rw [hc]) | (go_at_call 13; refine (law_return _ _).mono ?_; rintro e w' ⟨rfl, rfl⟩; rw [hr]))
            go_roundw
            case rel => exact ⟨k + 1, _, by omega, by go_num, rfl, Fin.out.1, Fin.out.2, HBk.out⟩
            case measure => simp [intOf]; omega
        · -- an inner letter
          rw [if_neg (by omega)] at cq
          have hcn : Hid (coreL l (prts (ksOf l)) (k + 1) = coreL l (prts (ksOf l)) k) := coreL_no (by rw [HP.out.1]; simp)
          go_wp2_with (first | (go_at_call 12; refine (law_call _ _).mono ?_; rintro e w' ⟨rfl, rfl⟩; rw [hc]) | (go_at_call 13; refine (law_return _ _).mono ?_; rintro e w' ⟨rfl, rfl⟩; rw [hr]))
          go_roundw
          case rel => exact ⟨k + 1, t', by omega, by go_num, rfl, by omega, by show _ = _; rw [hcn.out]; exact Ht'.out, HBk.out⟩
          case measure => simp [intOf]; omega
      · obtain rfl : k = s.size := by omega
        have e2 : t' = c := by rw [Hc.out]; apply ByteArray.ext; exact Array.toList_inj.1 (by rw [Ht'.out])
        subst e2
        have HBf := Lib.hid (HB.out.1.trans (hBk.mono HB.out.1.size))
        clear Ht' htk hBk
        go_wp2
        go_ret
        exact ⟨by simp, HBf.out⟩
end Go.Proofs.Ytnclhgaikglbgaa
