/- The law FnExactTellsApart returns true at every input, and each argument reads afterwards as it read before: no condition. -/
import Derived.Test.YtcboalnpbmnfcaaTellsS
import Derived.Test.YtcboalnpbmnfcaaTellsC
import Derived.Test.YtcboalnpbmnfcaaPosts
import Derived.Deep.RegionWith
import Derived.Deep.DeepCutAuto
import Derived.WalkKit
import Derived.ProofKit
import Derived.OpenShut
import Derived.ShutString
import Derived.ChangeOld
import Derived.Below
namespace Go.Proofs.Ytcboalnpbmnfcaa
open Go.RowKit
set_option linter.unusedVariables false

set_option maxHeartbeats 25600000 in
set_option maxRecDepth 100000 in
theorem FnExactTellsApart_walk (v0 : Value) (c : Ck) (u v f b : ByteArray) (w : World) (ha : CkR w v0 c) (w1 : u.size ≤ maxLen) (w2 : v.size ≤ maxLen) (w3 : f.size ≤ maxLen) (w4 : b.size ≤ maxLen) :
    Calls Try.prog 4 #[v0, .string u, .string v, .agg #[.string f, .string b]] w fun e w' => e = .returned (.bool true) ∧ Below w.heap.size w w' := by
  unfold maxLen at w1 w2 w3 w4
  have ha0 := ha
  obtain ⟨va, vc, vr, vi, rfl, h1, h2, h3, h4⟩ := ha
  obtain ⟨A, ka, rfl, _⟩ := id h1
  obtain ⟨B, kb, rfl, _⟩ := id h2
  obtain ⟨R, kr, rfl, _⟩ := id h3
  obtain ⟨I, ki, rfl, _⟩ := id h4
  clear h1 h2 h3 h4
  obtain ⟨na, hna⟩ : ∃ n, n = c.accept.length := ⟨_, rfl⟩
  obtain ⟨nb, hnb⟩ : ∃ n, n = c.call.length := ⟨_, rfl⟩
  obtain ⟨nr, hnr⟩ : ∃ n, n = c.ret.length := ⟨_, rfl⟩
  obtain ⟨ni, hni⟩ : ∃ n, n = c.inner.length := ⟨_, rfl⟩
  obtain ⟨s0, hs0⟩ : ∃ n, n = c.stack := ⟨_, rfl⟩
  obtain ⟨s1, hs1⟩ : ∃ n, n = c.start := ⟨_, rfl⟩
  rw [← hna, ← hnb, ← hnr, ← hni, ← hs0, ← hs1] at ha0 ⊢
  have Hs := Lib.hid (And.intro hs0 hs1)
  have Ha := Lib.hid ha0
  clear hna hnb hnr hni hs0 hs1 ha0
  have hB := ((Below.refl w.heap.size w).alloc (Nat.le_refl _) (.cells #[.int .i64 s0, .int .i64 s1, .slice A na ka, .slice B nb kb, .slice R nr kr, .slice I ni ki] 27)).alloc (by simp) (.cells #[.string f, .string b] 38)
  have pb := (Box6.new w (.int .i64 s0) (.int .i64 s1) (.slice A na ka) (.slice B nb kb) (.slice R nr kr) (.slice I ni ki) 27).later ((Below.refl _ _).alloc (Nat.le_refl _) (.cells #[.string f, .string b] 38))
  have xc := Bx.new (w.alloc (.cells #[.int .i64 s0, .int .i64 s1, .slice A na ka, .slice B nb kb, .slice R nr kr, .slice I ni ki] 27)) 38 #[.string f, .string b]
  rw [World.size_alloc] at xc
  by_cases hs1 : u.size ≤ 1048576
  case' neg =>
    have h1 : 1048576 < u.size := by omega
    clear hs1
    go_enter Try.func4, Try.ntmps4
    go_wp2
    go_ret
    exact ⟨rfl, hB⟩
  by_cases hs2 : v.size ≤ 1048576
  case' neg =>
    have h1 : 1048576 < v.size := by omega
    clear hs2
    go_enter Try.func4, Try.ntmps4
    go_wp2
    go_ret
    exact ⟨rfl, hB⟩
  have q0 : Calls Try.prog 10 #[.agg #[.int .i64 s0, .int .i64 s1, .slice A na ka, .slice B nb kb, .slice R nr kr, .slice I ni ki], .int .i64 1048576] ((w.alloc (.cells #[.int .i64 s0, .int .i64 s1, .slice A na ka, .slice B nb kb, .slice R nr kr, .slice I ni ki] 27)).alloc (.cells #[.string f, .string b] 38)) _ := sz_checker 1048576 _ (Nat.le_refl _) (ck_r.later Ha.out hB)
  obtain ⟨p0, p1, p2, p3, p4, p5, pl⟩ := id pb
  by_cases t : cntC c ≤ 1048576
  case' neg =>
    rw [dec_no t] at q0
    have Q0 := Lib.hid q0
    clear q0 t
    go_enter Try.func4, Try.ntmps4
    go_wp2_with fail
    refine Q0.out.mono ?_
    rintro e w1 ⟨rfl, hb1⟩
    go_wp2
    go_ret
    exact ⟨rfl, hB.trans (hb1.mono hB.size)⟩
  have Hbd := Lib.hid (bd_of_cnt t)
  rw [dec_yes t] at q0
  obtain ⟨l, hl⟩ : ∃ l, l = 1048576 - cntC c := ⟨_, rfl⟩
  have ll : l ≤ 1048576 := by omega
  rw [← hl] at q0
  have Q0 := Lib.hid q0
  clear q0 t hl
  have HZ := Lib.hid (fun W => sz_context f b l W ll (by omega) (by omega))
  by_cases ht : f.size + b.size ≤ l
  case' neg =>
    simp only [ht, if_false] at HZ
    go_enter Try.func4, Try.ntmps4
    go_wp2_with fail
    refine Q0.out.mono ?_
    rintro e w101 ⟨rfl, hb101⟩
    have hB1 := hB.trans (hb101.mono hB.size)
    obtain ⟨y0, y1, yl⟩ := id (xc.later hb101).all2
    go_wp2_with fail
    refine (HZ.out _).mono ?_
    rintro e w102 ⟨rfl, hb102⟩
    go_wp2
    go_ret
    exact ⟨rfl, hB1.trans (hb102.mono hB1.size)⟩
  simp only [ht, if_true] at HZ
  have sf : f.size ≤ 1048576 := by omega
  have sb : b.size ≤ 1048576 := by omega
  obtain ⟨l2, hl2⟩ : ∃ l2, l2 = l - f.size - b.size := ⟨_, rfl⟩
  rw [← hl2] at HZ
  clear hl2 ht
  obtain ⟨r0, r1, hS, hI⟩ := both_TellsApart c u v f b hs1 hs2 sf sb
  have HS := Lib.hid hS
  have HI := Lib.hid hI
  clear hS hI
  go_enter Try.func4, Try.ntmps4
  go_wp2_with fail
  refine Q0.out.mono ?_
  rintro e w101 ⟨rfl, hb101⟩
  clear Q0 p0 p1 p2 p3 p4 p5 pl
  replace pb := pb.later hb101
  replace xc := xc.later hb101
  replace hB := hB.trans (hb101.mono hB.size)
  obtain ⟨y0, y1, yl⟩ := id xc.all2
  go_wp2_with fail
  refine (HZ.out _).mono ?_
  rintro e w102 ⟨rfl, hb102⟩
  clear HZ y0 y1 yl hb101
  replace pb := pb.later hb102
  replace xc := xc.later hb102
  replace hB := hB.trans (hb102.mono hB.size)
  have hR := Below.refl w102.heap.size w102
  have To0 := Lib.hid fun (W : World) (hw : Below w102.heap.size w102 W) => to_checker W Hbd.out (ck_r.later Ha.out (hB.trans (hw.mono hB.size)))
  have To1 := Lib.hid fun (W : World) => to_context f b W
  obtain ⟨p0, p1, p2, p3, p4, p5, pl⟩ := id pb
  obtain ⟨y0, y1, yl⟩ := id xc.all2
  go_upto_region 12 with fail
  go_cut [10, 11] (fun sa sc wx => sa = .bool r0 ∧ sc = .int .i64 r1 ∧ Below w102.heap.size w102 wx)
  case first =>
    go_region_with (first
      | (go_at_call 12
         with_reducible refine Calls.mono (To0.out _ ?_) ?_
         first | exact hwt1 | exact hR.drew | exact hR
         rintro e wt0 ⟨vt0, bst0, rfl, Et0, hbt0⟩
         have hwt0 : Below w102.heap.size w102 wt0 := by first | exact hwt1.trans (hbt0.mono hwt1.size) | exact hR.drew.trans (hbt0.mono hR.drew.size) | exact hbt0
         obtain ⟨z10, z11, zz1⟩ := id (xc.later hwt0).all2)
      | (go_at_call 17
         with_reducible refine Calls.mono (To1.out _) ?_
         rintro e wt1 ⟨rfl, hbt1⟩
         have hwt1 : Below w102.heap.size w102 wt1 := by first | exact hwt0.trans (hbt1.mono hwt0.size) | exact hR.drew.trans (hbt1.mono hR.drew.size) | exact hbt1
         obtain ⟨z0, z1, z2, z3, z4, z5, zz0⟩ := id (pb.later hwt1))
      | (go_at_call 16
         refine (HS.out _ _ _ _ Hbd.out (by first | exact Et0 | exact (ck_ok _).later Et0 hbt1)).mono ?_
         rintro e wz ⟨rfl, hbz⟩
         have hwz : Below w102.heap.size w102 wz := by first | exact hwt0.trans (hbz.mono hwt0.size) | exact hwt1.trans (hbz.mono hwt1.size)))
    all_goals
      go_wp2_with fail
      go_meet
      exact ⟨rfl, rfl, hwz⟩
  case rest =>
    obtain ⟨rfl, rfl, hwc⟩ := hcut
    clear p0 p1 p2 p3 p4 p5 pl y0 y1 yl hR To0
    replace pb := pb.later hwc
    replace xc := xc.later hwc
    replace hB := hB.trans (hwc.mono hB.size)
    obtain ⟨p0, p1, p2, p3, p4, p5, pl⟩ := id pb
    go_wp2_with fail
    refine (to_checker _ Hbd.out (ck_r.later Ha.out hB)).mono ?_
    rintro e w104 ⟨vx, bsx, rfl, Ex, hb104⟩
    clear p0 p1 p2 p3 p4 p5 pl
    replace pb := pb.later hb104
    replace xc := xc.later hb104
    replace hB := hB.trans (hb104.mono hB.size)
    obtain ⟨a2, na2, ca2, c2, nc2, cc2, r2, nr2, cr2, i2, ni2, ci2, rfl⟩ := Ex.form
    rw [← Hs.out.1, ← Hs.out.2] at Ex
    rw [← Hs.out.1, ← Hs.out.2]
    have xb := Box6.new w104 (.int .i64 s0) (.int .i64 s1) (.slice a2 na2 ca2) (.slice c2 nc2 cc2) (.slice r2 nr2 cr2) (.slice i2 ni2 ci2) 33
    have hn := (Below.refl _ w104).alloc (Nat.le_refl _) (.cells #[.int .i64 s0, .int .i64 s1, .slice a2 na2 ca2, .slice c2 nc2 cc2, .slice r2 nr2 cr2, .slice i2 ni2 ci2] 33)
    replace Ex := (ck_ok _).later Ex hn
    replace pb := pb.later hn
    replace xc := xc.later hn
    replace hB := hB.alloc hB.size (.cells #[.int .i64 s0, .int .i64 s1, .slice a2 na2 ca2, .slice c2 nc2 cc2, .slice r2 nr2 cr2, .slice i2 ni2 ci2] 33)
    go_upto_region 14 with fail
    obtain ⟨w5, hw5⟩ : ∃ w5, w5 = w104.alloc (.cells #[.int .i64 s0, .int .i64 s1, .slice a2 na2 ca2, .slice c2 nc2 cc2, .slice r2 nr2 cr2, .slice i2 ni2 ci2] 33) := ⟨_, rfl⟩
    rw [← hw5] at xb Ex pb xc hB ⊢
    clear hw5 hn hwc hb104
    have hR := Below.refl w5.heap.size w5
    obtain ⟨x0, x1, x2, x3, x4, x5, xl⟩ := id xb
    obtain ⟨y0, y1, yl⟩ := id xc.all2
    go_cut [13, 14] (fun sa sc wx => sa = .bool r0 ∧ sc = .int .i64 r1 ∧ Below w5.heap.size w5 wx)
    case first =>
      go_region_with (first
        | (go_at_call 17
           with_reducible refine Calls.mono (To1.out _) ?_
           rintro e wt1 ⟨rfl, hbt1⟩
           have hwt1 : Below w5.heap.size w5 wt1 := by first | exact hR.drew.trans (hbt1.mono hR.drew.size) | exact hbt1
           obtain ⟨z0, z1, z2, z3, z4, z5, zz0⟩ := id (xb.later hwt1))
        | (go_at_call 18
           refine (HI.out _ _ _ _ Hbd.out ((ck_ok _).later Ex hwt1)).mono ?_
           rintro e wz ⟨rfl, hbz⟩
           have hwz : Below w5.heap.size w5 wz := hwt1.trans (hbz.mono hwt1.size)))
      all_goals
        go_wp2_with fail
        go_meet
        exact ⟨rfl, rfl, hwz⟩
    case rest =>
      obtain ⟨rfl, rfl, hwc⟩ := hcut
      clear x0 x1 x2 x3 x4 x5 xl y0 y1 yl hR
      replace Ex := (ck_ok _).later Ex hwc
      replace pb := pb.later hwc
      replace xb := xb.later hwc
      replace hB := hB.trans (hwc.mono hB.size)
      obtain ⟨w105, rfl⟩ : ∃ x, x = wc := ⟨_, rfl⟩
      go_upto_region 17 with fail
      have hR := Below.refl w105.heap.size w105
      have Hto := Lib.hid fun (W : World) (hw : Below w105.heap.size w105 W) => to_checker W Hbd.out (ck_r.later Ha.out (hB.trans (hw.mono hB.size)))
      have Heq := Lib.hid fun (W : World) (hw : Below w105.heap.size w105 W) (base : Nat) (v' : Value) (bs : List Nat) (h : CkE base W v' c bs) => eq_checker W Hbd.out ((ck_ok _).later Ex hw) h
      obtain ⟨p0, p1, p2, p3, p4, p5, pl⟩ := id pb
      obtain ⟨x0, x1, x2, x3, x4, x5, xl⟩ := id xb
      go_cut [64] (fun sr wx => sr = .bool false ∧ Below w105.heap.size w105 wx)
      case first =>
        go_region_with (first
          | (go_at_call 12
             refine (Hto.out _ (by first | exact hR.drew | exact hR)).mono ?_
             rintro e wt ⟨vt, bst, rfl, Et, hbt⟩
             have hwt : Below w105.heap.size w105 wt := by first | exact hR.drew.trans (hbt.mono hR.drew.size) | exact hbt
             have y0 := (xb.later hwt).c0
             have y1 := (xb.later hwt).c1
             have y2 := (xb.later hwt).c2
             have y3 := (xb.later hwt).c3
             have y4 := (xb.later hwt).c4
             have y5 := (xb.later hwt).c5)
          | (go_at_call 14
             refine (Heq.out _ hwt _ _ _ Et).mono ?_
             rintro e wu ⟨rfl, hbu⟩
             have hwu := hwt.trans (hbu.mono hwt.size)))
        all_goals
          go_wp2_with fail
          go_meet
          exact ⟨rfl, hwu⟩
      case rest =>
        obtain ⟨rfl, hwc⟩ := hcut
        clear p0 p1 p2 p3 p4 p5 pl x0 x1 x2 x3 x4 x5 xl
        replace Ex := (ck_ok _).later Ex hwc
        replace pb := pb.later hwc
        replace xb := xb.later hwc
        replace hB := hB.trans (hwc.mono hB.size)
        go_wp2
        go_ret
        exact ⟨rfl, hB⟩
end Go.Proofs.Ytcboalnpbmnfcaa

namespace Go.Proofs.Ytcboalnpbmnfcaa.fnExactTellsApartDone
open Go.ChangeShapes Go.WideShapes Go.ChangeAt Go.RowKit
open Go.ChangeMaps (open_string shut_string)
set_option linter.unusedVariables false

theorem own : ownKnob Try.prog.godebug = none := by kernel_rfl
theorem laidOut : laidOutB Try.prog = true := by kernel_rfl

set_option maxRecDepth 100000 in
theorem lifted (os : Os) (started : os.Started) (H : Type) (enc : TypeId × Value → H) :
    ReturnsInHanded {} Try.checked os 4 .any (Rows.fnExactTellsApartSpec.pre6 enc Try.prog Try.f4 Rows.fnExactTellsApartRow.domain false) (Rows.fnExactTellsApartSpec.post enc Try.prog Try.f4 false true false false) := by
  refine returnsInHanded_of_change (C := Try.checked) own started (by kernel_rfl) Try.func4
    (ChangeSpec.witness6 (enc := enc) (C := Try.checked) false ⟨#[], #[.agg #[.int .i64 0, .int .i64 0, .slice none 0 0, .slice none 0 0, .slice none 0 0, .slice none 0 0], .string ByteArray.empty, .string ByteArray.empty, .agg #[.string ByteArray.empty, .string ByteArray.empty]], []⟩ 8 (by kernel_rfl) (by kernel_rfl) (by kernel_rfl) (by kernel_rfl)) ?_
  intro W base args ds gs before hval0 hW hcnd _
  have hval : ∀ (j : Nat) t v, Try.f4.params[j]? = some t → args[j]? = some v → Value.okWide Try.prog W .any base t v := hval0
  have hW' := hW
  obtain ⟨p, q, hA0, hV, rfl, hfz, hnd⟩ := hW
  have hA : DataW.TrodAll enc Try.prog W 0 (fun _ => true) true Try.f4.params.toList args.toList ds p := hA0
  rw [Try.params4] at hA hval
  obtain ⟨v0, vs0, d0, ds0, p0, q0, hargs, rfl, rfl, h0, r0⟩ := trodAll_cons hA
  obtain ⟨v1, vs1, d1, ds1, p1, q1, rfl, rfl, rfl, h1, r1⟩ := trodAll_cons r0
  obtain ⟨v2, vs2, d2, ds2, p2, q2, rfl, rfl, rfl, h2, r2⟩ := trodAll_cons r1
  obtain ⟨v3, vs3, d3, ds3, p3, q3, rfl, rfl, rfl, h3, r3⟩ := trodAll_cons r2
  obtain ⟨rfl, rfl, rfl⟩ := trodAll_nil r3
  obtain rfl : args = #[v0, v1, v2, v3] := by cases args; simp_all
  obtain ⟨rfl, rfl⟩ := trodVars_none hV
  obtain ⟨c0, R0, _⟩ := open_ck (hval 0 27 v0 rfl rfl) h0
  have k0 := h0
  have lt0 : ∀ x ∈ p0, x.block < W.heap.size := by obtain ⟨m, hm⟩ := k0; exact DataW.trod_lt m _ _ _ hm
  obtain ⟨a1, rfl, rfl, rfl, w1⟩ := open_string Try.underlying9 (hval 1 9 v1 rfl rfl) h1
  obtain ⟨a2, rfl, rfl, rfl, w2⟩ := open_string Try.underlying9 (hval 2 9 v2 rfl rfl) h2
  obtain ⟨a3, a4, rfl, w3, w4⟩ := open_cx (hval 3 38 v3 rfl rfl) h3
  have k3 := h3
  have lt3 : ∀ x ∈ p3, x.block < W.heap.size := by obtain ⟨m, hm⟩ := k3; exact DataW.trod_lt m _ _ _ hm
  clear hA0 hval0
  refine (FnExactTellsApart_walk v0 c0 a1 a2 a3 a4 W R0 w1 w2 w3 w4).mono fun e W' ⟨he, bel⟩ => ?_
  subst he
  exact ⟨_, rfl, _, _, _, [], _, [], hW', trodAll_mk1 (shut_bool Try.underlying4 _), (trodAll_cons_mk (Below.trod laidOut (by kernel_rfl) (of_decide_eq_true (by kernel_rfl)) k0 bel lt0) (trodAll_cons_mk (shut_string Try.underlying9 w1) (trodAll_cons_mk (shut_string Try.underlying9 w2) (trodAll_cons_mk (Below.trod laidOut (by kernel_rfl) (of_decide_eq_true (by kernel_rfl)) k3 bel lt3) trodAll_mk0)))), rfl, bel.frame _, fun h => by cases h⟩

theorem over : Rows.fnExactTellsApartRow.holds Try.pinned (OpenSpec.ofChange Rows.fnExactTellsApartSpec) :=
  OpenClaim.holds_of_wide 4 Try.f4 rfl rfl rfl rfl rfl rfl rfl ⟨rfl, rfl, rfl, rfl, rfl⟩ rfl rfl rfl rfl rfl (by kernel_rfl) Try.func4 (by kernel_rfl)
    (of_decide_eq_true (by kernel_rfl)) (by unfold Func.isWrapper; first | (rw [if_pos (by decide +kernel)]; kernel_rfl) | (rw [if_neg (by decide +kernel)]; exact ⟨rfl, rfl⟩))
    (fun os started H enc _ => lifted os started H enc)

theorem proved : Rows.FnExactTellsApartSaid := over
#print axioms proved
end Go.Proofs.Ytcboalnpbmnfcaa.fnExactTellsApartDone
