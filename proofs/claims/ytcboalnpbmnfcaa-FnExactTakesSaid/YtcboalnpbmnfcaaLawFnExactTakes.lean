/- The law FnExactTakes returns true at every input, and each argument reads afterwards as it read before: no condition. -/
import Derived.Test.YtcboalnpbmnfcaaTakes
import Derived.Test.YtcboalnpbmnfcaaPosts
import Derived.Deep.RegionWith
import Derived.Deep.DeepCutAuto
import Derived.WalkKit
import Derived.ProofKit
import Derived.OpenShut
import Derived.ShutString
import Derived.ChangeOld
import Derived.Below
namespace Go.Proofs.Ytcboalnpbmnfcaa
open Go.RowKit
set_option linter.unusedVariables false

set_option maxHeartbeats 25600000 in
set_option maxRecDepth 100000 in
theorem FnExactTakes_walk (v0 : Value) (c : Ck) (a1 : ByteArray) (w : World) (ha : CkR w v0 c) (w1 : a1.size ≤ maxLen) :
    Calls Try.prog 3 #[v0, .string a1] w fun e w' => e = .returned (.bool true) ∧ Below w.heap.size w w' := by
  unfold maxLen at w1
  have ha0 := ha
  obtain ⟨va, vc, vr, vi, rfl, h1, h2, h3, h4⟩ := ha
  obtain ⟨A, ka, rfl, _⟩ := id h1
  obtain ⟨B, kb, rfl, _⟩ := id h2
  obtain ⟨R, kr, rfl, _⟩ := id h3
  obtain ⟨I, ki, rfl, _⟩ := id h4
  clear h1 h2 h3 h4
  obtain ⟨na, hna⟩ : ∃ n, n = c.accept.length := ⟨_, rfl⟩
  obtain ⟨nb, hnb⟩ : ∃ n, n = c.call.length := ⟨_, rfl⟩
  obtain ⟨nr, hnr⟩ : ∃ n, n = c.ret.length := ⟨_, rfl⟩
  obtain ⟨ni, hni⟩ : ∃ n, n = c.inner.length := ⟨_, rfl⟩
  obtain ⟨s0, hs0⟩ : ∃ n, n = c.stack := ⟨_, rfl⟩
  obtain ⟨s1, hs1⟩ : ∃ n, n = c.start := ⟨_, rfl⟩
  rw [← hna, ← hnb, ← hnr, ← hni, ← hs0, ← hs1] at ha0 ⊢
  have Hs := Lib.hid (And.intro hs0 hs1)
  have Ha := Lib.hid ha0
  clear hna hnb hnr hni hs0 hs1 ha0
  have hB := (Below.refl w.heap.size w).alloc (Nat.le_refl _) (.cells #[.int .i64 s0, .int .i64 s1, .slice A na ka, .slice B nb kb, .slice R nr kr, .slice I ni ki] 27)
  have pb := Box6.new w (.int .i64 s0) (.int .i64 s1) (.slice A na ka) (.slice B nb kb) (.slice R nr kr) (.slice I ni ki) 27
  by_cases hs1 : a1.size ≤ 1048576
  case' neg =>
    have h1 : 1048576 < a1.size := by omega
    clear hs1
    go_enter Try.func3, Try.ntmps3
    go_wp2
    go_ret
    exact ⟨rfl, hB⟩
  have q0 : Calls Try.prog 10 #[.agg #[.int .i64 s0, .int .i64 s1, .slice A na ka, .slice B nb kb, .slice R nr kr, .slice I ni ki], .int .i64 1048576] (w.alloc (.cells #[.int .i64 s0, .int .i64 s1, .slice A na ka, .slice B nb kb, .slice R nr kr, .slice I ni ki] 27)) _ := sz_checker 1048576 _ (Nat.le_refl _) (ck_r.later Ha.out hB)
  by_cases t : cntC c ≤ 1048576
  case' neg =>
    rw [dec_no t] at q0
    have Q0 := Lib.hid q0
    clear q0 t
    go_enter Try.func3, Try.ntmps3
    go_wp2_with fail
    refine Q0.out.mono ?_
    rintro e w1 ⟨rfl, hb1⟩
    go_wp2
    go_ret
    exact ⟨rfl, hB.trans (hb1.mono hB.size)⟩
  have Hbd := Lib.hid (bd_of_cnt t)
  rw [dec_yes t] at q0
  generalize 1048576 - cntC c = l at q0
  have Q0 := Lib.hid q0
  clear q0 t
  obtain ⟨r0, r1, hS, hI⟩ := both_Takes c a1 hs1
  have HS := Lib.hid hS
  have HI := Lib.hid hI
  clear hS hI
  go_enter Try.func3, Try.ntmps3
  go_wp2_with fail
  refine Q0.out.mono ?_
  rintro e w101 ⟨rfl, hb101⟩
  clear Q0
  replace pb := pb.later hb101
  replace hB := hB.trans (hb101.mono hB.size)
  obtain ⟨p0, p1, p2, p3, p4, p5, pl⟩ := id pb
  go_wp2_with fail
  refine (to_checker _ Hbd.out (ck_r.later Ha.out hB)).mono ?_
  rintro e w102 ⟨vm, bsm, rfl, Em, hb102⟩
  clear p0 p1 p2 p3 p4 p5 pl
  replace pb := pb.later hb102
  replace hB := hB.trans (hb102.mono hB.size)
  go_wp2_with fail
  refine (HS.out _ _ _ _ Hbd.out Em).mono ?_
  rintro e w103 ⟨rfl, hb103⟩
  clear Em
  replace pb := pb.later hb103
  replace hB := hB.trans (hb103.mono hB.size)
  obtain ⟨p0, p1, p2, p3, p4, p5, pl⟩ := id pb
  go_wp2_with fail
  refine (to_checker _ Hbd.out (ck_r.later Ha.out hB)).mono ?_
  rintro e w104 ⟨vx, bsx, rfl, Ex, hb104⟩
  clear p0 p1 p2 p3 p4 p5 pl
  replace pb := pb.later hb104
  replace hB := hB.trans (hb104.mono hB.size)
  have xlt := fun b hb => (ck_ok _).lt Ex b hb
  obtain ⟨a2, na2, ca2, c2, nc2, cc2, r2, nr2, cr2, i2, ni2, ci2, rfl⟩ := Ex.form
  rw [← Hs.out.1, ← Hs.out.2] at Ex
  rw [← Hs.out.1, ← Hs.out.2]
  have xb := Box6.new w104 (.int .i64 s0) (.int .i64 s1) (.slice a2 na2 ca2) (.slice c2 nc2 cc2) (.slice r2 nr2 cr2) (.slice i2 ni2 ci2) 33
  have hn := (Below.refl _ w104).alloc (Nat.le_refl _) (.cells #[.int .i64 s0, .int .i64 s1, .slice a2 na2 ca2, .slice c2 nc2 cc2, .slice r2 nr2 cr2, .slice i2 ni2 ci2] 33)
  have xbn : ∀ b ∈ bsx, b < w104.heap.size := fun b hb => (xlt b hb).2
  have xold := hB.size
  replace Ex := (ck_ok _).later Ex hn
  replace pb := pb.later hn
  replace hB := hB.alloc hB.size (.cells #[.int .i64 s0, .int .i64 s1, .slice a2 na2 ca2, .slice c2 nc2 cc2, .slice r2 nr2 cr2, .slice i2 ni2 ci2] 33)
  obtain ⟨x0, x1, x2, x3, x4, x5, xl⟩ := id xb
  go_wp2_with fail
  refine (HI.out _ _ _ _ Hbd.out Ex).mono ?_
  rintro e w105 ⟨rfl, hb105⟩
  clear x0 x1 x2 x3 x4 x5 xl
  replace Ex := (ck_ok _).later Ex hb105
  replace pb := pb.later hb105
  replace xb := xb.later hb105
  replace hB := hB.trans (hb105.mono hB.size)
  go_upto_region 12 with fail
  have hR := Below.refl w105.heap.size w105
  have Hto := Lib.hid fun (W : World) (hw : Below w105.heap.size w105 W) => to_checker W Hbd.out (ck_r.later Ha.out (hB.trans (hw.mono hB.size)))
  have Heq := Lib.hid fun (W : World) (hw : Below w105.heap.size w105 W) (base : Nat) (v' : Value) (bs : List Nat) (h : CkE base W v' c bs) => eq_checker W Hbd.out ((ck_ok _).later Ex hw) h
  obtain ⟨p0, p1, p2, p3, p4, p5, pl⟩ := id pb
  obtain ⟨x0, x1, x2, x3, x4, x5, xl⟩ := id xb
  go_cut [46] (fun sr wx => sr = .bool false ∧ Below w105.heap.size w105 wx)
  case first =>
    go_region_with (first
      | (go_at_call 12
         refine (Hto.out _ (by first | exact hR.drew | exact hR)).mono ?_
         rintro e wt ⟨vt, bst, rfl, Et, hbt⟩
         have hwt : Below w105.heap.size w105 wt := by first | exact hR.drew.trans (hbt.mono hR.drew.size) | exact hbt
         have y0 := (xb.later hwt).c0
         have y1 := (xb.later hwt).c1
         have y2 := (xb.later hwt).c2
         have y3 := (xb.later hwt).c3
         have y4 := (xb.later hwt).c4
         have y5 := (xb.later hwt).c5)
      | (go_at_call 14
         refine (Heq.out _ hwt _ _ _ Et).mono ?_
         rintro e wu ⟨rfl, hbu⟩
         have hwu := hwt.trans (hbu.mono hwt.size)))
    all_goals
      go_wp2_with fail
      go_meet
      exact ⟨rfl, hwu⟩
  case rest =>
    obtain ⟨rfl, hwc⟩ := hcut
    clear p0 p1 p2 p3 p4 p5 pl x0 x1 x2 x3 x4 x5 xl
    replace Ex := (ck_ok _).later Ex hwc
    replace pb := pb.later hwc
    replace xb := xb.later hwc
    replace hB := hB.trans (hwc.mono hB.size)
    go_wp2
    go_ret
    exact ⟨rfl, hB⟩
end Go.Proofs.Ytcboalnpbmnfcaa

namespace Go.Proofs.Ytcboalnpbmnfcaa.fnExactTakesDone
open Go.ChangeShapes Go.WideShapes Go.ChangeAt Go.RowKit
open Go.ChangeMaps (open_string shut_string)
set_option linter.unusedVariables false

theorem own : ownKnob Try.prog.godebug = none := by kernel_rfl
theorem laidOut : laidOutB Try.prog = true := by kernel_rfl

set_option maxRecDepth 100000 in
theorem lifted (os : Os) (started : os.Started) (H : Type) (enc : TypeId × Value → H) :
    ReturnsInHanded {} Try.checked os 3 .any (Rows.fnExactTakesSpec.pre6 enc Try.prog Try.f3 Rows.fnExactTakesRow.domain false) (Rows.fnExactTakesSpec.post enc Try.prog Try.f3 false true false false) := by
  refine returnsInHanded_of_change (C := Try.checked) own started (by kernel_rfl) Try.func3
    (ChangeSpec.witness6 (enc := enc) (C := Try.checked) false ⟨#[], #[.agg #[.int .i64 0, .int .i64 0, .slice none 0 0, .slice none 0 0, .slice none 0 0, .slice none 0 0], .string ByteArray.empty], []⟩ 8 (by kernel_rfl) (by kernel_rfl) (by kernel_rfl) (by kernel_rfl)) ?_
  intro W base args ds gs before hval0 hW hcnd _
  have hval : ∀ (j : Nat) t v, Try.f3.params[j]? = some t → args[j]? = some v → Value.okWide Try.prog W .any base t v := hval0
  have hW' := hW
  obtain ⟨p, q, hA0, hV, rfl, hfz, hnd⟩ := hW
  have hA : DataW.TrodAll enc Try.prog W 0 (fun _ => true) true Try.f3.params.toList args.toList ds p := hA0
  rw [Try.params3] at hA hval
  obtain ⟨v0, vs0, d0, ds0, p0, q0, hargs, rfl, rfl, h0, r0⟩ := trodAll_cons hA
  obtain ⟨v1, vs1, d1, ds1, p1, q1, rfl, rfl, rfl, h1, r1⟩ := trodAll_cons r0
  obtain ⟨rfl, rfl, rfl⟩ := trodAll_nil r1
  obtain rfl : args = #[v0, v1] := by cases args; simp_all
  obtain ⟨rfl, rfl⟩ := trodVars_none hV
  obtain ⟨c0, R0, _⟩ := open_ck (hval 0 27 v0 rfl rfl) h0
  have k0 := h0
  have lt0 : ∀ x ∈ p0, x.block < W.heap.size := by obtain ⟨m, hm⟩ := k0; exact DataW.trod_lt m _ _ _ hm
  obtain ⟨a1, rfl, rfl, rfl, w1⟩ := open_string Try.underlying9 (hval 1 9 v1 rfl rfl) h1
  clear hA0 hval0
  refine (FnExactTakes_walk v0 c0 a1 W R0 w1).mono fun e W' ⟨he, bel⟩ => ?_
  subst he
  exact ⟨_, rfl, _, _, _, [], _, [], hW', trodAll_mk1 (shut_bool Try.underlying4 _), (trodAll_cons_mk (Below.trod laidOut (by kernel_rfl) (of_decide_eq_true (by kernel_rfl)) k0 bel lt0) (trodAll_cons_mk (shut_string Try.underlying9 w1) trodAll_mk0)), rfl, bel.frame _, fun h => by cases h⟩

theorem over : Rows.fnExactTakesRow.holds Try.pinned (OpenSpec.ofChange Rows.fnExactTakesSpec) :=
  OpenClaim.holds_of_wide 3 Try.f3 rfl rfl rfl rfl rfl rfl rfl ⟨rfl, rfl, rfl, rfl, rfl⟩ rfl rfl rfl rfl rfl (by kernel_rfl) Try.func3 (by kernel_rfl)
    (of_decide_eq_true (by kernel_rfl)) (by unfold Func.isWrapper; first | (rw [if_pos (by decide +kernel)]; kernel_rfl) | (rw [if_neg (by decide +kernel)]; exact ⟨rfl, rfl⟩))
    (fun os started H enc _ => lifted os started H enc)

theorem proved : Rows.FnExactTakesSaid := over
#print axioms proved
end Go.Proofs.Ytcboalnpbmnfcaa.fnExactTakesDone
