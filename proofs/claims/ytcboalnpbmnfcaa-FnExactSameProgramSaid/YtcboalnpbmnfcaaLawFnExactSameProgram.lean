/- The law FnExactSameProgram returns true at every input, and each argument reads afterwards as it read before: no condition. -/
import Derived.Test.YtcboalnpbmnfcaaSamePS
import Derived.Test.YtcboalnpbmnfcaaPosts
import Derived.Deep.RegionWith
import Derived.Deep.DeepCutAuto
import Derived.WalkKit
import Derived.ProofKit
import Derived.OpenShut
import Derived.ShutString
import Derived.ChangeOld
import Derived.Below
namespace Go.Proofs.Ytcboalnpbmnfcaa
open Go.RowKit
set_option linter.unusedVariables false

set_option maxHeartbeats 25600000 in
set_option maxRecDepth 100000 in
theorem FnExactSameProgram_walk (u0 : Value) (a0 : Pg) (u1 : Value) (a1 : Pg) (w : World) (w0 : PgR w u0 a0) (w1 : PgR w u1 a1) :
    Calls Try.prog 9 #[u0, u1] w fun e w' => e = .returned (.bool true) ∧ Below w.heap.size w w' := by
  obtain ⟨Ap0_0, np0_0, kp0_0, rfl⟩ := PgR.form w0
  have R0 := Lib.hid w0
  clear w0
  obtain ⟨Ap1_0, np1_0, kp1_0, rfl⟩ := PgR.form w1
  have R1 := Lib.hid w1
  clear w1
  have hB := ((Below.refl w.heap.size w).alloc (Nat.le_refl _) (.cells #[.slice Ap0_0 np0_0 kp0_0] 67)).alloc (by simp) (.cells #[.slice Ap1_0 np1_0 kp1_0] 67)
  have pb0 := (Bx.new w 67 #[.slice Ap0_0 np0_0 kp0_0]).alloc (.cells #[.slice Ap1_0 np1_0 kp1_0] 67)
  have pb1 := Bx.new (w.alloc (.cells #[.slice Ap0_0 np0_0 kp0_0] 67)) 67 #[.slice Ap1_0 np1_0 kp1_0]
  simp only [World.size_alloc] at pb1
  have q0 := fun (W : World) (hw : Below w.heap.size w W) => sz_program 1048576 W (Nat.le_refl _) (program_r.later R0.out hw)
  by_cases t0 : cntPg a0 ≤ 1048576
  case' neg =>
    simp only [dec_no t0] at q0
    have Q0 := Lib.hid q0
    clear q0 t0
    go_enter Try.func9, Try.ntmps9
    go_wp2_with fail
    refine (Q0.out _ hB).mono ?_
    rintro e w101 ⟨rfl, hb101⟩
    replace pb0 := pb0.later hb101
    replace pb1 := pb1.later hb101
    replace hB := hB.trans (hb101.mono hB.size)
    have z_ := hb101.size
    try simp only [World.size_alloc] at z_
    have Z0 := Lib.hid z_
    clear z_
    go_wp2
    go_ret
    exact ⟨rfl, hB⟩
  have Hbd0 := Lib.hid (bd_of_program (show cntPg a0 ≤ 1048576 by omega))
  simp only [dec_yes t0] at q0
  obtain ⟨l0, hl0⟩ : ∃ l, l = 1048576 - cntPg a0 := ⟨_, rfl⟩
  have ll0 : l0 ≤ 1048576 := by omega
  simp only [← hl0] at q0
  have Q0 := Lib.hid q0
  clear q0 t0 hl0
  have q1 := fun (W : World) (hw : Below w.heap.size w W) => sz_program l0 W ll0 (program_r.later R1.out hw)
  by_cases t1 : cntPg a1 ≤ l0
  case' neg =>
    simp only [dec_no t1] at q1
    have Q1 := Lib.hid q1
    clear q1 t1
    go_enter Try.func9, Try.ntmps9
    go_wp2_with fail
    refine (Q0.out _ hB).mono ?_
    rintro e w101 ⟨rfl, hb101⟩
    replace pb0 := pb0.later hb101
    replace pb1 := pb1.later hb101
    replace hB := hB.trans (hb101.mono hB.size)
    have z_ := hb101.size
    try simp only [World.size_alloc] at z_
    have Z0 := Lib.hid z_
    clear z_
    obtain ⟨pb1_0, pb1l⟩ := id (Bx.all1 pb1)
    go_wp2_with fail
    refine (Q1.out _ hB).mono ?_
    rintro e w102 ⟨rfl, hb102⟩
    clear pb1_0 pb1l
    replace pb0 := pb0.later hb102
    replace pb1 := pb1.later hb102
    replace hB := hB.trans (hb102.mono hB.size)
    have z_ := hb102.size
    try simp only [World.size_alloc] at z_
    have Z1 := Lib.hid z_
    clear z_
    go_wp2
    go_ret
    exact ⟨rfl, hB⟩
  have Hbd1 := Lib.hid (bd_of_program (show cntPg a1 ≤ 1048576 by omega))
  simp only [dec_yes t1] at q1
  obtain ⟨l1, hl1⟩ : ∃ l, l = l0 - cntPg a1 := ⟨_, rfl⟩
  have ll1 : l1 ≤ 1048576 := by omega
  simp only [← hl1] at q1
  have Q1 := Lib.hid q1
  clear q1 t1 hl1
  obtain ⟨r0, hS, hI⟩ := both_SameProgram a0 a1
  have HS := Lib.hid hS
  have HI := Lib.hid hI
  clear hS hI
  go_enter Try.func9, Try.ntmps9
  go_wp2_with fail
  refine (Q0.out _ hB).mono ?_
  rintro e w101 ⟨rfl, hb101⟩
  clear Q0
  replace pb0 := pb0.later hb101
  replace pb1 := pb1.later hb101
  replace hB := hB.trans (hb101.mono hB.size)
  have z_ := hb101.size
  try simp only [World.size_alloc] at z_
  have Z0 := Lib.hid z_
  clear z_
  obtain ⟨pb1_0, pb1l⟩ := id (Bx.all1 pb1)
  go_wp2_with fail
  refine (Q1.out _ hB).mono ?_
  rintro e w102 ⟨rfl, hb102⟩
  clear pb1_0 pb1l
  clear Q1
  replace pb0 := pb0.later hb102
  replace pb1 := pb1.later hb102
  replace hB := hB.trans (hb102.mono hB.size)
  have z_ := hb102.size
  try simp only [World.size_alloc] at z_
  have Z1 := Lib.hid z_
  clear z_
  have hR := Below.refl w102.heap.size w102
  have To0 := Lib.hid fun (W : World) (hw : Below w102.heap.size w102 W) => to_program W Hbd0.out (program_r.later R0.out (hB.trans (hw.mono hB.size)))
  have To1 := Lib.hid fun (W : World) (hw : Below w102.heap.size w102 W) => to_program W Hbd1.out (program_r.later R1.out (hB.trans (hw.mono hB.size)))
  obtain ⟨pb0_0, pb0l⟩ := id (Bx.all1 pb0)
  obtain ⟨pb1_0, pb1l⟩ := id (Bx.all1 pb1)
  go_upto_region 8 with fail
  go_cut [6] (fun s wx => s = .bool r0 ∧ Below w102.heap.size w102 wx)
  case first =>
    go_region_with (first
      | (go_at_call 36
         with_reducible refine Calls.mono (To0.out _ ?_) ?_
         first | exact hwt1 | exact hR.drew | exact hR
         rintro e wt0 ⟨vt0, bst0, rfl, Et0, hbt0⟩
         have hwt0 : Below w102.heap.size w102 wt0 := by first | exact hwt1.trans (hbt0.mono hwt1.size) | exact hR.drew.trans (hbt0.mono hR.drew.size) | exact hbt0
         obtain ⟨z1_0, zz1⟩ := id (Bx.all1 (pb1.later hwt0)))
      | (go_at_call 36
         with_reducible refine Calls.mono (To1.out _ ?_) ?_
         first | exact hwt0 | exact hR.drew | exact hR
         rintro e wt1 ⟨vt1, bst1, rfl, Et1, hbt1⟩
         have hwt1 : Below w102.heap.size w102 wt1 := by first | exact hwt0.trans (hbt1.mono hwt0.size) | exact hR.drew.trans (hbt1.mono hR.drew.size) | exact hbt1
         obtain ⟨z0_0, zz0⟩ := id (Bx.all1 (pb0.later hwt1)))
      | (go_at_call 35
         refine (HS.out _ _ _ _ _ _ _ Hbd0.out Hbd1.out (by first | exact Et0 | exact (program_ok _).later Et0 hbt1) (by first | exact Et1 | exact (program_ok _).later Et1 hbt0)).mono ?_
         rintro e wz ⟨rfl, hbz⟩
         have hwz : Below w102.heap.size w102 wz := by first | exact hwt0.trans (hbz.mono hwt0.size) | exact hwt1.trans (hbz.mono hwt1.size)))
    all_goals
      go_wp2_with fail
      go_meet
      exact ⟨rfl, hwz⟩
  case rest =>
    obtain ⟨rfl, hwc⟩ := hcut
    clear pb0_0 pb0l pb1_0 pb1l
    clear hR To0 To1
    replace pb0 := pb0.later hwc
    replace pb1 := pb1.later hwc
    replace hB := hB.trans (hwc.mono hB.size)
    have z_ := hwc.size
    try simp only [World.size_alloc] at z_
    have Z2 := Lib.hid z_
    clear z_
    obtain ⟨pb0_0, pb0l⟩ := id (Bx.all1 pb0)
    go_wp2_with fail
    refine (to_program _ Hbd0.out (program_r.later R0.out hB)).mono ?_
    rintro e w103 ⟨vx0, bsx0, rfl, Ex0, hb103⟩
    clear pb0_0 pb0l
    replace pb0 := pb0.later hb103
    replace pb1 := pb1.later hb103
    replace hB := hB.trans (hb103.mono hB.size)
    have z_ := hb103.size
    try simp only [World.size_alloc] at z_
    have Z3 := Lib.hid z_
    clear z_
    have t_ := (program_ok _).lt Ex0
    try simp only [World.size_alloc] at t_
    have Tbsx0 := Lib.hid t_
    clear t_
    obtain ⟨Axb0_0, nxb0_0, kxb0_0, rfl⟩ := Ex0.form
    have hnxb0 := (Below.refl _ w103).alloc (Nat.le_refl _) (.cells #[.slice Axb0_0 nxb0_0 kxb0_0] 72)
    have xb0 := Bx.new w103 72 #[.slice Axb0_0 nxb0_0 kxb0_0]
    replace Ex0 := (program_ok _).later Ex0 hnxb0
    replace pb0 := pb0.later hnxb0
    replace pb1 := pb1.later hnxb0
    replace hB := hB.alloc hB.size (.cells #[.slice Axb0_0 nxb0_0 kxb0_0] 72)
    obtain ⟨pb1_0, pb1l⟩ := id (Bx.all1 pb1)
    go_wp2_with fail
    refine (to_program _ Hbd1.out (program_r.later R1.out hB)).mono ?_
    rintro e w104 ⟨vx1, bsx1, rfl, Ex1, hb104⟩
    clear pb1_0 pb1l
    replace Ex0 := (program_ok _).later Ex0 hb104
    replace pb0 := pb0.later hb104
    replace pb1 := pb1.later hb104
    replace xb0 := xb0.later hb104
    replace hB := hB.trans (hb104.mono hB.size)
    have z_ := hb104.size
    try simp only [World.size_alloc] at z_
    have Z4 := Lib.hid z_
    clear z_
    have t_ := (program_ok _).lt Ex1
    try simp only [World.size_alloc] at t_
    have Tbsx1 := Lib.hid t_
    clear t_
    obtain ⟨Axb1_0, nxb1_0, kxb1_0, rfl⟩ := Ex1.form
    have hnxb1 := (Below.refl _ w104).alloc (Nat.le_refl _) (.cells #[.slice Axb1_0 nxb1_0 kxb1_0] 72)
    have xb1 := Bx.new w104 72 #[.slice Axb1_0 nxb1_0 kxb1_0]
    replace Ex0 := (program_ok _).later Ex0 hnxb1
    replace Ex1 := (program_ok _).later Ex1 hnxb1
    replace pb0 := pb0.later hnxb1
    replace pb1 := pb1.later hnxb1
    replace xb0 := xb0.later hnxb1
    replace hB := hB.alloc hB.size (.cells #[.slice Axb1_0 nxb1_0 kxb1_0] 72)
    obtain ⟨xb0_0, xb0l⟩ := id (Bx.all1 xb0)
    obtain ⟨xb1_0, xb1l⟩ := id (Bx.all1 xb1)
    go_wp2_with fail
    refine (HI.out _ _ _ _ _ _ _ Hbd0.out Hbd1.out Ex0 Ex1).mono ?_
    rintro e w105 ⟨rfl, hb105⟩
    clear xb0_0 xb0l xb1_0 xb1l
    replace Ex0 := (program_ok _).later Ex0 hb105
    replace Ex1 := (program_ok _).later Ex1 hb105
    replace pb0 := pb0.later hb105
    replace pb1 := pb1.later hb105
    replace xb0 := xb0.later hb105
    replace xb1 := xb1.later hb105
    replace hB := hB.trans (hb105.mono hB.size)
    have z_ := hb105.size
    try simp only [World.size_alloc] at z_
    have Z5 := Lib.hid z_
    clear z_
    have hR := Below.refl w105.heap.size w105
    have Hto := Lib.hid fun (W : World) (hw : Below w105.heap.size w105 W) => to_program W Hbd0.out (program_r.later R0.out (hB.trans (hw.mono hB.size)))
    have Heq := Lib.hid fun (W : World) (hw : Below w105.heap.size w105 W) (base : Nat) (v' : Value) (bs : List Nat) (h : PgE base W v' a0 bs) => eq_program W Hbd0.out ((program_ok _).later Ex0 hw) h
    obtain ⟨pb0_0, pb0l⟩ := id (Bx.all1 pb0)
    obtain ⟨xb0_0, xb0l⟩ := id (Bx.all1 xb0)
    go_upto_region 14 with fail
    go_cut [39] (fun sr wx => sr = .bool false ∧ Below w105.heap.size w105 wx)
    case first =>
      go_region_with (first
        | (go_at_call 36
           refine (Hto.out _ (by first | exact hR.drew | exact hR)).mono ?_
           rintro e wt ⟨vt, bst, rfl, Et, hbt⟩
           have hwt : Below w105.heap.size w105 wt := by first | exact hR.drew.trans (hbt.mono hR.drew.size) | exact hbt
           obtain ⟨y0, yl⟩ := id (Bx.all1 (xb0.later hwt)))
        | (go_at_call 38
           refine (Heq.out _ hwt _ _ _ Et).mono ?_
           rintro e wu ⟨rfl, hbu⟩
           have hwu := hwt.trans (hbu.mono hwt.size)))
      all_goals
        go_wp2_with fail
        go_meet
        exact ⟨rfl, hwu⟩
    case rest =>
      obtain ⟨rfl, hwc⟩ := hcut
      clear pb0_0 pb0l xb0_0 xb0l
      clear hR Hto Heq
      replace Ex0 := (program_ok _).later Ex0 hwc
      replace Ex1 := (program_ok _).later Ex1 hwc
      replace pb0 := pb0.later hwc
      replace pb1 := pb1.later hwc
      replace xb0 := xb0.later hwc
      replace xb1 := xb1.later hwc
      replace hB := hB.trans (hwc.mono hB.size)
      have z_ := hwc.size
      try simp only [World.size_alloc] at z_
      have Z6 := Lib.hid z_
      clear z_
      have hR := Below.refl wc.heap.size wc
      have Hto := Lib.hid fun (W : World) (hw : Below wc.heap.size wc W) => to_program W Hbd1.out (program_r.later R1.out (hB.trans (hw.mono hB.size)))
      have Heq := Lib.hid fun (W : World) (hw : Below wc.heap.size wc W) (base : Nat) (v' : Value) (bs : List Nat) (h : PgE base W v' a1 bs) => eq_program W Hbd1.out ((program_ok _).later Ex1 hw) h
      obtain ⟨pb1_0, pb1l⟩ := id (Bx.all1 pb1)
      obtain ⟨xb1_0, xb1l⟩ := id (Bx.all1 xb1)
      go_upto_region 16 with fail
      go_cut [44] (fun sr wx => sr = .bool false ∧ Below wc.heap.size wc wx)
      case first =>
        go_region_with (first
          | (go_at_call 36
             refine (Hto.out _ (by first | exact hR.drew | exact hR)).mono ?_
             rintro e wt ⟨vt, bst, rfl, Et, hbt⟩
             have hwt : Below wc.heap.size wc wt := by first | exact hR.drew.trans (hbt.mono hR.drew.size) | exact hbt
             obtain ⟨y0, yl⟩ := id (Bx.all1 (xb1.later hwt)))
          | (go_at_call 38
             refine (Heq.out _ hwt _ _ _ Et).mono ?_
             rintro e wu ⟨rfl, hbu⟩
             have hwu := hwt.trans (hbu.mono hwt.size)))
        all_goals
          go_wp2_with fail
          go_meet
          exact ⟨rfl, hwu⟩
      case rest =>
        obtain ⟨rfl, hwc⟩ := hcut
        clear pb1_0 pb1l xb1_0 xb1l
        clear hR Hto Heq
        replace Ex0 := (program_ok _).later Ex0 hwc
        replace Ex1 := (program_ok _).later Ex1 hwc
        replace pb0 := pb0.later hwc
        replace pb1 := pb1.later hwc
        replace xb0 := xb0.later hwc
        replace xb1 := xb1.later hwc
        replace hB := hB.trans (hwc.mono hB.size)
        have z_ := hwc.size
        try simp only [World.size_alloc] at z_
        have Z7 := Lib.hid z_
        clear z_
        go_wp2
        go_ret
        exact ⟨rfl, hB⟩
end Go.Proofs.Ytcboalnpbmnfcaa

namespace Go.Proofs.Ytcboalnpbmnfcaa.fnExactSameProgramDone
open Go.ChangeShapes Go.WideShapes Go.ChangeAt Go.RowKit
open Go.ChangeMaps (open_string shut_string)
set_option linter.unusedVariables false

theorem own : ownKnob Try.prog.godebug = none := by kernel_rfl
theorem laidOut : laidOutB Try.prog = true := by kernel_rfl

set_option maxRecDepth 100000 in
theorem lifted (os : Os) (started : os.Started) (H : Type) (enc : TypeId × Value → H) :
    ReturnsInHanded {} Try.checked os 9 .any (Rows.fnExactSameProgramSpec.pre6 enc Try.prog Try.f9 Rows.fnExactSameProgramRow.domain false) (Rows.fnExactSameProgramSpec.post enc Try.prog Try.f9 false true false false) := by
  refine returnsInHanded_of_change (C := Try.checked) own started (by kernel_rfl) Try.func9
    (ChangeSpec.witness6 (enc := enc) (C := Try.checked) false ⟨#[], #[.agg #[.slice none 0 0], .agg #[.slice none 0 0]], []⟩ 8 (by kernel_rfl) (by kernel_rfl) (by kernel_rfl) (by kernel_rfl)) ?_
  intro W base args ds gs before hval0 hW hcnd _
  have hval : ∀ (j : Nat) t v, Try.f9.params[j]? = some t → args[j]? = some v → Value.okWide Try.prog W .any base t v := hval0
  have hW' := hW
  obtain ⟨p, q, hA0, hV, rfl, hfz, hnd⟩ := hW
  have hA : DataW.TrodAll enc Try.prog W 0 (fun _ => true) true Try.f9.params.toList args.toList ds p := hA0
  rw [Try.params9] at hA hval
  obtain ⟨v0, vs0, d0, ds0, p0, q0, hargs, rfl, rfl, h0, r0⟩ := trodAll_cons hA
  obtain ⟨v1, vs1, d1, ds1, p1, q1, rfl, rfl, rfl, h1, r1⟩ := trodAll_cons r0
  obtain ⟨rfl, rfl, rfl⟩ := trodAll_nil r1
  obtain rfl : args = #[v0, v1] := by cases args; simp_all
  obtain ⟨rfl, rfl⟩ := trodVars_none hV
  have k0 := h0
  have lt0 : ∀ x ∈ p0, x.block < W.heap.size := by obtain ⟨m, hm⟩ := k0; exact DataW.trod_lt m _ _ _ hm
  obtain ⟨c0, w0, _⟩ := open_program (hval 0 67 v0 rfl rfl) h0
  have k1 := h1
  have lt1 : ∀ x ∈ p1, x.block < W.heap.size := by obtain ⟨m, hm⟩ := k1; exact DataW.trod_lt m _ _ _ hm
  obtain ⟨c1, w1, _⟩ := open_program (hval 1 67 v1 rfl rfl) h1
  clear hA0 hval0
  refine (FnExactSameProgram_walk _ c0 _ c1 W w0 w1).mono fun e W' ⟨he, bel⟩ => ?_
  subst he
  exact ⟨_, rfl, _, _, _, [], _, [], hW', trodAll_mk1 (shut_bool Try.underlying4 _), (trodAll_cons_mk (Below.trod laidOut (by kernel_rfl) (of_decide_eq_true (by kernel_rfl)) k0 bel lt0) (trodAll_cons_mk (Below.trod laidOut (by kernel_rfl) (of_decide_eq_true (by kernel_rfl)) k1 bel lt1) trodAll_mk0)), rfl, bel.frame _, fun h => by cases h⟩

theorem over : Rows.fnExactSameProgramRow.holds Try.pinned (OpenSpec.ofChange Rows.fnExactSameProgramSpec) :=
  OpenClaim.holds_of_wide 9 Try.f9 rfl rfl rfl rfl rfl rfl rfl ⟨rfl, rfl, rfl, rfl, rfl⟩ rfl rfl rfl rfl rfl (by kernel_rfl) Try.func9 (by kernel_rfl)
    (of_decide_eq_true (by kernel_rfl)) (by unfold Func.isWrapper; first | (rw [if_pos (by decide +kernel)]; kernel_rfl) | (rw [if_neg (by decide +kernel)]; exact ⟨rfl, rfl⟩))
    (fun os started H enc _ => lifted os started H enc)

theorem proved : Rows.FnExactSameProgramSaid := over
#print axioms proved
end Go.Proofs.Ytcboalnpbmnfcaa.fnExactSameProgramDone
