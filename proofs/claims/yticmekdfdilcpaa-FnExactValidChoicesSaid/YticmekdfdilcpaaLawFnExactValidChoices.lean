/- The law FnExactValidChoices returns true at every input, and each argument reads afterwards as it read before: no condition. -/
import Derived.Test.YticmekdfdilcpaaOkV
import Derived.Test.YticmekdfdilcpaaPosts
import Derived.Deep.RegionWith
import Derived.Deep.DeepCutAuto
import Derived.WalkKit
import Derived.ProofKit
import Derived.OpenShut
import Derived.ShutString
import Derived.ChangeOld
import Derived.Below
namespace Go.Proofs.Yticmekdfdilcpaa
open Go.RowKit
set_option linter.unusedVariables false

set_option maxHeartbeats 25600000 in
set_option maxRecDepth 100000 in
theorem FnExactValidChoices_walk (u0 : Value) (a0 : Ch) (w : World) (w0 : ChR w u0 a0) :
    Calls Try.prog 3 #[u0] w fun e w' => e = .returned (.bool true) ∧ Below w.heap.size w w' := by
  obtain ⟨Ap0_0, np0_0, kp0_0, Ap0_1, np0_1, kp0_1, Ap0_2, np0_2, kp0_2, Ap0_3, np0_3, kp0_3, Ap0_4, np0_4, kp0_4, rfl⟩ := ChR.form w0
  have R0 := Lib.hid w0
  clear w0
  have hB := (Below.refl w.heap.size w).alloc (Nat.le_refl _) (.cells #[.int .i64 a0.stack, .slice Ap0_0 np0_0 kp0_0, .slice Ap0_1 np0_1 kp0_1, .slice Ap0_2 np0_2 kp0_2, .slice Ap0_3 np0_3 kp0_3, .slice Ap0_4 np0_4 kp0_4] 28)
  have pb0 := Bx.new w 28 #[.int .i64 a0.stack, .slice Ap0_0 np0_0 kp0_0, .slice Ap0_1 np0_1 kp0_1, .slice Ap0_2 np0_2 kp0_2, .slice Ap0_3 np0_3 kp0_3, .slice Ap0_4 np0_4 kp0_4]
  have q0 := fun (W : World) (hw : Below w.heap.size w W) => sz_choices 1048576 W (Nat.le_refl _) (choices_r.later R0.out hw)
  by_cases t0 : cntH a0 ≤ 1048576
  case' neg =>
    simp only [dec_no t0] at q0
    have Q0 := Lib.hid q0
    clear q0 t0
    go_enter Try.func3, Try.ntmps3
    go_wp2_with fail
    refine (Q0.out _ hB).mono ?_
    rintro e w101 ⟨rfl, hb101⟩
    replace pb0 := pb0.later hb101
    replace hB := hB.trans (hb101.mono hB.size)
    have z_ := hb101.size
    try simp only [World.size_alloc] at z_
    have Z0 := Lib.hid z_
    clear z_
    go_wp2
    go_ret
    exact ⟨rfl, hB⟩
  have Hbd0 := Lib.hid (bd_of_choices (show cntH a0 ≤ 1048576 by omega))
  simp only [dec_yes t0] at q0
  obtain ⟨l0, hl0⟩ : ∃ l, l = 1048576 - cntH a0 := ⟨_, rfl⟩
  have ll0 : l0 ≤ 1048576 := by omega
  simp only [← hl0] at q0
  have Q0 := Lib.hid q0
  clear q0 t0 hl0
  obtain ⟨r0, hS, hI⟩ := both_ValidChoices a0
  have HS := Lib.hid hS
  have HI := Lib.hid hI
  clear hS hI
  go_enter Try.func3, Try.ntmps3
  go_wp2_with fail
  refine (Q0.out _ hB).mono ?_
  rintro e w101 ⟨rfl, hb101⟩
  clear Q0
  replace pb0 := pb0.later hb101
  replace hB := hB.trans (hb101.mono hB.size)
  have z_ := hb101.size
  try simp only [World.size_alloc] at z_
  have Z0 := Lib.hid z_
  clear z_
  obtain ⟨pb0_0, pb0_1, pb0_2, pb0_3, pb0_4, pb0_5, pb0l⟩ := id (Bx.all6 pb0)
  go_wp2_with fail
  refine (to_choices _ Hbd0.out (choices_r.later R0.out hB)).mono ?_
  rintro e w102 ⟨vm0, bsm0, rfl, Em0, hb102⟩
  clear pb0_0 pb0_1 pb0_2 pb0_3 pb0_4 pb0_5 pb0l
  replace pb0 := pb0.later hb102
  replace hB := hB.trans (hb102.mono hB.size)
  have z_ := hb102.size
  try simp only [World.size_alloc] at z_
  have Z1 := Lib.hid z_
  clear z_
  go_wp2_with fail
  refine (HS.out _ _ _ _ Hbd0.out Em0).mono ?_
  rintro e w103 ⟨rfl, hb103⟩
  clear Em0
  replace pb0 := pb0.later hb103
  replace hB := hB.trans (hb103.mono hB.size)
  have z_ := hb103.size
  try simp only [World.size_alloc] at z_
  have Z2 := Lib.hid z_
  clear z_
  obtain ⟨pb0_0, pb0_1, pb0_2, pb0_3, pb0_4, pb0_5, pb0l⟩ := id (Bx.all6 pb0)
  go_wp2_with fail
  refine (to_choices _ Hbd0.out (choices_r.later R0.out hB)).mono ?_
  rintro e w104 ⟨vx0, bsx0, rfl, Ex0, hb104⟩
  clear pb0_0 pb0_1 pb0_2 pb0_3 pb0_4 pb0_5 pb0l
  replace pb0 := pb0.later hb104
  replace hB := hB.trans (hb104.mono hB.size)
  have z_ := hb104.size
  try simp only [World.size_alloc] at z_
  have Z3 := Lib.hid z_
  clear z_
  have t_ := (choices_ok _).lt Ex0
  try simp only [World.size_alloc] at t_
  have Tbsx0 := Lib.hid t_
  clear t_
  obtain ⟨Axb0_0, nxb0_0, kxb0_0, Axb0_1, nxb0_1, kxb0_1, Axb0_2, nxb0_2, kxb0_2, Axb0_3, nxb0_3, kxb0_3, Axb0_4, nxb0_4, kxb0_4, rfl⟩ := Ex0.form
  have hnxb0 := (Below.refl _ w104).alloc (Nat.le_refl _) (.cells #[.int .i64 a0.stack, .slice Axb0_0 nxb0_0 kxb0_0, .slice Axb0_1 nxb0_1 kxb0_1, .slice Axb0_2 nxb0_2 kxb0_2, .slice Axb0_3 nxb0_3 kxb0_3, .slice Axb0_4 nxb0_4 kxb0_4] 33)
  have xb0 := Bx.new w104 33 #[.int .i64 a0.stack, .slice Axb0_0 nxb0_0 kxb0_0, .slice Axb0_1 nxb0_1 kxb0_1, .slice Axb0_2 nxb0_2 kxb0_2, .slice Axb0_3 nxb0_3 kxb0_3, .slice Axb0_4 nxb0_4 kxb0_4]
  replace Ex0 := (choices_ok _).later Ex0 hnxb0
  replace pb0 := pb0.later hnxb0
  replace hB := hB.alloc hB.size (.cells #[.int .i64 a0.stack, .slice Axb0_0 nxb0_0 kxb0_0, .slice Axb0_1 nxb0_1 kxb0_1, .slice Axb0_2 nxb0_2 kxb0_2, .slice Axb0_3 nxb0_3 kxb0_3, .slice Axb0_4 nxb0_4 kxb0_4] 33)
  obtain ⟨xb0_0, xb0_1, xb0_2, xb0_3, xb0_4, xb0_5, xb0l⟩ := id (Bx.all6 xb0)
  go_wp2_with fail
  refine (HI.out _ _ _ _ Hbd0.out Ex0).mono ?_
  rintro e w105 ⟨rfl, hb105⟩
  clear xb0_0 xb0_1 xb0_2 xb0_3 xb0_4 xb0_5 xb0l
  replace Ex0 := (choices_ok _).later Ex0 hb105
  replace pb0 := pb0.later hb105
  replace xb0 := xb0.later hb105
  replace hB := hB.trans (hb105.mono hB.size)
  have z_ := hb105.size
  try simp only [World.size_alloc] at z_
  have Z4 := Lib.hid z_
  clear z_
  have hR := Below.refl w105.heap.size w105
  have Hto := Lib.hid fun (W : World) (hw : Below w105.heap.size w105 W) => to_choices W Hbd0.out (choices_r.later R0.out (hB.trans (hw.mono hB.size)))
  have Heq := Lib.hid fun (W : World) (hw : Below w105.heap.size w105 W) (base : Nat) (v' : Value) (bs : List Nat) (h : ChE base W v' a0 bs) => eq_choices W Hbd0.out ((choices_ok _).later Ex0 hw) h
  obtain ⟨pb0_0, pb0_1, pb0_2, pb0_3, pb0_4, pb0_5, pb0l⟩ := id (Bx.all6 pb0)
  obtain ⟨xb0_0, xb0_1, xb0_2, xb0_3, xb0_4, xb0_5, xb0l⟩ := id (Bx.all6 xb0)
  go_upto_region 10 with fail
  go_cut [26] (fun sr wx => sr = .bool false ∧ Below w105.heap.size w105 wx)
  case first =>
    go_region_with (first
      | (go_at_call 9
         refine (Hto.out _ (by first | exact hR.drew | exact hR)).mono ?_
         rintro e wt ⟨vt, bst, rfl, Et, hbt⟩
         have hwt : Below w105.heap.size w105 wt := by first | exact hR.drew.trans (hbt.mono hR.drew.size) | exact hbt
         obtain ⟨y0, y1, y2, y3, y4, y5, yl⟩ := id (Bx.all6 (xb0.later hwt)))
      | (go_at_call 11
         refine (Heq.out _ hwt _ _ _ Et).mono ?_
         rintro e wu ⟨rfl, hbu⟩
         have hwu := hwt.trans (hbu.mono hwt.size)))
    all_goals
      go_wp2_with fail
      go_meet
      exact ⟨rfl, hwu⟩
  case rest =>
    obtain ⟨rfl, hwc⟩ := hcut
    clear pb0_0 pb0_1 pb0_2 pb0_3 pb0_4 pb0_5 pb0l xb0_0 xb0_1 xb0_2 xb0_3 xb0_4 xb0_5 xb0l
    clear hR Hto Heq
    replace Ex0 := (choices_ok _).later Ex0 hwc
    replace pb0 := pb0.later hwc
    replace xb0 := xb0.later hwc
    replace hB := hB.trans (hwc.mono hB.size)
    have z_ := hwc.size
    try simp only [World.size_alloc] at z_
    have Z5 := Lib.hid z_
    clear z_
    go_wp2
    go_ret
    exact ⟨rfl, hB⟩
end Go.Proofs.Yticmekdfdilcpaa

namespace Go.Proofs.Yticmekdfdilcpaa.fnExactValidChoicesDone
open Go.ChangeShapes Go.WideShapes Go.ChangeAt Go.RowKit
open Go.ChangeMaps (open_string shut_string)
set_option linter.unusedVariables false

theorem own : ownKnob Try.prog.godebug = none := by kernel_rfl
theorem laidOut : laidOutB Try.prog = true := by kernel_rfl

set_option maxRecDepth 100000 in
theorem lifted (os : Os) (started : os.Started) (H : Type) (enc : TypeId × Value → H) :
    ReturnsInHanded {} Try.checked os 3 .any (Rows.fnExactValidChoicesSpec.pre6 enc Try.prog Try.f3 Rows.fnExactValidChoicesRow.domain false) (Rows.fnExactValidChoicesSpec.post enc Try.prog Try.f3 false true false false) := by
  refine returnsInHanded_of_change (C := Try.checked) own started (by kernel_rfl) Try.func3
    (ChangeSpec.witness6 (enc := enc) (C := Try.checked) false ⟨#[], #[.agg #[.int .i64 0, .slice none 0 0, .slice none 0 0, .slice none 0 0, .slice none 0 0, .slice none 0 0]], []⟩ 8 (by kernel_rfl) (by kernel_rfl) (by kernel_rfl) (by kernel_rfl)) ?_
  intro W base args ds gs before hval0 hW hcnd _
  have hval : ∀ (j : Nat) t v, Try.f3.params[j]? = some t → args[j]? = some v → Value.okWide Try.prog W .any base t v := hval0
  have hW' := hW
  obtain ⟨p, q, hA0, hV, rfl, hfz, hnd⟩ := hW
  have hA : DataW.TrodAll enc Try.prog W 0 (fun _ => true) true Try.f3.params.toList args.toList ds p := hA0
  rw [Try.params3] at hA hval
  obtain ⟨v0, vs0, d0, ds0, p0, q0, hargs, rfl, rfl, h0, r0⟩ := trodAll_cons hA
  obtain ⟨rfl, rfl, rfl⟩ := trodAll_nil r0
  obtain rfl : args = #[v0] := by cases args; simp_all
  obtain ⟨rfl, rfl⟩ := trodVars_none hV
  have k0 := h0
  have lt0 : ∀ x ∈ p0, x.block < W.heap.size := by obtain ⟨m, hm⟩ := k0; exact DataW.trod_lt m _ _ _ hm
  obtain ⟨c0, w0, _⟩ := open_choices (hval 0 28 v0 rfl rfl) h0
  clear hA0 hval0
  refine (FnExactValidChoices_walk _ c0 W w0).mono fun e W' ⟨he, bel⟩ => ?_
  subst he
  exact ⟨_, rfl, _, _, _, [], _, [], hW', trodAll_mk1 (shut_bool Try.underlying4 _), (trodAll_cons_mk (Below.trod laidOut (by kernel_rfl) (of_decide_eq_true (by kernel_rfl)) k0 bel lt0) trodAll_mk0), rfl, bel.frame _, fun h => by cases h⟩

theorem over : Rows.fnExactValidChoicesRow.holds Try.pinned (OpenSpec.ofChange Rows.fnExactValidChoicesSpec) :=
  OpenClaim.holds_of_wide 3 Try.f3 rfl rfl rfl rfl rfl rfl rfl ⟨rfl, rfl, rfl, rfl, rfl⟩ rfl rfl rfl rfl rfl (by kernel_rfl) Try.func3 (by kernel_rfl)
    (of_decide_eq_true (by kernel_rfl)) (by unfold Func.isWrapper; first | (rw [if_pos (by decide +kernel)]; kernel_rfl) | (rw [if_neg (by decide +kernel)]; exact ⟨rfl, rfl⟩))
    (fun os started H enc _ => lifted os started H enc)

theorem proved : Rows.FnExactValidChoicesSaid := over
#print axioms proved
end Go.Proofs.Yticmekdfdilcpaa.fnExactValidChoicesDone
