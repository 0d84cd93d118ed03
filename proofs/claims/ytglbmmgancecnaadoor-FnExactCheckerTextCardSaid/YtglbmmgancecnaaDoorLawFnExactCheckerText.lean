/- The law FnExactCheckerText returns true at every input, and each argument reads afterwards as it read before: no condition. -/
import Derived.Test.YtglbmmgancecnaaDoorCtB
import Derived.Test.YtglbmmgancecnaaDoorTie
import Derived.Test.YtglbmmgancecnaaDoorCards
import Derived.LaidMore
import Derived.Stop.Joined
import Derived.Stop.LaidErr
import Derived.SevenTiedAt
import Derived.Test.YtglbmmgancecnaaDoorPosts
import Derived.Deep.RegionWith
import Derived.Deep.DeepCutAuto
import Derived.WalkKit
import Derived.ProofKit
import Derived.OpenShut
import Derived.ShutString
import Derived.ChangeOld
import Derived.Below
namespace Go.Proofs.YtglbmmgancecnaaDoor
open Go.RowKit
set_option linter.unusedVariables false
set_option linter.unusedSimpArgs false

theorem pow10_of_laid {W : World} (h : laidMetH Tryd.prog Rows.fnExactCheckerTextRow.laid W) : Pow10 W := by
  have h' : laidMet Tryd.prog [("math/bits.deBruijn32tab", Rows.laid_math_bits_deBruijn32tab), ("math/bits.deBruijn64tab", Rows.laid_math_bits_deBruijn64tab), ("internal/strconv.uint64pow10", Rows.laid_internal_strconv_uint64pow10)] W := h
  exact Lib.tabIs_of_head (k := .u64) (zs := Lib.pow10Tab) (g := 0) (t := 86) (e := 79) (n := 20) (by kernel_rfl) (by kernel_rfl) Tryd.underlying86 Tryd.underlying79 (by kernel_rfl) (by kernel_rfl) (show laidMet Tryd.prog (("internal/strconv.uint64pow10", Lib.tabData .u64 Lib.pow10Tab) :: []) W from h'.tail.tail)

set_option maxHeartbeats 25600000 in
set_option maxRecDepth 100000 in
theorem FnExactCheckerText_walk (u0 : Value) (a0 : Ck) (w : World) (w0 : CkR w u0 a0) (hp : Pow10 w) :
    Calls Tryd.prog 3 #[u0] w fun e w' => e = .returned (.bool true) ∧ Below w.heap.size w w' := by
  obtain ⟨Ap0_0, np0_0, kp0_0, Ap0_1, np0_1, kp0_1, Ap0_2, np0_2, kp0_2, Ap0_3, np0_3, kp0_3, rfl⟩ := CkR.form w0
  have R0 := Lib.hid w0
  clear w0
  have hB := (Below.refl w.heap.size w).alloc (Nat.le_refl _) (.cells #[.int .i64 a0.stack, .int .i64 a0.start, .slice Ap0_0 np0_0 kp0_0, .slice Ap0_1 np0_1 kp0_1, .slice Ap0_2 np0_2 kp0_2, .slice Ap0_3 np0_3 kp0_3] 27)
  have pb0 := Bx.new w 27 #[.int .i64 a0.stack, .int .i64 a0.start, .slice Ap0_0 np0_0 kp0_0, .slice Ap0_1 np0_1 kp0_1, .slice Ap0_2 np0_2 kp0_2, .slice Ap0_3 np0_3 kp0_3]
  have q0 := fun (W : World) (hw : Below w.heap.size w W) => sz_checker 1048576 W (Nat.le_refl _) (ck_r.later R0.out hw)
  by_cases t0 : cntC a0 ≤ 1048576
  case' neg =>
    simp only [dec_no t0] at q0
    have Q0 := Lib.hid q0
    clear q0 t0
    go_enter Tryd.func3, Tryd.ntmps3
    go_wp2_with fail
    refine (Q0.out _ hB).mono ?_
    rintro e w101 ⟨rfl, hb101⟩
    replace pb0 := pb0.later hb101
    replace hB := hB.trans (hb101.mono hB.size)
    have z_ := hb101.size
    try simp only [World.size_alloc] at z_
    have Z0 := Lib.hid z_
    clear z_
    go_wp2
    go_ret
    exact ⟨rfl, hB⟩
  have Hbd0 := Lib.hid (bd_of_cnt (show cntC a0 ≤ 1048576 by omega))
  simp only [dec_yes t0] at q0
  obtain ⟨l0, hl0⟩ : ∃ l, l = 1048576 - cntC a0 := ⟨_, rfl⟩
  have ll0 : l0 ≤ 1048576 := by omega
  simp only [← hl0] at q0
  have Q0 := Lib.hid q0
  clear q0 t0 hl0
  obtain ⟨r0, hS, hI⟩ := both_CheckerText a0 w hp
  clear hp
  have HS := Lib.hid hS
  have HI := Lib.hid hI
  clear hS hI
  go_enter Tryd.func3, Tryd.ntmps3
  go_wp2_with fail
  refine (Q0.out _ hB).mono ?_
  rintro e w101 ⟨rfl, hb101⟩
  clear Q0
  replace pb0 := pb0.later hb101
  replace hB := hB.trans (hb101.mono hB.size)
  have z_ := hb101.size
  try simp only [World.size_alloc] at z_
  have Z0 := Lib.hid z_
  clear z_
  obtain ⟨pb0_0, pb0_1, pb0_2, pb0_3, pb0_4, pb0_5, pb0l⟩ := id (Bx.all6 pb0)
  go_wp2_with fail
  refine (to_checker _ Hbd0.out (ck_r.later R0.out hB)).mono ?_
  rintro e w102 ⟨vm0, bsm0, rfl, Em0, hb102⟩
  clear pb0_0 pb0_1 pb0_2 pb0_3 pb0_4 pb0_5 pb0l
  replace pb0 := pb0.later hb102
  replace hB := hB.trans (hb102.mono hB.size)
  have z_ := hb102.size
  try simp only [World.size_alloc] at z_
  have Z1 := Lib.hid z_
  clear z_
  go_wp2_with fail
  refine (HS.out _ _ _ _ Hbd0.out Em0).mono ?_
  rintro e w103 ⟨rfl, hb103⟩
  clear Em0
  replace pb0 := pb0.later hb103
  replace hB := hB.trans (hb103.mono hB.size)
  have z_ := hb103.size
  try simp only [World.size_alloc] at z_
  have Z2 := Lib.hid z_
  clear z_
  obtain ⟨pb0_0, pb0_1, pb0_2, pb0_3, pb0_4, pb0_5, pb0l⟩ := id (Bx.all6 pb0)
  go_wp2_with fail
  refine (to_checker _ Hbd0.out (ck_r.later R0.out hB)).mono ?_
  rintro e w104 ⟨vx0, bsx0, rfl, Ex0, hb104⟩
  clear pb0_0 pb0_1 pb0_2 pb0_3 pb0_4 pb0_5 pb0l
  replace pb0 := pb0.later hb104
  replace hB := hB.trans (hb104.mono hB.size)
  have z_ := hb104.size
  try simp only [World.size_alloc] at z_
  have Z3 := Lib.hid z_
  clear z_
  have t_ := (ck_ok _).lt Ex0
  try simp only [World.size_alloc] at t_
  have Tbsx0 := Lib.hid t_
  clear t_
  obtain ⟨Axb0_0, nxb0_0, kxb0_0, Axb0_1, nxb0_1, kxb0_1, Axb0_2, nxb0_2, kxb0_2, Axb0_3, nxb0_3, kxb0_3, rfl⟩ := Ex0.form
  have hnxb0 := (Below.refl _ w104).alloc (Nat.le_refl _) (.cells #[.int .i64 a0.stack, .int .i64 a0.start, .slice Axb0_0 nxb0_0 kxb0_0, .slice Axb0_1 nxb0_1 kxb0_1, .slice Axb0_2 nxb0_2 kxb0_2, .slice Axb0_3 nxb0_3 kxb0_3] 32)
  have xb0 := Bx.new w104 32 #[.int .i64 a0.stack, .int .i64 a0.start, .slice Axb0_0 nxb0_0 kxb0_0, .slice Axb0_1 nxb0_1 kxb0_1, .slice Axb0_2 nxb0_2 kxb0_2, .slice Axb0_3 nxb0_3 kxb0_3]
  replace Ex0 := (ck_ok _).later Ex0 hnxb0
  replace pb0 := pb0.later hnxb0
  replace hB := hB.alloc hB.size (.cells #[.int .i64 a0.stack, .int .i64 a0.start, .slice Axb0_0 nxb0_0 kxb0_0, .slice Axb0_1 nxb0_1 kxb0_1, .slice Axb0_2 nxb0_2 kxb0_2, .slice Axb0_3 nxb0_3 kxb0_3] 32)
  obtain ⟨xb0_0, xb0_1, xb0_2, xb0_3, xb0_4, xb0_5, xb0l⟩ := id (Bx.all6 xb0)
  go_wp2_with fail
  refine (HI.out _ _ _ _ hB Hbd0.out Ex0).mono ?_
  rintro e w105 ⟨rfl, hb105⟩
  clear xb0_0 xb0_1 xb0_2 xb0_3 xb0_4 xb0_5 xb0l
  replace Ex0 := (ck_ok _).later Ex0 hb105
  replace pb0 := pb0.later hb105
  replace xb0 := xb0.later hb105
  replace hB := hB.trans (hb105.mono hB.size)
  have z_ := hb105.size
  try simp only [World.size_alloc] at z_
  have Z4 := Lib.hid z_
  clear z_
  have hR := Below.refl w105.heap.size w105
  have Hto := Lib.hid fun (W : World) (hw : Below w105.heap.size w105 W) => to_checker W Hbd0.out (ck_r.later R0.out (hB.trans (hw.mono hB.size)))
  have Heq := Lib.hid fun (W : World) (hw : Below w105.heap.size w105 W) (base : Nat) (v' : Value) (bs : List Nat) (h : CkE base W v' a0 bs) => eq_checker W Hbd0.out ((ck_ok _).later Ex0 hw) h
  obtain ⟨pb0_0, pb0_1, pb0_2, pb0_3, pb0_4, pb0_5, pb0l⟩ := id (Bx.all6 pb0)
  obtain ⟨xb0_0, xb0_1, xb0_2, xb0_3, xb0_4, xb0_5, xb0l⟩ := id (Bx.all6 xb0)
  go_upto_region 10 with fail
  go_cut [26] (fun sr wx => sr = .bool false ∧ Below w105.heap.size w105 wx)
  case first =>
    go_region_with (first
      | (go_at_call 6
         refine (Hto.out _ (by first | exact hR.drew | exact hR)).mono ?_
         rintro e wt ⟨vt, bst, rfl, Et, hbt⟩
         have hwt : Below w105.heap.size w105 wt := by first | exact hR.drew.trans (hbt.mono hR.drew.size) | exact hbt
         obtain ⟨y0, y1, y2, y3, y4, y5, yl⟩ := id (Bx.all6 (xb0.later hwt)))
      | (go_at_call 8
         refine (Heq.out _ hwt _ _ _ Et).mono ?_
         rintro e wu ⟨rfl, hbu⟩
         have hwu := hwt.trans (hbu.mono hwt.size)))
    all_goals
      go_wp2_with fail
      go_meet
      exact ⟨rfl, hwu⟩
  case rest =>
    obtain ⟨rfl, hwc⟩ := hcut
    clear pb0_0 pb0_1 pb0_2 pb0_3 pb0_4 pb0_5 pb0l xb0_0 xb0_1 xb0_2 xb0_3 xb0_4 xb0_5 xb0l
    clear hR Hto Heq
    replace Ex0 := (ck_ok _).later Ex0 hwc
    replace pb0 := pb0.later hwc
    replace xb0 := xb0.later hwc
    replace hB := hB.trans (hwc.mono hB.size)
    have z_ := hwc.size
    try simp only [World.size_alloc] at z_
    have Z5 := Lib.hid z_
    clear z_
    go_wp2
    go_ret
    exact ⟨rfl, hB⟩
end Go.Proofs.YtglbmmgancecnaaDoor

namespace Go.Proofs.YtglbmmgancecnaaDoor.fnExactCheckerTextDone
open Go.ChangeShapes Go.WideShapes Go.ChangeAt Go.RowKit
open Go.ChangeMaps (open_string shut_string)
set_option linter.unusedVariables false

theorem own : ownKnob Tryd.prog.godebug = none := by kernel_rfl
theorem laidOut : laidOutB Tryd.prog = true := by kernel_rfl
theorem door_met (os : Os) (args : Array Value) : laidMetH Tryd.prog Rows.fnExactCheckerTextRow.laid ((World.doorLaid Tryd.prog 400 os).forCall (fun _ _ => 0) ⟨#[], args, []⟩).memory :=
  laidMetH_of_parts3 (fuel := 8) (laidMet_of_run' 8 (by kernel_rfl) (by kernel_rfl)) (by kernel_rfl) (by kernel_rfl)

set_option maxRecDepth 100000 in
theorem lifted (os : Os) (started : os.Started) (H : Type) (enc : TypeId × Value → H) :
    ReturnsInHanded {} Tryd.checked os 3 .any (fun w args => (Rows.fnExactCheckerTextSpec.pre enc Tryd.prog Tryd.f3 [] false w args ∧ laidMetH Tryd.prog Rows.fnExactCheckerTextRow.laid w) ∧ sizedMet enc Tryd.prog Tryd.f3 (OpenSpec.ofChange Rows.fnExactCheckerTextSpec) false w args)
      (Rows.fnExactCheckerTextSpec.post enc Tryd.prog Tryd.f3 false true false false) := by
  refine returnsInHanded_of_change_and (C := Tryd.checked) (X := fun w _ => laidMetH Tryd.prog Rows.fnExactCheckerTextRow.laid w) (fun _ _ _ hh h => h.of_heap hh) own started (by kernel_rfl) Tryd.func3
    (ChangeSpec.witness_shaped (enc := enc) (C := Tryd.checked) (os := os) (X := fun w _ => laidMetH Tryd.prog Rows.fnExactCheckerTextRow.laid w) false (World.doorLaid Tryd.prog 400 os) #[.agg #[.int .i64 0, .int .i64 0, .slice none 0 0, .slice none 0 0, .slice none 0 0, .slice none 0 0]] 8 rfl (World.shaped_of_RefB (by kernel_rfl) (by kernel_rfl)) (by kernel_rfl) (by kernel_rfl) (by kernel_rfl) (door_met os _)) ?_
  intro W base args ds gs before hval0 hW _ _ hL _
  have hval : ∀ (j : Nat) t v, Tryd.f3.params[j]? = some t → args[j]? = some v → Value.okWide Tryd.prog W .any base t v := hval0
  have hW' := hW
  obtain ⟨p, q, hA0, hV, rfl, hfz, hnd⟩ := hW
  have hA : DataW.TrodAll enc Tryd.prog W 0 (fun _ => true) true Tryd.f3.params.toList args.toList ds p := hA0
  rw [Tryd.params3] at hA hval
  obtain ⟨v0, vs0, d0, ds0, p0, q0, hargs, rfl, rfl, h0, r0⟩ := trodAll_cons hA
  obtain ⟨rfl, rfl, rfl⟩ := trodAll_nil r0
  obtain rfl : args = #[v0] := by cases args; simp_all
  obtain ⟨rfl, rfl⟩ := trodVars_none hV
  obtain ⟨x0, R0, _⟩ := open_ck (hval 0 27 v0 rfl rfl) h0
  have k0 := h0
  have lt0 : ∀ x ∈ p0, x.block < W.heap.size := by obtain ⟨m, hm⟩ := k0; exact DataW.trod_lt m _ _ _ hm
  have hp : Pow10 W := pow10_of_laid hL
  clear hA0 hval0
  refine (FnExactCheckerText_walk v0 x0 W R0 hp).mono fun e W' ⟨he, bel⟩ => ?_
  subst he
  exact ⟨_, rfl, _, _, _, [], _, [], hW', trodAll_mk1 (shut_bool Tryd.underlying4 _), (trodAll_cons_mk (Below.trod laidOut (by kernel_rfl) (of_decide_eq_true (by kernel_rfl)) k0 bel lt0) trodAll_mk0), rfl, bel.frame _, fun h => by cases h⟩

theorem over : Rows.fnExactCheckerTextRow.holds Tryd.pinned (OpenSpec.ofChange Rows.fnExactCheckerTextSpec) :=
  OpenClaim.holds_of_wide 3 Tryd.f3 rfl rfl rfl rfl rfl rfl rfl ⟨rfl, rfl, rfl, rfl, rfl⟩ rfl rfl rfl rfl rfl (by kernel_rfl) Tryd.func3 (by kernel_rfl)
    (of_decide_eq_true (by kernel_rfl)) (by unfold Func.isWrapper; first | (rw [if_pos (by decide +kernel)]; kernel_rfl) | (rw [if_neg (by decide +kernel)]; exact ⟨rfl, rfl⟩))
    (fun os started H enc _ => lifted os started H enc)

theorem proved : Rows.FnExactCheckerTextCardSaid :=
  Claim7.holds_tied_plain_at .later [] [.data,.data,.data] true Rows.fnExactCheckerTextCard.stood.harness false
    over (fun _ h => by cases h) (by kernel_rfl) (fun _ h => by cases h) fnExactCheckerText_row_tie rfl ⟨rfl, rfl⟩ (by kernel_rfl) rfl
    (fun f fn hf hfn => by
      obtain rfl : f = 3 := Option.some.inj ((show Tryd.prog.funcNamed Rows.fnExactCheckerTextRow.func = some 3 by kernel_rfl).symm.trans hf) |>.symm
      obtain rfl : fn = Tryd.f3 := (Option.some.inj (Tryd.func3.symm.trans hfn)).symm
      exact ⟨by kernel_rfl, fun j t ht => by
        rw [Tryd.params3] at ht
        have hm : t ∈ [27] := by simpa using Array.mem_of_getElem? ht
        have hall : ([27].all fun u => !Tryd.prog.wantsStandIn u) = true := by kernel_rfl
        exact (show Tryd.prog.wantsStandIn t = false by simpa using List.all_eq_true.1 hall t hm)⟩)
    (by kernel_rfl)
#print axioms proved
end Go.Proofs.YtglbmmgancecnaaDoor.fnExactCheckerTextDone
