/- The law FnExactChoicesOf returns true at every input, and each argument reads afterwards as it read before: no condition. -/
import Derived.Test.YticmekdfdilcpaaOfB
import Derived.Test.YticmekdfdilcpaaPosts
import Derived.Deep.RegionWith
import Derived.Deep.DeepCutAuto
import Derived.WalkKit
import Derived.ProofKit
import Derived.OpenShut
import Derived.ShutString
import Derived.ChangeOld
import Derived.Below
namespace Go.Proofs.Yticmekdfdilcpaa
open Go.RowKit
set_option linter.unusedVariables false

set_option maxHeartbeats 25600000 in
set_option maxRecDepth 100000 in
theorem FnExactChoicesOf_walk (u0 : Value) (a0 : Ck) (w : World) (w0 : CkR w u0 a0) :
    Calls Try.prog 4 #[u0] w fun e w' => e = .returned (.bool true) ∧ Below w.heap.size w w' := by
  obtain ⟨Ap0_0, np0_0, kp0_0, Ap0_1, np0_1, kp0_1, Ap0_2, np0_2, kp0_2, Ap0_3, np0_3, kp0_3, rfl⟩ := CkR.form w0
  have R0 := Lib.hid w0
  clear w0
  have hB := (Below.refl w.heap.size w).alloc (Nat.le_refl _) (.cells #[.int .i64 a0.stack, .int .i64 a0.start, .slice Ap0_0 np0_0 kp0_0, .slice Ap0_1 np0_1 kp0_1, .slice Ap0_2 np0_2 kp0_2, .slice Ap0_3 np0_3 kp0_3] 40)
  have pb0 := Bx.new w 40 #[.int .i64 a0.stack, .int .i64 a0.start, .slice Ap0_0 np0_0 kp0_0, .slice Ap0_1 np0_1 kp0_1, .slice Ap0_2 np0_2 kp0_2, .slice Ap0_3 np0_3 kp0_3]
  have q0 := fun (W : World) (hw : Below w.heap.size w W) => sz_checker 1048576 W (Nat.le_refl _) (ck_r.later R0.out hw)
  by_cases t0 : cntC a0 ≤ 1048576
  case' neg =>
    simp only [dec_no t0] at q0
    have Q0 := Lib.hid q0
    clear q0 t0
    go_enter Try.func4, Try.ntmps4
    go_wp2_with fail
    refine (Q0.out _ hB).mono ?_
    rintro e w101 ⟨rfl, hb101⟩
    replace pb0 := pb0.later hb101
    replace hB := hB.trans (hb101.mono hB.size)
    have z_ := hb101.size
    try simp only [World.size_alloc] at z_
    have Z0 := Lib.hid z_
    clear z_
    go_wp2
    go_ret
    exact ⟨rfl, hB⟩
  have Hbd0 := Lib.hid (bd_of_cnt (show cntC a0 ≤ 1048576 by omega))
  simp only [dec_yes t0] at q0
  obtain ⟨l0, hl0⟩ : ∃ l, l = 1048576 - cntC a0 := ⟨_, rfl⟩
  have ll0 : l0 ≤ 1048576 := by omega
  simp only [← hl0] at q0
  have Q0 := Lib.hid q0
  clear q0 t0 hl0
  obtain ⟨x0, r1, hx0, hS, hI⟩ := both_ChoicesOf a0
  have HS := Lib.hid hS
  have HI := Lib.hid hI
  clear hS hI
  obtain ⟨z0, hz0⟩ : ∃ z, z = 1 + szC a0 := ⟨_, rfl⟩
  obtain ⟨k0, hk0⟩ : ∃ k, k = 1 + szH x0 := ⟨_, rfl⟩
  have hm0 := hx0.sum
  have hcs0 := Hbd0.out.sum
  have lk0 : k0 ≤ 8388608 := by omega
  have lz0 : z0 ≤ 2100001 := by omega
  have Hz0 := Lib.hid hz0
  clear hz0
  clear hcs0
  have Hk0 := Lib.hid hk0
  clear hk0
  have Hx0 := Lib.hid hx0
  clear hx0
  clear hm0
  go_enter Try.func4, Try.ntmps4
  go_wp2_with fail
  refine (Q0.out _ hB).mono ?_
  rintro e w101 ⟨rfl, hb101⟩
  clear Q0
  replace pb0 := pb0.later hb101
  replace hB := hB.trans (hb101.mono hB.size)
  have z_ := hb101.size
  try simp only [World.size_alloc] at z_
  have Z0 := Lib.hid z_
  clear z_
  obtain ⟨pb0_0, pb0_1, pb0_2, pb0_3, pb0_4, pb0_5, pb0l⟩ := id (Bx.all6 pb0)
  go_wp2_with fail
  refine (to_checker _ Hbd0.out (ck_r.later R0.out hB)).mono ?_
  rintro e w102 ⟨vm0, bsm0, rfl, Em0, hb102⟩
  clear pb0_0 pb0_1 pb0_2 pb0_3 pb0_4 pb0_5 pb0l
  replace pb0 := pb0.later hb102
  replace hB := hB.trans (hb102.mono hB.size)
  have z_ := hb102.size
  try simp only [World.size_alloc] at z_
  have Z1 := Lib.hid z_
  clear z_
  go_wp2_with fail
  refine (HS.out _ _ _ _ Hbd0.out Em0).mono ?_
  rintro e w103 ⟨Sv0, Sbs0, rfl, SE0, hb103⟩
  clear Em0
  replace pb0 := pb0.later hb103
  replace hB := hB.trans (hb103.mono hB.size)
  have z_ := hb103.size
  try simp only [World.size_alloc] at z_
  have Z2 := Lib.hid z_
  clear z_
  have t_ := (choices_ok _).lt SE0
  try simp only [World.size_alloc] at t_
  have TSbs0 := Lib.hid t_
  clear t_
  obtain ⟨ASb0_0, nSb0_0, kSb0_0, ASb0_1, nSb0_1, kSb0_1, ASb0_2, nSb0_2, kSb0_2, ASb0_3, nSb0_3, kSb0_3, ASb0_4, nSb0_4, kSb0_4, rfl⟩ := SE0.form
  have hnSb0 := (Below.refl _ w103).alloc (Nat.le_refl _) (.cells #[.int .i64 x0.stack, .slice ASb0_0 nSb0_0 kSb0_0, .slice ASb0_1 nSb0_1 kSb0_1, .slice ASb0_2 nSb0_2 kSb0_2, .slice ASb0_3 nSb0_3 kSb0_3, .slice ASb0_4 nSb0_4 kSb0_4] 33)
  have Sb0 := Bx.new w103 33 #[.int .i64 x0.stack, .slice ASb0_0 nSb0_0 kSb0_0, .slice ASb0_1 nSb0_1 kSb0_1, .slice ASb0_2 nSb0_2 kSb0_2, .slice ASb0_3 nSb0_3 kSb0_3, .slice ASb0_4 nSb0_4 kSb0_4]
  replace SE0 := (choices_ok _).later SE0 hnSb0
  replace pb0 := pb0.later hnSb0
  replace hB := hB.alloc hB.size (.cells #[.int .i64 x0.stack, .slice ASb0_0 nSb0_0 kSb0_0, .slice ASb0_1 nSb0_1 kSb0_1, .slice ASb0_2 nSb0_2 kSb0_2, .slice ASb0_3 nSb0_3 kSb0_3, .slice ASb0_4 nSb0_4 kSb0_4] 33)
  obtain ⟨pb0_0, pb0_1, pb0_2, pb0_3, pb0_4, pb0_5, pb0l⟩ := id (Bx.all6 pb0)
  go_wp2_with fail
  refine (to_checker _ Hbd0.out (ck_r.later R0.out hB)).mono ?_
  rintro e w104 ⟨vx0, bsx0, rfl, Ex0, hb104⟩
  clear pb0_0 pb0_1 pb0_2 pb0_3 pb0_4 pb0_5 pb0l
  replace SE0 := (choices_ok _).later SE0 hb104
  replace pb0 := pb0.later hb104
  replace Sb0 := Sb0.later hb104
  replace hB := hB.trans (hb104.mono hB.size)
  have z_ := hb104.size
  try simp only [World.size_alloc] at z_
  have Z3 := Lib.hid z_
  clear z_
  have t_ := (ck_ok _).lt Ex0
  try simp only [World.size_alloc] at t_
  have Tbsx0 := Lib.hid t_
  clear t_
  obtain ⟨Axb0_0, nxb0_0, kxb0_0, Axb0_1, nxb0_1, kxb0_1, Axb0_2, nxb0_2, kxb0_2, Axb0_3, nxb0_3, kxb0_3, rfl⟩ := Ex0.form
  have hnxb0 := (Below.refl _ w104).alloc (Nat.le_refl _) (.cells #[.int .i64 a0.stack, .int .i64 a0.start, .slice Axb0_0 nxb0_0 kxb0_0, .slice Axb0_1 nxb0_1 kxb0_1, .slice Axb0_2 nxb0_2 kxb0_2, .slice Axb0_3 nxb0_3 kxb0_3] 46)
  have xb0 := Bx.new w104 46 #[.int .i64 a0.stack, .int .i64 a0.start, .slice Axb0_0 nxb0_0 kxb0_0, .slice Axb0_1 nxb0_1 kxb0_1, .slice Axb0_2 nxb0_2 kxb0_2, .slice Axb0_3 nxb0_3 kxb0_3]
  replace SE0 := (choices_ok _).later SE0 hnxb0
  replace Ex0 := (ck_ok _).later Ex0 hnxb0
  replace pb0 := pb0.later hnxb0
  replace Sb0 := Sb0.later hnxb0
  replace hB := hB.alloc hB.size (.cells #[.int .i64 a0.stack, .int .i64 a0.start, .slice Axb0_0 nxb0_0 kxb0_0, .slice Axb0_1 nxb0_1 kxb0_1, .slice Axb0_2 nxb0_2 kxb0_2, .slice Axb0_3 nxb0_3 kxb0_3] 46)
  obtain ⟨xb0_0, xb0_1, xb0_2, xb0_3, xb0_4, xb0_5, xb0l⟩ := id (Bx.all6 xb0)
  go_wp2_with fail
  refine (HI.out _ _ _ _ Hbd0.out Ex0).mono ?_
  rintro e w105 ⟨Gv0, Gbs0, rfl, GE0, hb105⟩
  clear xb0_0 xb0_1 xb0_2 xb0_3 xb0_4 xb0_5 xb0l
  replace SE0 := (choices_ok _).later SE0 hb105
  replace Ex0 := (ck_ok _).later Ex0 hb105
  replace pb0 := pb0.later hb105
  replace Sb0 := Sb0.later hb105
  replace xb0 := xb0.later hb105
  replace hB := hB.trans (hb105.mono hB.size)
  have z_ := hb105.size
  try simp only [World.size_alloc] at z_
  have Z4 := Lib.hid z_
  clear z_
  have t_ := (choices_ok _).lt GE0
  try simp only [World.size_alloc] at t_
  have TGbs0 := Lib.hid t_
  clear t_
  obtain ⟨AGb0_0, nGb0_0, kGb0_0, AGb0_1, nGb0_1, kGb0_1, AGb0_2, nGb0_2, kGb0_2, AGb0_3, nGb0_3, kGb0_3, AGb0_4, nGb0_4, kGb0_4, rfl⟩ := GE0.form
  have hnGb0 := (Below.refl _ w105).alloc (Nat.le_refl _) (.cells #[.int .i64 x0.stack, .slice AGb0_0 nGb0_0 kGb0_0, .slice AGb0_1 nGb0_1 kGb0_1, .slice AGb0_2 nGb0_2 kGb0_2, .slice AGb0_3 nGb0_3 kGb0_3, .slice AGb0_4 nGb0_4 kGb0_4] 33)
  have Gb0 := Bx.new w105 33 #[.int .i64 x0.stack, .slice AGb0_0 nGb0_0 kGb0_0, .slice AGb0_1 nGb0_1 kGb0_1, .slice AGb0_2 nGb0_2 kGb0_2, .slice AGb0_3 nGb0_3 kGb0_3, .slice AGb0_4 nGb0_4 kGb0_4]
  replace SE0 := (choices_ok _).later SE0 hnGb0
  replace Ex0 := (ck_ok _).later Ex0 hnGb0
  replace GE0 := (choices_ok _).later GE0 hnGb0
  replace pb0 := pb0.later hnGb0
  replace Sb0 := Sb0.later hnGb0
  replace xb0 := xb0.later hnGb0
  replace hB := hB.alloc hB.size (.cells #[.int .i64 x0.stack, .slice AGb0_0 nGb0_0 kGb0_0, .slice AGb0_1 nGb0_1 kGb0_1, .slice AGb0_2 nGb0_2 kGb0_2, .slice AGb0_3 nGb0_3 kGb0_3, .slice AGb0_4 nGb0_4 kGb0_4] 33)
  obtain ⟨Gb0_0, Gb0_1, Gb0_2, Gb0_3, Gb0_4, Gb0_5, Gb0l⟩ := id (Bx.all6 Gb0)
  obtain ⟨Sb0_0, Sb0_1, Sb0_2, Sb0_3, Sb0_4, Sb0_5, Sb0l⟩ := id (Bx.all6 Sb0)
  go_wp2_with fail
  refine (eq_choices _ Hx0.out GE0 SE0).mono ?_
  rintro e w106 ⟨rfl, hb106⟩
  clear Gb0_0 Gb0_1 Gb0_2 Gb0_3 Gb0_4 Gb0_5 Gb0l Sb0_0 Sb0_1 Sb0_2 Sb0_3 Sb0_4 Sb0_5 Sb0l
  replace SE0 := (choices_ok _).later SE0 hb106
  replace Ex0 := (ck_ok _).later Ex0 hb106
  replace GE0 := (choices_ok _).later GE0 hb106
  replace pb0 := pb0.later hb106
  replace Sb0 := Sb0.later hb106
  replace xb0 := xb0.later hb106
  replace Gb0 := Gb0.later hb106
  replace hB := hB.trans (hb106.mono hB.size)
  have z_ := hb106.size
  try simp only [World.size_alloc] at z_
  have Z5 := Lib.hid z_
  clear z_
  have hR := Below.refl w106.heap.size w106
  have Hto := Lib.hid fun (W : World) (hw : Below w106.heap.size w106 W) => to_checker W Hbd0.out (ck_r.later R0.out (hB.trans (hw.mono hB.size)))
  have Heq := Lib.hid fun (W : World) (hw : Below w106.heap.size w106 W) (base : Nat) (v' : Value) (bs : List Nat) (h : CkE base W v' a0 bs) => eq_checker W Hbd0.out ((ck_ok _).later Ex0 hw) h
  obtain ⟨pb0_0, pb0_1, pb0_2, pb0_3, pb0_4, pb0_5, pb0l⟩ := id (Bx.all6 pb0)
  obtain ⟨xb0_0, xb0_1, xb0_2, xb0_3, xb0_4, xb0_5, xb0l⟩ := id (Bx.all6 xb0)
  go_upto_region 10 with fail
  go_cut [45] (fun sr wx => sr = .bool false ∧ Below w106.heap.size w106 wx)
  case first =>
    go_region_with (first
      | (go_at_call 14
         refine (Hto.out _ (by first | exact hR.drew | exact hR)).mono ?_
         rintro e wt ⟨vt, bst, rfl, Et, hbt⟩
         have hwt : Below w106.heap.size w106 wt := by first | exact hR.drew.trans (hbt.mono hR.drew.size) | exact hbt
         obtain ⟨y0, y1, y2, y3, y4, y5, yl⟩ := id (Bx.all6 (xb0.later hwt)))
      | (go_at_call 16
         refine (Heq.out _ hwt _ _ _ Et).mono ?_
         rintro e wu ⟨rfl, hbu⟩
         have hwu := hwt.trans (hbu.mono hwt.size)))
    all_goals
      go_wp2_with fail
      go_meet
      exact ⟨rfl, hwu⟩
  case rest =>
    obtain ⟨rfl, hwc⟩ := hcut
    clear pb0_0 pb0_1 pb0_2 pb0_3 pb0_4 pb0_5 pb0l xb0_0 xb0_1 xb0_2 xb0_3 xb0_4 xb0_5 xb0l
    clear hR Hto Heq
    replace SE0 := (choices_ok _).later SE0 hwc
    replace Ex0 := (ck_ok _).later Ex0 hwc
    replace GE0 := (choices_ok _).later GE0 hwc
    replace pb0 := pb0.later hwc
    replace Sb0 := Sb0.later hwc
    replace xb0 := xb0.later hwc
    replace Gb0 := Gb0.later hwc
    replace hB := hB.trans (hwc.mono hB.size)
    have z_ := hwc.size
    try simp only [World.size_alloc] at z_
    have Z6 := Lib.hid z_
    clear z_
    obtain ⟨xb0_0, xb0_1, xb0_2, xb0_3, xb0_4, xb0_5, xb0l⟩ := id (Bx.all6 xb0)
    have mx := mark_checker 1 _ Hbd0.out (by omega) Ex0
    rw [← Hz0.out] at mx
    have Mx := Lib.hid mx
    clear mx
    go_wp2_with fail
    refine Mx.out.mono ?_
    rintro e w107 ⟨rfl, Ex0', ht107⟩
    clear Mx
    clear xb0_0 xb0_1 xb0_2 xb0_3 xb0_4 xb0_5 xb0l
    clear Ex0
    clear Ex0'
    clear xb0
    replace SE0 := (choices_ok _).off SE0 ht107 (fun b h1 h2 => by have zz0 := Z0.out; have zz1 := Z1.out; have zz2 := Z2.out; have zz3 := Z3.out; have zz4 := Z4.out; have zz5 := Z5.out; have zz6 := Z6.out; have t1 := TSbs0.out b h1; have t2 := Tbsx0.out b h2; omega)
    replace GE0 := (choices_ok _).off GE0 ht107 (fun b h1 h2 => by have zz0 := Z0.out; have zz1 := Z1.out; have zz2 := Z2.out; have zz3 := Z3.out; have zz4 := Z4.out; have zz5 := Z5.out; have zz6 := Z6.out; have t1 := TGbs0.out b h1; have t2 := Tbsx0.out b h2; omega)
    replace pb0 := pb0.off ht107 (fun h => by have zz0 := Z0.out; have zz1 := Z1.out; have zz2 := Z2.out; have zz3 := Z3.out; have zz4 := Z4.out; have zz5 := Z5.out; have zz6 := Z6.out; have t2 := Tbsx0.out _ h; omega)
    replace Sb0 := Sb0.off ht107 (fun h => by have zz0 := Z0.out; have zz1 := Z1.out; have zz2 := Z2.out; have zz3 := Z3.out; have zz4 := Z4.out; have zz5 := Z5.out; have zz6 := Z6.out; have t2 := Tbsx0.out _ h; omega)
    replace Gb0 := Gb0.off ht107 (fun h => by have zz0 := Z0.out; have zz1 := Z1.out; have zz2 := Z2.out; have zz3 := Z3.out; have zz4 := Z4.out; have zz5 := Z5.out; have zz6 := Z6.out; have t2 := Tbsx0.out _ h; omega)
    replace hB := ht107.below hB hB.size (fun b h => by have zz0 := Z0.out; have zz1 := Z1.out; have zz2 := Z2.out; have zz3 := Z3.out; have zz4 := Z4.out; have zz5 := Z5.out; have zz6 := Z6.out; have t2 := Tbsx0.out b h; omega)
    have z_ := ht107.size
    try simp only [World.size_alloc] at z_
    have Z7 := Lib.hid z_
    clear z_
    obtain ⟨Gb0_0, Gb0_1, Gb0_2, Gb0_3, Gb0_4, Gb0_5, Gb0l⟩ := id (Bx.all6 Gb0)
    obtain ⟨Sb0_0, Sb0_1, Sb0_2, Sb0_3, Sb0_4, Sb0_5, Sb0l⟩ := id (Bx.all6 Sb0)
    go_wp2_with fail
    refine (eq_choices _ Hx0.out GE0 SE0).mono ?_
    rintro e w108 ⟨rfl, hb108⟩
    clear Gb0_0 Gb0_1 Gb0_2 Gb0_3 Gb0_4 Gb0_5 Gb0l Sb0_0 Sb0_1 Sb0_2 Sb0_3 Sb0_4 Sb0_5 Sb0l
    replace SE0 := (choices_ok _).later SE0 hb108
    replace GE0 := (choices_ok _).later GE0 hb108
    replace pb0 := pb0.later hb108
    replace Sb0 := Sb0.later hb108
    replace Gb0 := Gb0.later hb108
    replace hB := hB.trans (hb108.mono hB.size)
    have z_ := hb108.size
    try simp only [World.size_alloc] at z_
    have Z8 := Lib.hid z_
    clear z_
    obtain ⟨Gb0_0, Gb0_1, Gb0_2, Gb0_3, Gb0_4, Gb0_5, Gb0l⟩ := id (Bx.all6 Gb0)
    have mx := mark_choices 1 _ Hx0.out (by omega) GE0
    rw [← Hk0.out] at mx
    have Mx := Lib.hid mx
    clear mx
    go_wp2_with fail
    refine Mx.out.mono ?_
    rintro e w109 ⟨rfl, GE0', ht109⟩
    clear Mx
    clear Gb0_0 Gb0_1 Gb0_2 Gb0_3 Gb0_4 Gb0_5 Gb0l
    clear GE0
    replace SE0 := (choices_ok _).off SE0 ht109 (fun b h1 h2 => by have zz0 := Z0.out; have zz1 := Z1.out; have zz2 := Z2.out; have zz3 := Z3.out; have zz4 := Z4.out; have zz5 := Z5.out; have zz6 := Z6.out; have zz7 := Z7.out; have zz8 := Z8.out; have t1 := TSbs0.out b h1; have t2 := TGbs0.out b h2; omega)
    replace pb0 := pb0.off ht109 (fun h => by have zz0 := Z0.out; have zz1 := Z1.out; have zz2 := Z2.out; have zz3 := Z3.out; have zz4 := Z4.out; have zz5 := Z5.out; have zz6 := Z6.out; have zz7 := Z7.out; have zz8 := Z8.out; have t2 := TGbs0.out _ h; omega)
    replace Sb0 := Sb0.off ht109 (fun h => by have zz0 := Z0.out; have zz1 := Z1.out; have zz2 := Z2.out; have zz3 := Z3.out; have zz4 := Z4.out; have zz5 := Z5.out; have zz6 := Z6.out; have zz7 := Z7.out; have zz8 := Z8.out; have t2 := TGbs0.out _ h; omega)
    replace Gb0 := Gb0.off ht109 (fun h => by have zz0 := Z0.out; have zz1 := Z1.out; have zz2 := Z2.out; have zz3 := Z3.out; have zz4 := Z4.out; have zz5 := Z5.out; have zz6 := Z6.out; have zz7 := Z7.out; have zz8 := Z8.out; have t2 := TGbs0.out _ h; omega)
    replace hB := ht109.below hB hB.size (fun b h => by have zz0 := Z0.out; have zz1 := Z1.out; have zz2 := Z2.out; have zz3 := Z3.out; have zz4 := Z4.out; have zz5 := Z5.out; have zz6 := Z6.out; have zz7 := Z7.out; have zz8 := Z8.out; have t2 := TGbs0.out b h; omega)
    have z_ := ht109.size
    try simp only [World.size_alloc] at z_
    have Z9 := Lib.hid z_
    clear z_
    obtain ⟨Gb0_0, Gb0_1, Gb0_2, Gb0_3, Gb0_4, Gb0_5, Gb0l⟩ := id (Bx.all6 Gb0)
    have hd := held_choices 1 _ Hx0.out (by omega) GE0'
    rw [← Hk0.out] at hd
    have HD := Lib.hid hd
    clear hd
    clear Gb0_0 Gb0_1 Gb0_2 Gb0_3 Gb0_4 Gb0_5 Gb0l
    obtain ⟨Gb0_0, Gb0_1, Gb0_2, Gb0_3, Gb0_4, Gb0_5, Gb0l⟩ := id (Bx.all6 Gb0)
    go_wp2_with fail
    refine (HD.out).mono ?_
    rintro e w110 ⟨rfl, hb110⟩
    clear Gb0_0 Gb0_1 Gb0_2 Gb0_3 Gb0_4 Gb0_5 Gb0l
    clear HD
    replace SE0 := (choices_ok _).later SE0 hb110
    replace GE0' := (choices_ok _).later GE0' hb110
    replace pb0 := pb0.later hb110
    replace Sb0 := Sb0.later hb110
    replace Gb0 := Gb0.later hb110
    replace hB := hB.trans (hb110.mono hB.size)
    have z_ := hb110.size
    try simp only [World.size_alloc] at z_
    have Z10 := Lib.hid z_
    clear z_
    obtain ⟨pb0_0, pb0_1, pb0_2, pb0_3, pb0_4, pb0_5, pb0l⟩ := id (Bx.all6 pb0)
    go_wp2_with fail
    refine (to_checker _ Hbd0.out (ck_r.later R0.out hB)).mono ?_
    rintro e w111 ⟨vn0, bsn0, rfl, En0, hb111⟩
    clear pb0_0 pb0_1 pb0_2 pb0_3 pb0_4 pb0_5 pb0l
    replace SE0 := (choices_ok _).later SE0 hb111
    replace GE0' := (choices_ok _).later GE0' hb111
    replace pb0 := pb0.later hb111
    replace Sb0 := Sb0.later hb111
    replace Gb0 := Gb0.later hb111
    replace hB := hB.trans (hb111.mono hB.size)
    have z_ := hb111.size
    try simp only [World.size_alloc] at z_
    have Z11 := Lib.hid z_
    clear z_
    go_wp2_with fail
    refine (HI.out _ _ _ _ Hbd0.out En0).mono ?_
    rintro e w112 ⟨Hv0, Hbs0, rfl, HE0, hb112⟩
    clear En0
    replace SE0 := (choices_ok _).later SE0 hb112
    replace GE0' := (choices_ok _).later GE0' hb112
    replace pb0 := pb0.later hb112
    replace Sb0 := Sb0.later hb112
    replace Gb0 := Gb0.later hb112
    replace hB := hB.trans (hb112.mono hB.size)
    have z_ := hb112.size
    try simp only [World.size_alloc] at z_
    have Z12 := Lib.hid z_
    clear z_
    obtain ⟨AHb0_0, nHb0_0, kHb0_0, AHb0_1, nHb0_1, kHb0_1, AHb0_2, nHb0_2, kHb0_2, AHb0_3, nHb0_3, kHb0_3, AHb0_4, nHb0_4, kHb0_4, rfl⟩ := HE0.form
    have hnHb0 := (Below.refl _ w112).alloc (Nat.le_refl _) (.cells #[.int .i64 x0.stack, .slice AHb0_0 nHb0_0 kHb0_0, .slice AHb0_1 nHb0_1 kHb0_1, .slice AHb0_2 nHb0_2 kHb0_2, .slice AHb0_3 nHb0_3 kHb0_3, .slice AHb0_4 nHb0_4 kHb0_4] 33)
    have Hb0 := Bx.new w112 33 #[.int .i64 x0.stack, .slice AHb0_0 nHb0_0 kHb0_0, .slice AHb0_1 nHb0_1 kHb0_1, .slice AHb0_2 nHb0_2 kHb0_2, .slice AHb0_3 nHb0_3 kHb0_3, .slice AHb0_4 nHb0_4 kHb0_4]
    replace SE0 := (choices_ok _).later SE0 hnHb0
    replace GE0' := (choices_ok _).later GE0' hnHb0
    replace HE0 := (choices_ok _).later HE0 hnHb0
    replace pb0 := pb0.later hnHb0
    replace Sb0 := Sb0.later hnHb0
    replace Gb0 := Gb0.later hnHb0
    replace hB := hB.alloc hB.size (.cells #[.int .i64 x0.stack, .slice AHb0_0 nHb0_0 kHb0_0, .slice AHb0_1 nHb0_1 kHb0_1, .slice AHb0_2 nHb0_2 kHb0_2, .slice AHb0_3 nHb0_3 kHb0_3, .slice AHb0_4 nHb0_4 kHb0_4] 33)
    obtain ⟨Hb0_0, Hb0_1, Hb0_2, Hb0_3, Hb0_4, Hb0_5, Hb0l⟩ := id (Bx.all6 Hb0)
    obtain ⟨Sb0_0, Sb0_1, Sb0_2, Sb0_3, Sb0_4, Sb0_5, Sb0l⟩ := id (Bx.all6 Sb0)
    go_wp2_with fail
    refine (eq_choices _ Hx0.out HE0 SE0).mono ?_
    rintro e w113 ⟨rfl, hb113⟩
    clear Hb0_0 Hb0_1 Hb0_2 Hb0_3 Hb0_4 Hb0_5 Hb0l Sb0_0 Sb0_1 Sb0_2 Sb0_3 Sb0_4 Sb0_5 Sb0l
    replace SE0 := (choices_ok _).later SE0 hb113
    replace GE0' := (choices_ok _).later GE0' hb113
    replace HE0 := (choices_ok _).later HE0 hb113
    replace pb0 := pb0.later hb113
    replace Sb0 := Sb0.later hb113
    replace Gb0 := Gb0.later hb113
    replace Hb0 := Hb0.later hb113
    replace hB := hB.trans (hb113.mono hB.size)
    have z_ := hb113.size
    try simp only [World.size_alloc] at z_
    have Z13 := Lib.hid z_
    clear z_
    obtain ⟨Gb0_0, Gb0_1, Gb0_2, Gb0_3, Gb0_4, Gb0_5, Gb0l⟩ := id (Bx.all6 Gb0)
    have hd := held_choices 1 _ Hx0.out (by omega) GE0'
    rw [← Hk0.out] at hd
    have HD := Lib.hid hd
    clear hd
    clear Gb0_0 Gb0_1 Gb0_2 Gb0_3 Gb0_4 Gb0_5 Gb0l
    obtain ⟨Gb0_0, Gb0_1, Gb0_2, Gb0_3, Gb0_4, Gb0_5, Gb0l⟩ := id (Bx.all6 Gb0)
    go_wp2_with fail
    refine (HD.out).mono ?_
    rintro e w114 ⟨rfl, hb114⟩
    clear Gb0_0 Gb0_1 Gb0_2 Gb0_3 Gb0_4 Gb0_5 Gb0l
    clear HD
    replace SE0 := (choices_ok _).later SE0 hb114
    replace GE0' := (choices_ok _).later GE0' hb114
    replace HE0 := (choices_ok _).later HE0 hb114
    replace pb0 := pb0.later hb114
    replace Sb0 := Sb0.later hb114
    replace Gb0 := Gb0.later hb114
    replace Hb0 := Hb0.later hb114
    replace hB := hB.trans (hb114.mono hB.size)
    have z_ := hb114.size
    try simp only [World.size_alloc] at z_
    have Z14 := Lib.hid z_
    clear z_
    go_wp2
    go_ret
    exact ⟨rfl, hB⟩
end Go.Proofs.Yticmekdfdilcpaa

namespace Go.Proofs.Yticmekdfdilcpaa.fnExactChoicesOfDone
open Go.ChangeShapes Go.WideShapes Go.ChangeAt Go.RowKit
open Go.ChangeMaps (open_string shut_string)
set_option linter.unusedVariables false

theorem own : ownKnob Try.prog.godebug = none := by kernel_rfl
theorem laidOut : laidOutB Try.prog = true := by kernel_rfl

set_option maxRecDepth 100000 in
theorem lifted (os : Os) (started : os.Started) (H : Type) (enc : TypeId × Value → H) :
    ReturnsInHanded {} Try.checked os 4 .any (Rows.fnExactChoicesOfSpec.pre6 enc Try.prog Try.f4 Rows.fnExactChoicesOfRow.domain false) (Rows.fnExactChoicesOfSpec.post enc Try.prog Try.f4 false true false false) := by
  refine returnsInHanded_of_change (C := Try.checked) own started (by kernel_rfl) Try.func4
    (ChangeSpec.witness6 (enc := enc) (C := Try.checked) false ⟨#[], #[.agg #[.int .i64 0, .int .i64 0, .slice none 0 0, .slice none 0 0, .slice none 0 0, .slice none 0 0]], []⟩ 8 (by kernel_rfl) (by kernel_rfl) (by kernel_rfl) (by kernel_rfl)) ?_
  intro W base args ds gs before hval0 hW hcnd _
  have hval : ∀ (j : Nat) t v, Try.f4.params[j]? = some t → args[j]? = some v → Value.okWide Try.prog W .any base t v := hval0
  have hW' := hW
  obtain ⟨p, q, hA0, hV, rfl, hfz, hnd⟩ := hW
  have hA : DataW.TrodAll enc Try.prog W 0 (fun _ => true) true Try.f4.params.toList args.toList ds p := hA0
  rw [Try.params4] at hA hval
  obtain ⟨v0, vs0, d0, ds0, p0, q0, hargs, rfl, rfl, h0, r0⟩ := trodAll_cons hA
  obtain ⟨rfl, rfl, rfl⟩ := trodAll_nil r0
  obtain rfl : args = #[v0] := by cases args; simp_all
  obtain ⟨rfl, rfl⟩ := trodVars_none hV
  have k0 := h0
  have lt0 : ∀ x ∈ p0, x.block < W.heap.size := by obtain ⟨m, hm⟩ := k0; exact DataW.trod_lt m _ _ _ hm
  obtain ⟨c0, w0, _⟩ := open_ck (hval 0 40 v0 rfl rfl) h0
  clear hA0 hval0
  refine (FnExactChoicesOf_walk _ c0 W w0).mono fun e W' ⟨he, bel⟩ => ?_
  subst he
  exact ⟨_, rfl, _, _, _, [], _, [], hW', trodAll_mk1 (shut_bool Try.underlying4 _), (trodAll_cons_mk (Below.trod laidOut (by kernel_rfl) (of_decide_eq_true (by kernel_rfl)) k0 bel lt0) trodAll_mk0), rfl, bel.frame _, fun h => by cases h⟩

theorem over : Rows.fnExactChoicesOfRow.holds Try.pinned (OpenSpec.ofChange Rows.fnExactChoicesOfSpec) :=
  OpenClaim.holds_of_wide 4 Try.f4 rfl rfl rfl rfl rfl rfl rfl ⟨rfl, rfl, rfl, rfl, rfl⟩ rfl rfl rfl rfl rfl (by kernel_rfl) Try.func4 (by kernel_rfl)
    (of_decide_eq_true (by kernel_rfl)) (by unfold Func.isWrapper; first | (rw [if_pos (by decide +kernel)]; kernel_rfl) | (rw [if_neg (by decide +kernel)]; exact ⟨rfl, rfl⟩))
    (fun os started H enc _ => lifted os started H enc)

theorem proved : Rows.FnExactChoicesOfSaid := over
#print axioms proved
end Go.Proofs.Yticmekdfdilcpaa.fnExactChoicesOfDone
