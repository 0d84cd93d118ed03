/- The law FnExactOppositeChecker returns true at every input, and each argument reads afterwards as it read before: no condition. -/
import Derived.Test.YtdehehdcjfaefabOpp
import Derived.Test.YtdehehdcjfaefabPosts
import Derived.Deep.RegionWith
import Derived.Deep.DeepCutAuto
import Derived.WalkKit
import Derived.ProofKit
import Derived.OpenShut
import Derived.ShutString
import Derived.ChangeOld
import Derived.Below
namespace Go.Proofs.Ytdehehdcjfaefab
open Go.RowKit
set_option linter.unusedVariables false

set_option maxHeartbeats 25600000 in
set_option maxRecDepth 100000 in
theorem FnExactOppositeChecker_walk (v0 : Value) (c : Ck) (w : World) (ha : CkR w v0 c) :
    Calls Try.prog 3 #[v0] w fun e w' => e = .returned (.bool true) ∧ Below w.heap.size w w' := by
  have ha0 := ha
  obtain ⟨va, vc, vr, vi, rfl, h1, h2, h3, h4⟩ := ha
  obtain ⟨A, ka, rfl, _⟩ := id h1
  obtain ⟨B, kb, rfl, _⟩ := id h2
  obtain ⟨R, kr, rfl, _⟩ := id h3
  obtain ⟨I, ki, rfl, _⟩ := id h4
  clear h1 h2 h3 h4
  obtain ⟨na, hna⟩ : ∃ n, n = c.accept.length := ⟨_, rfl⟩
  obtain ⟨nb, hnb⟩ : ∃ n, n = c.call.length := ⟨_, rfl⟩
  obtain ⟨nr, hnr⟩ : ∃ n, n = c.ret.length := ⟨_, rfl⟩
  obtain ⟨ni, hni⟩ : ∃ n, n = c.inner.length := ⟨_, rfl⟩
  obtain ⟨s0, hs0⟩ : ∃ n, n = c.stack := ⟨_, rfl⟩
  obtain ⟨s1, hs1⟩ : ∃ n, n = c.start := ⟨_, rfl⟩
  rw [← hna, ← hnb, ← hnr, ← hni, ← hs0, ← hs1] at ha0 ⊢
  have Hs := Lib.hid (And.intro hs0 hs1)
  have Ha := Lib.hid ha0
  clear hna hnb hnr hni hs0 hs1 ha0
  have hB := (Below.refl w.heap.size w).alloc (Nat.le_refl _) (.cells #[.int .i64 s0, .int .i64 s1, .slice A na ka, .slice B nb kb, .slice R nr kr, .slice I ni ki] 27)
  have pb := Box6.new w (.int .i64 s0) (.int .i64 s1) (.slice A na ka) (.slice B nb kb) (.slice R nr kr) (.slice I ni ki) 27
  have q0 : Calls Try.prog 10 #[.agg #[.int .i64 s0, .int .i64 s1, .slice A na ka, .slice B nb kb, .slice R nr kr, .slice I ni ki], .int .i64 1048576] (w.alloc (.cells #[.int .i64 s0, .int .i64 s1, .slice A na ka, .slice B nb kb, .slice R nr kr, .slice I ni ki] 27)) _ := sz_checker 1048576 _ (Nat.le_refl _) (ck_r.later Ha.out hB)
  by_cases t : cntC c ≤ 1048576
  case' neg =>
    rw [dec_no t] at q0
    have Q0 := Lib.hid q0
    clear q0 t
    go_enter Try.func3, Try.ntmps3
    go_wp2_with fail
    refine Q0.out.mono ?_
    rintro e w1 ⟨rfl, hb1⟩
    go_wp2
    go_ret
    exact ⟨rfl, hB.trans (hb1.mono hB.size)⟩
  have Hbd := Lib.hid (bd_of_cnt t)
  rw [dec_yes t] at q0
  generalize 1048576 - cntC c = l at q0
  have Q0 := Lib.hid q0
  clear q0 t
  obtain ⟨rk, r1, hx0, hS, hI⟩ := both_OppositeChecker c
  have HS := Lib.hid hS
  have HI := Lib.hid hI
  clear hS hI
  obtain ⟨z, hz⟩ : ∃ z, z = 1 + szC c := ⟨_, rfl⟩
  obtain ⟨k0, hk0⟩ : ∃ k, k = 1 + szC rk := ⟨_, rfl⟩
  have hm0 := hx0.sum
  have hcs := Hbd.out.sum
  have lk0 : k0 ≤ 8388608 := by omega
  have Hz := Lib.hid hz
  clear hz hcs
  have Hk0 := Lib.hid hk0
  clear hk0
  have Hx0 := Lib.hid hx0
  clear hx0
  clear hm0
  obtain ⟨t0, ht0⟩ : ∃ n, n = rk.stack := ⟨_, rfl⟩
  obtain ⟨t1, ht1⟩ : ∃ n, n = rk.start := ⟨_, rfl⟩
  have Ht := Lib.hid (And.intro ht0 ht1)
  clear ht0 ht1
  go_enter Try.func3, Try.ntmps3
  obtain ⟨p0, p1, p2, p3, p4, p5, pl⟩ := id pb
  go_wp2_with fail
  refine Q0.out.mono ?_
  rintro e w101 ⟨rfl, hb101⟩
  clear p0 p1 p2 p3 p4 p5 pl
  clear Q0
  replace pb := pb.later hb101
  replace hB := hB.trans (hb101.mono hB.size)
  obtain ⟨p0, p1, p2, p3, p4, p5, pl⟩ := id pb
  go_wp2_with fail
  refine (to_checker _ Hbd.out (ck_r.later Ha.out hB)).mono ?_
  rintro e w102 ⟨vm, bsm, rfl, Em, hb102⟩
  clear p0 p1 p2 p3 p4 p5 pl
  replace pb := pb.later hb102
  replace hB := hB.trans (hb102.mono hB.size)
  obtain ⟨p0, p1, p2, p3, p4, p5, pl⟩ := id pb
  go_wp2_with fail
  refine (HS.out _ _ _ _ Hbd.out Em).mono ?_
  rintro e w103 ⟨S0, Sbs0, rfl, SE0, hb103⟩
  clear p0 p1 p2 p3 p4 p5 pl
  clear Em
  replace pb := pb.later hb103
  replace hB := hB.trans (hb103.mono hB.size)
  have slt0 := fun b hb => ((ck_ok _).lt SE0 b hb).2
  have sz1 := pb.lt
  obtain ⟨Sa, nSa, kSa, Sc, nSc, kSc, Sr, nSr, kSr, Si, nSi, kSi, rfl⟩ := SE0.form
  rw [← Ht.out.1, ← Ht.out.2] at SE0
  rw [← Ht.out.1, ← Ht.out.2]
  have Sb := Box6.new w103 (.int .i64 t0) (.int .i64 t1) (.slice Sa nSa kSa) (.slice Sc nSc kSc) (.slice Sr nSr kSr) (.slice Si nSi kSi) 31
  have hnS := (Below.refl _ w103).alloc (Nat.le_refl _) (.cells #[.int .i64 t0, .int .i64 t1, .slice Sa nSa kSa, .slice Sc nSc kSc, .slice Sr nSr kSr, .slice Si nSi kSi] 31)
  replace SE0 := (ck_ok _).later SE0 hnS
  replace pb := pb.later hnS
  replace hB := hB.alloc hB.size (.cells #[.int .i64 t0, .int .i64 t1, .slice Sa nSa kSa, .slice Sc nSc kSc, .slice Sr nSr kSr, .slice Si nSi kSi] 31)
  obtain ⟨p0, p1, p2, p3, p4, p5, pl⟩ := id pb
  obtain ⟨S0, S1, S2, S3, S4, S5, Sl⟩ := id Sb
  go_wp2_with fail
  refine (to_checker _ Hbd.out (ck_r.later Ha.out hB)).mono ?_
  rintro e w104 ⟨vx, bsx, rfl, Ex, hb104⟩
  clear p0 p1 p2 p3 p4 p5 pl S0 S1 S2 S3 S4 S5 Sl
  replace SE0 := (ck_ok _).later SE0 hb104
  replace pb := pb.later hb104
  replace Sb := Sb.later hb104
  replace hB := hB.trans (hb104.mono hB.size)
  have sz2 := hb104.size
  have xlt := fun b hb => (ck_ok _).lt Ex b hb
  rw [World.size_alloc] at sz2
  replace xlt : ∀ b ∈ bsx, w103.heap.size + 1 ≤ b ∧ b < w104.heap.size := fun b hb => by have := xlt b hb; rw [World.size_alloc] at this; exact this
  obtain ⟨ax, nax, cax, cx, ncx, ccx, rx, nrx, crx, ix, nix, cix, rfl⟩ := Ex.form
  rw [← Hs.out.1, ← Hs.out.2] at Ex
  rw [← Hs.out.1, ← Hs.out.2]
  have xb := Box6.new w104 (.int .i64 s0) (.int .i64 s1) (.slice ax nax cax) (.slice cx ncx ccx) (.slice rx nrx crx) (.slice ix nix cix) 31
  have hn := (Below.refl _ w104).alloc (Nat.le_refl _) (.cells #[.int .i64 s0, .int .i64 s1, .slice ax nax cax, .slice cx ncx ccx, .slice rx nrx crx, .slice ix nix cix] 31)
  have xbn : ∀ b ∈ bsx, b < w104.heap.size := fun b hb => (xlt b hb).2
  have xold := hB.size
  replace SE0 := (ck_ok _).later SE0 hn
  replace Ex := (ck_ok _).later Ex hn
  replace pb := pb.later hn
  replace Sb := Sb.later hn
  replace hB := hB.alloc hB.size (.cells #[.int .i64 s0, .int .i64 s1, .slice ax nax cax, .slice cx ncx ccx, .slice rx nrx crx, .slice ix nix cix] 31)
  obtain ⟨p0, p1, p2, p3, p4, p5, pl⟩ := id pb
  obtain ⟨S0, S1, S2, S3, S4, S5, Sl⟩ := id Sb
  obtain ⟨x0, x1, x2, x3, x4, x5, xl⟩ := id xb
  go_wp2_with fail
  refine (HI.out _ _ _ _ Hbd.out Ex).mono ?_
  rintro e w105 ⟨G0, Gbs0, rfl, GE0, hb105⟩
  clear p0 p1 p2 p3 p4 p5 pl S0 S1 S2 S3 S4 S5 Sl x0 x1 x2 x3 x4 x5 xl
  replace SE0 := (ck_ok _).later SE0 hb105
  replace Ex := (ck_ok _).later Ex hb105
  replace pb := pb.later hb105
  replace Sb := Sb.later hb105
  replace xb := xb.later hb105
  replace hB := hB.trans (hb105.mono hB.size)
  rw [World.size_alloc] at GE0
  have glt0 := fun b hb => ((ck_ok _).lt GE0 b hb).1
  have gl2 := fun b hb => ((ck_ok _).lt GE0 b hb).2
  have sz4 : w104.heap.size + 1 ≤ w105.heap.size := by have := hb105.size; rw [World.size_alloc] at this; exact this
  obtain ⟨Ga, nGa, kGa, Gc, nGc, kGc, Gr, nGr, kGr, Gi, nGi, kGi, rfl⟩ := GE0.form
  rw [← Ht.out.1, ← Ht.out.2] at GE0
  rw [← Ht.out.1, ← Ht.out.2]
  have Gb := Box6.new w105 (.int .i64 t0) (.int .i64 t1) (.slice Ga nGa kGa) (.slice Gc nGc kGc) (.slice Gr nGr kGr) (.slice Gi nGi kGi) 31
  have hnG := (Below.refl _ w105).alloc (Nat.le_refl _) (.cells #[.int .i64 t0, .int .i64 t1, .slice Ga nGa kGa, .slice Gc nGc kGc, .slice Gr nGr kGr, .slice Gi nGi kGi] 31)
  replace SE0 := (ck_ok _).later SE0 hnG
  replace Ex := (ck_ok _).later Ex hnG
  replace GE0 := (ck_ok _).later GE0 hnG
  replace pb := pb.later hnG
  replace Sb := Sb.later hnG
  replace xb := xb.later hnG
  replace hB := hB.alloc hB.size (.cells #[.int .i64 t0, .int .i64 t1, .slice Ga nGa kGa, .slice Gc nGc kGc, .slice Gr nGr kGr, .slice Gi nGi kGi] 31)
  obtain ⟨p0, p1, p2, p3, p4, p5, pl⟩ := id pb
  obtain ⟨S0, S1, S2, S3, S4, S5, Sl⟩ := id Sb
  obtain ⟨x0, x1, x2, x3, x4, x5, xl⟩ := id xb
  obtain ⟨G0, G1, G2, G3, G4, G5, Gl⟩ := id Gb
  go_wp2_with fail
  refine (eq_checker _ Hx0.out GE0 SE0).mono ?_
  rintro e w106 ⟨rfl, hb106⟩
  clear p0 p1 p2 p3 p4 p5 pl S0 S1 S2 S3 S4 S5 Sl x0 x1 x2 x3 x4 x5 xl G0 G1 G2 G3 G4 G5 Gl
  replace SE0 := (ck_ok _).later SE0 hb106
  replace Ex := (ck_ok _).later Ex hb106
  replace GE0 := (ck_ok _).later GE0 hb106
  replace pb := pb.later hb106
  replace Sb := Sb.later hb106
  replace xb := xb.later hb106
  replace Gb := Gb.later hb106
  replace hB := hB.trans (hb106.mono hB.size)
  go_upto_region 10 with fail
  have hR := Below.refl w106.heap.size w106
  have Hto := Lib.hid fun (W : World) (hw : Below w106.heap.size w106 W) => to_checker W Hbd.out (ck_r.later Ha.out (hB.trans (hw.mono hB.size)))
  have Heq := Lib.hid fun (W : World) (hw : Below w106.heap.size w106 W) (base : Nat) (v' : Value) (bs : List Nat) (h : CkE base W v' c bs) => eq_checker W Hbd.out ((ck_ok _).later Ex hw) h
  obtain ⟨p0, p1, p2, p3, p4, p5, pl⟩ := id pb
  obtain ⟨x0, x1, x2, x3, x4, x5, xl⟩ := id xb
  go_cut [45] (fun sr wx => sr = .bool false ∧ Below w106.heap.size w106 wx)
  case first =>
    go_region_with (first
      | (go_at_call 12
         refine (Hto.out _ (by first | exact hR.drew | exact hR)).mono ?_
         rintro e wt ⟨vt, bst, rfl, Et, hbt⟩
         have hwt : Below w106.heap.size w106 wt := by first | exact hR.drew.trans (hbt.mono hR.drew.size) | exact hbt
         have y0 := (xb.later hwt).c0
         have y1 := (xb.later hwt).c1
         have y2 := (xb.later hwt).c2
         have y3 := (xb.later hwt).c3
         have y4 := (xb.later hwt).c4
         have y5 := (xb.later hwt).c5)
      | (go_at_call 14
         refine (Heq.out _ hwt _ _ _ Et).mono ?_
         rintro e wu ⟨rfl, hbu⟩
         have hwu := hwt.trans (hbu.mono hwt.size)))
    all_goals
      go_wp2_with fail
      go_meet
      exact ⟨rfl, hwu⟩
  case rest =>
    obtain ⟨rfl, hwc⟩ := hcut
    clear p0 p1 p2 p3 p4 p5 pl x0 x1 x2 x3 x4 x5 xl
    replace SE0 := (ck_ok _).later SE0 hwc
    replace Ex := (ck_ok _).later Ex hwc
    replace GE0 := (ck_ok _).later GE0 hwc
    replace pb := pb.later hwc
    replace Sb := Sb.later hwc
    replace xb := xb.later hwc
    replace Gb := Gb.later hwc
    replace hB := hB.trans (hwc.mono hB.size)
    have far2 : w103.heap.size ∉ bsx ∧ w105.heap.size ∉ bsx := by
      refine ⟨fun h => ?_, fun h => ?_⟩
      · have := (xlt _ h).1; omega
      · have := (xlt _ h).2; omega
    have Far2 := Lib.hid far2
    clear far2
    have far : w.heap.size ∉ bsx ∧ w104.heap.size ∉ bsx ∧ (∀ b ∈ bsx, w.heap.size ≤ b) ∧ (∀ b ∈ Sbs0, b ∉ bsx) ∧ (∀ b ∈ Gbs0, b ∉ bsx) := by
      refine ⟨fun h => ?_, fun h => ?_, fun b h => ?_, fun b h1 h2 => ?_, fun b h1 h2 => ?_⟩
      · have := (xlt _ h).1; omega
      · have := (xlt _ h).2; omega
      · have := (xlt _ h).1; omega
      · have := (xlt _ h2).1; have := slt0 _ h1; omega
      · have := (xlt _ h2).2; have := glt0 _ h1; omega
    have Far := Lib.hid far
    clear far
    have mx := mark_checker 1 _ Hbd.out (by omega) Ex
    rw [← Hz.out] at mx
    have Mx := Lib.hid mx
    clear mx
    obtain ⟨p0, p1, p2, p3, p4, p5, pl⟩ := id pb
    obtain ⟨S0, S1, S2, S3, S4, S5, Sl⟩ := id Sb
    obtain ⟨x0, x1, x2, x3, x4, x5, xl⟩ := id xb
    obtain ⟨G0, G1, G2, G3, G4, G5, Gl⟩ := id Gb
    go_wp2_with fail
    refine Mx.out.mono ?_
    rintro e w107 ⟨rfl, Ex', ht107⟩
    clear p0 p1 p2 p3 p4 p5 pl S0 S1 S2 S3 S4 S5 Sl x0 x1 x2 x3 x4 x5 xl G0 G1 G2 G3 G4 G5 Gl
    clear Ex
    replace SE0 := (ck_ok _).off SE0 ht107 Far.out.2.2.2.1
    replace GE0 := (ck_ok _).off GE0 ht107 Far.out.2.2.2.2
    replace pb := pb.off ht107 Far.out.1
    replace Sb := Sb.off ht107 Far2.out.1
    replace Gb := Gb.off ht107 Far2.out.2
    replace hB := ht107.below hB hB.size Far.out.2.2.1
    clear xb
    obtain ⟨p0, p1, p2, p3, p4, p5, pl⟩ := id pb
    obtain ⟨S0, S1, S2, S3, S4, S5, Sl⟩ := id Sb
    obtain ⟨G0, G1, G2, G3, G4, G5, Gl⟩ := id Gb
    go_wp2_with fail
    refine (eq_checker _ Hx0.out GE0 SE0).mono ?_
    rintro e w108 ⟨rfl, hb108⟩
    clear p0 p1 p2 p3 p4 p5 pl S0 S1 S2 S3 S4 S5 Sl G0 G1 G2 G3 G4 G5 Gl
    replace SE0 := (ck_ok _).later SE0 hb108
    replace GE0 := (ck_ok _).later GE0 hb108
    replace pb := pb.later hb108
    replace Sb := Sb.later hb108
    replace Gb := Gb.later hb108
    replace hB := hB.trans (hb108.mono hB.size)
    have mk0 := mark_checker 1 _ Hx0.out (by omega) GE0
    rw [← Hk0.out] at mk0
    have MK0 := Lib.hid mk0
    clear mk0
    have gs0 : (∀ b ∈ Gbs0, w.heap.size ≤ b) ∧ w.heap.size ∉ Gbs0 := by
      refine ⟨fun b h => ?_, fun h => ?_⟩
      · have := glt0 b h; omega
      · have := glt0 _ h; omega
    have ds00 : ∀ b ∈ Sbs0, b ∉ Gbs0 := fun b h1 h2 => by have := slt0 _ h1; have := glt0 _ h2; omega
    have gt : w103.heap.size ∉ Gbs0 ∧ w105.heap.size ∉ Gbs0 := by
      refine ⟨fun h => ?_, fun h => ?_⟩
      · have := glt0 _ h; omega
      · have := gl2 _ h; omega
    obtain ⟨p0, p1, p2, p3, p4, p5, pl⟩ := id pb
    obtain ⟨S0, S1, S2, S3, S4, S5, Sl⟩ := id Sb
    obtain ⟨G0, G1, G2, G3, G4, G5, Gl⟩ := id Gb
    go_wp2_with fail
    refine MK0.out.mono ?_
    rintro e w109 ⟨rfl, GE0', ht109⟩
    clear p0 p1 p2 p3 p4 p5 pl S0 S1 S2 S3 S4 S5 Sl G0 G1 G2 G3 G4 G5 Gl
    clear GE0
    replace SE0 := (ck_ok _).off SE0 ht109 ds00
    replace Sb := Sb.off ht109 gt.1
    replace Gb := Gb.off ht109 gt.2
    replace pb := pb.off ht109 gs0.2
    replace hB := ht109.below hB hB.size gs0.1
    have hd0 := held_checker 1 _ Hx0.out (by omega) GE0'
    rw [← Hk0.out] at hd0
    have HD0 := Lib.hid hd0
    clear hd0
    obtain ⟨p0, p1, p2, p3, p4, p5, pl⟩ := id pb
    obtain ⟨S0, S1, S2, S3, S4, S5, Sl⟩ := id Sb
    obtain ⟨G0, G1, G2, G3, G4, G5, Gl⟩ := id Gb
    go_wp2_with fail
    refine HD0.out.mono ?_
    rintro e w110 ⟨rfl, hb110⟩
    clear p0 p1 p2 p3 p4 p5 pl S0 S1 S2 S3 S4 S5 Sl G0 G1 G2 G3 G4 G5 Gl
    clear HD0
    replace SE0 := (ck_ok _).later SE0 hb110
    replace GE0' := (ck_ok _).later GE0' hb110
    replace pb := pb.later hb110
    replace Sb := Sb.later hb110
    replace Gb := Gb.later hb110
    replace hB := hB.trans (hb110.mono hB.size)
    obtain ⟨p0, p1, p2, p3, p4, p5, pl⟩ := id pb
    obtain ⟨S0, S1, S2, S3, S4, S5, Sl⟩ := id Sb
    obtain ⟨G0, G1, G2, G3, G4, G5, Gl⟩ := id Gb
    go_wp2_with fail
    refine (to_checker _ Hbd.out (ck_r.later Ha.out hB)).mono ?_
    rintro e w111 ⟨vn, bsn, rfl, En, hb111⟩
    clear p0 p1 p2 p3 p4 p5 pl S0 S1 S2 S3 S4 S5 Sl G0 G1 G2 G3 G4 G5 Gl
    replace SE0 := (ck_ok _).later SE0 hb111
    replace GE0' := (ck_ok _).later GE0' hb111
    replace pb := pb.later hb111
    replace Sb := Sb.later hb111
    replace Gb := Gb.later hb111
    replace hB := hB.trans (hb111.mono hB.size)
    obtain ⟨p0, p1, p2, p3, p4, p5, pl⟩ := id pb
    obtain ⟨S0, S1, S2, S3, S4, S5, Sl⟩ := id Sb
    obtain ⟨G0, G1, G2, G3, G4, G5, Gl⟩ := id Gb
    go_wp2_with fail
    refine (HI.out _ _ _ _ Hbd.out En).mono ?_
    rintro e w112 ⟨H0, Hbs0, rfl, HE0, hb112⟩
    clear p0 p1 p2 p3 p4 p5 pl S0 S1 S2 S3 S4 S5 Sl G0 G1 G2 G3 G4 G5 Gl
    clear En
    replace SE0 := (ck_ok _).later SE0 hb112
    replace GE0' := (ck_ok _).later GE0' hb112
    replace pb := pb.later hb112
    replace Sb := Sb.later hb112
    replace Gb := Gb.later hb112
    replace hB := hB.trans (hb112.mono hB.size)
    obtain ⟨Ha, nHa, kHa, Hc, nHc, kHc, Hr, nHr, kHr, Hi, nHi, kHi, rfl⟩ := HE0.form
    rw [← Ht.out.1, ← Ht.out.2] at HE0
    rw [← Ht.out.1, ← Ht.out.2]
    have Hb := Box6.new w112 (.int .i64 t0) (.int .i64 t1) (.slice Ha nHa kHa) (.slice Hc nHc kHc) (.slice Hr nHr kHr) (.slice Hi nHi kHi) 31
    have hnH := (Below.refl _ w112).alloc (Nat.le_refl _) (.cells #[.int .i64 t0, .int .i64 t1, .slice Ha nHa kHa, .slice Hc nHc kHc, .slice Hr nHr kHr, .slice Hi nHi kHi] 31)
    replace SE0 := (ck_ok _).later SE0 hnH
    replace GE0' := (ck_ok _).later GE0' hnH
    replace HE0 := (ck_ok _).later HE0 hnH
    replace pb := pb.later hnH
    replace Sb := Sb.later hnH
    replace Gb := Gb.later hnH
    replace hB := hB.alloc hB.size (.cells #[.int .i64 t0, .int .i64 t1, .slice Ha nHa kHa, .slice Hc nHc kHc, .slice Hr nHr kHr, .slice Hi nHi kHi] 31)
    obtain ⟨p0, p1, p2, p3, p4, p5, pl⟩ := id pb
    obtain ⟨S0, S1, S2, S3, S4, S5, Sl⟩ := id Sb
    obtain ⟨G0, G1, G2, G3, G4, G5, Gl⟩ := id Gb
    obtain ⟨H0, H1, H2, H3, H4, H5, Hl⟩ := id Hb
    go_wp2_with fail
    refine (eq_checker _ Hx0.out HE0 SE0).mono ?_
    rintro e w113 ⟨rfl, hb113⟩
    clear p0 p1 p2 p3 p4 p5 pl S0 S1 S2 S3 S4 S5 Sl G0 G1 G2 G3 G4 G5 Gl H0 H1 H2 H3 H4 H5 Hl
    replace SE0 := (ck_ok _).later SE0 hb113
    replace GE0' := (ck_ok _).later GE0' hb113
    replace HE0 := (ck_ok _).later HE0 hb113
    replace pb := pb.later hb113
    replace Sb := Sb.later hb113
    replace Gb := Gb.later hb113
    replace Hb := Hb.later hb113
    replace hB := hB.trans (hb113.mono hB.size)
    have hd0 := held_checker 1 _ Hx0.out (by omega) GE0'
    rw [← Hk0.out] at hd0
    have HD0 := Lib.hid hd0
    clear hd0
    obtain ⟨p0, p1, p2, p3, p4, p5, pl⟩ := id pb
    obtain ⟨S0, S1, S2, S3, S4, S5, Sl⟩ := id Sb
    obtain ⟨G0, G1, G2, G3, G4, G5, Gl⟩ := id Gb
    obtain ⟨H0, H1, H2, H3, H4, H5, Hl⟩ := id Hb
    go_wp2_with fail
    refine HD0.out.mono ?_
    rintro e w114 ⟨rfl, hb114⟩
    clear p0 p1 p2 p3 p4 p5 pl S0 S1 S2 S3 S4 S5 Sl G0 G1 G2 G3 G4 G5 Gl H0 H1 H2 H3 H4 H5 Hl
    clear HD0
    replace SE0 := (ck_ok _).later SE0 hb114
    replace GE0' := (ck_ok _).later GE0' hb114
    replace HE0 := (ck_ok _).later HE0 hb114
    replace pb := pb.later hb114
    replace Sb := Sb.later hb114
    replace Gb := Gb.later hb114
    replace Hb := Hb.later hb114
    replace hB := hB.trans (hb114.mono hB.size)
    go_wp2
    go_ret
    exact ⟨rfl, hB⟩
end Go.Proofs.Ytdehehdcjfaefab

namespace Go.Proofs.Ytdehehdcjfaefab.fnExactOppositeCheckerDone
open Go.ChangeShapes Go.WideShapes Go.ChangeAt Go.RowKit
open Go.ChangeMaps (open_string shut_string)
set_option linter.unusedVariables false

theorem own : ownKnob Try.prog.godebug = none := by kernel_rfl
theorem laidOut : laidOutB Try.prog = true := by kernel_rfl

set_option maxRecDepth 100000 in
theorem lifted (os : Os) (started : os.Started) (H : Type) (enc : TypeId × Value → H) :
    ReturnsInHanded {} Try.checked os 3 .any (Rows.fnExactOppositeCheckerSpec.pre6 enc Try.prog Try.f3 Rows.fnExactOppositeCheckerRow.domain false) (Rows.fnExactOppositeCheckerSpec.post enc Try.prog Try.f3 false true false false) := by
  refine returnsInHanded_of_change (C := Try.checked) own started (by kernel_rfl) Try.func3
    (ChangeSpec.witness6 (enc := enc) (C := Try.checked) false ⟨#[], #[.agg #[.int .i64 0, .int .i64 0, .slice none 0 0, .slice none 0 0, .slice none 0 0, .slice none 0 0]], []⟩ 8 (by kernel_rfl) (by kernel_rfl) (by kernel_rfl) (by kernel_rfl)) ?_
  intro W base args ds gs before hval0 hW hcnd _
  have hval : ∀ (j : Nat) t v, Try.f3.params[j]? = some t → args[j]? = some v → Value.okWide Try.prog W .any base t v := hval0
  have hW' := hW
  obtain ⟨p, q, hA0, hV, rfl, hfz, hnd⟩ := hW
  have hA : DataW.TrodAll enc Try.prog W 0 (fun _ => true) true Try.f3.params.toList args.toList ds p := hA0
  rw [Try.params3] at hA hval
  obtain ⟨v0, vs0, d0, ds0, p0, q0, hargs, rfl, rfl, h0, r0⟩ := trodAll_cons hA
  obtain ⟨rfl, rfl, rfl⟩ := trodAll_nil r0
  obtain rfl : args = #[v0] := by cases args; simp_all
  obtain ⟨rfl, rfl⟩ := trodVars_none hV
  obtain ⟨c0, R0, _⟩ := open_ck (hval 0 27 v0 rfl rfl) h0
  have k0 := h0
  have lt0 : ∀ x ∈ p0, x.block < W.heap.size := by obtain ⟨m, hm⟩ := k0; exact DataW.trod_lt m _ _ _ hm
  clear hA0 hval0
  refine (FnExactOppositeChecker_walk v0 c0 W R0).mono fun e W' ⟨he, bel⟩ => ?_
  subst he
  exact ⟨_, rfl, _, _, _, [], _, [], hW', trodAll_mk1 (shut_bool Try.underlying4 _), (trodAll_cons_mk (Below.trod laidOut (by kernel_rfl) (of_decide_eq_true (by kernel_rfl)) k0 bel lt0) trodAll_mk0), rfl, bel.frame _, fun h => by cases h⟩

theorem over : Rows.fnExactOppositeCheckerRow.holds Try.pinned (OpenSpec.ofChange Rows.fnExactOppositeCheckerSpec) :=
  OpenClaim.holds_of_wide 3 Try.f3 rfl rfl rfl rfl rfl rfl rfl ⟨rfl, rfl, rfl, rfl, rfl⟩ rfl rfl rfl rfl rfl (by kernel_rfl) Try.func3 (by kernel_rfl)
    (of_decide_eq_true (by kernel_rfl)) (by unfold Func.isWrapper; first | (rw [if_pos (by decide +kernel)]; kernel_rfl) | (rw [if_neg (by decide +kernel)]; exact ⟨rfl, rfl⟩))
    (fun os started H enc _ => lifted os started H enc)

theorem proved : Rows.FnExactOppositeCheckerSaid := over
#print axioms proved
end Go.Proofs.Ytdehehdcjfaefab.fnExactOppositeCheckerDone
