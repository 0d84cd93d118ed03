/- The law FnExactGoOn returns true at every input, and each argument reads afterwards as it read before: no condition. -/
import Derived.Test.YthdjoligopmepabGoOnY
import Derived.Test.YthdjoligopmepabPosts
import Derived.Deep.RegionWith
import Derived.Deep.DeepCutAuto
import Derived.WalkKit
import Derived.ProofKit
import Derived.OpenShut
import Derived.ShutString
import Derived.ChangeOld
import Derived.Below
namespace Go.Proofs.Ythdjoligopmepab
open Go.RowKit
set_option linter.unusedVariables false

set_option maxHeartbeats 25600000 in
set_option maxRecDepth 100000 in
theorem FnExactGoOn_walk (v0 : Value) (c : Ck) (a1 : Int) (u2 : Value) (a2 : List Int) (a3 : ByteArray) (w : World) (ha : CkR w v0 c) (w1 : (Lit.int .i64 a1).wf = true) (w2 : IntsR w u2 a2) (w3 : a3.size ≤ maxLen) :
    Calls Try.prog 3 #[v0, .int .i64 a1, u2, .string a3] w fun e w' => e = .returned (.bool true) ∧ Below w.heap.size w w' := by
  have W2 := Lib.hid w2
  obtain ⟨A2, c2, rfl, m2, _⟩ := w2
  unfold maxLen at m2
  obtain ⟨l2, hl2⟩ : ∃ l, l = a2.length := ⟨_, rfl⟩
  have Hl2 := Lib.hid hl2
  rw [← hl2] at m2 W2 ⊢
  clear hl2
  unfold maxLen at w3
  have ha0 := ha
  obtain ⟨va, vc, vr, vi, rfl, h1, h2, h3, h4⟩ := ha
  obtain ⟨A, ka, rfl, _⟩ := id h1
  obtain ⟨B, kb, rfl, _⟩ := id h2
  obtain ⟨R, kr, rfl, _⟩ := id h3
  obtain ⟨I, ki, rfl, _⟩ := id h4
  clear h1 h2 h3 h4
  obtain ⟨na, hna⟩ : ∃ n, n = c.accept.length := ⟨_, rfl⟩
  obtain ⟨nb, hnb⟩ : ∃ n, n = c.call.length := ⟨_, rfl⟩
  obtain ⟨nr, hnr⟩ : ∃ n, n = c.ret.length := ⟨_, rfl⟩
  obtain ⟨ni, hni⟩ : ∃ n, n = c.inner.length := ⟨_, rfl⟩
  obtain ⟨s0, hs0⟩ : ∃ n, n = c.stack := ⟨_, rfl⟩
  obtain ⟨s1, hs1⟩ : ∃ n, n = c.start := ⟨_, rfl⟩
  rw [← hna, ← hnb, ← hnr, ← hni, ← hs0, ← hs1] at ha0 ⊢
  have Hs := Lib.hid (And.intro hs0 hs1)
  have Ha := Lib.hid ha0
  clear hna hnb hnr hni hs0 hs1 ha0
  have hB := (Below.refl w.heap.size w).alloc (Nat.le_refl _) (.cells #[.int .i64 s0, .int .i64 s1, .slice A na ka, .slice B nb kb, .slice R nr kr, .slice I ni ki] 27)
  have pb := Box6.new w (.int .i64 s0) (.int .i64 s1) (.slice A na ka) (.slice B nb kb) (.slice R nr kr) (.slice I ni ki) 27
  by_cases hs2 : l2 ≤ 1048576
  case' neg =>
    have h2 : 1048576 < l2 := by omega
    clear hs2
    go_enter Try.func3, Try.ntmps3
    go_wp2
    go_ret
    exact ⟨rfl, hB⟩
  by_cases hs3 : a3.size ≤ 1048576
  case' neg =>
    have h3 : 1048576 < a3.size := by omega
    clear hs3
    go_enter Try.func3, Try.ntmps3
    go_wp2
    go_ret
    exact ⟨rfl, hB⟩
  have q0 : Calls Try.prog 9 #[.agg #[.int .i64 s0, .int .i64 s1, .slice A na ka, .slice B nb kb, .slice R nr kr, .slice I ni ki], .int .i64 1048576] (w.alloc (.cells #[.int .i64 s0, .int .i64 s1, .slice A na ka, .slice B nb kb, .slice R nr kr, .slice I ni ki] 27)) _ := sz_checker 1048576 _ (Nat.le_refl _) (ck_r.later Ha.out hB)
  by_cases t : cntC c ≤ 1048576
  case' neg =>
    rw [dec_no t] at q0
    have Q0 := Lib.hid q0
    clear q0 t
    go_enter Try.func3, Try.ntmps3
    go_wp2_with fail
    refine Q0.out.mono ?_
    rintro e w1 ⟨rfl, hb1⟩
    go_wp2
    go_ret
    exact ⟨rfl, hB.trans (hb1.mono hB.size)⟩
  have Hbd := Lib.hid (bd_of_cnt t)
  rw [dec_yes t] at q0
  generalize 1048576 - cntC c = l at q0
  have Q0 := Lib.hid q0
  clear q0 t
  have hq2 : a2.length ≤ 1048576 := by rw [← Hl2.out]; exact hs2
  obtain ⟨r0, x1, r2, hx1, hS, hI⟩ := both_GoOn c a1 a2 a3 hq2 hs3
  have HS := Lib.hid hS
  have HI := Lib.hid hI
  clear hS hI
  obtain ⟨z, hz⟩ : ∃ z, z = 1 + szC c := ⟨_, rfl⟩
  obtain ⟨k0, hk0⟩ : ∃ k, k = 1 + x1.length := ⟨_, rfl⟩
  have hcs := Hbd.out.sum
  have lk0 : k0 ≤ 8388608 := by omega
  have Hz := Lib.hid hz
  clear hz hcs
  have Hk0 := Lib.hid hk0
  clear hk0
  have Hx1 := Lib.hid hx1
  go_enter Try.func3, Try.ntmps3
  go_wp2_with fail
  refine Q0.out.mono ?_
  rintro e w101 ⟨rfl, hb101⟩
  clear Q0
  replace pb := pb.later hb101
  replace hB := hB.trans (hb101.mono hB.size)
  obtain ⟨p0, p1, p2, p3, p4, p5, pl⟩ := id pb
  go_wp2_with fail
  refine (to_checker _ Hbd.out (ck_r.later Ha.out hB)).mono ?_
  rintro e w102 ⟨vm, bsm, rfl, Em, hb102⟩
  clear p0 p1 p2 p3 p4 p5 pl
  replace pb := pb.later hb102
  replace hB := hB.trans (hb102.mono hB.size)
  go_wp2_with fail
  refine (to_ints _ (show Bd1 a2 from hq2) (ints_r.later W2.out hB)).mono ?_
  rintro e w103 ⟨ym, ybsm, rfl, Ym, hb103⟩
  replace Em := (ck_ok _).later Em hb103
  replace pb := pb.later hb103
  replace hB := hB.trans (hb103.mono hB.size)
  go_wp2_with fail
  refine (HS.out _ _ _ _ _ _ _ Hbd.out Em Ym).mono ?_
  rintro e w104 ⟨S0, Sbs0, rfl, SE0, hb104⟩
  clear Em Ym
  replace pb := pb.later hb104
  replace hB := hB.trans (hb104.mono hB.size)
  have slt0 := fun b hb => ((ints_ok _).lt SE0 b hb).2
  have sz1 := pb.lt
  obtain ⟨p0, p1, p2, p3, p4, p5, pl⟩ := id pb
  go_wp2_with fail
  refine (to_checker _ Hbd.out (ck_r.later Ha.out hB)).mono ?_
  rintro e w105 ⟨vx, bsx, rfl, Ex, hb105⟩
  clear p0 p1 p2 p3 p4 p5 pl
  replace SE0 := (ints_ok _).later SE0 hb105
  replace pb := pb.later hb105
  replace hB := hB.trans (hb105.mono hB.size)
  have sz2 := hb105.size
  have xlt := fun b hb => (ck_ok _).lt Ex b hb
  obtain ⟨ax, nax, cax, cx, ncx, ccx, rx, nrx, crx, ix, nix, cix, rfl⟩ := Ex.form
  rw [← Hs.out.1, ← Hs.out.2] at Ex
  rw [← Hs.out.1, ← Hs.out.2]
  have xb := Box6.new w105 (.int .i64 s0) (.int .i64 s1) (.slice ax nax cax) (.slice cx ncx ccx) (.slice rx nrx crx) (.slice ix nix cix) 34
  have hn := (Below.refl _ w105).alloc (Nat.le_refl _) (.cells #[.int .i64 s0, .int .i64 s1, .slice ax nax cax, .slice cx ncx ccx, .slice rx nrx crx, .slice ix nix cix] 34)
  have xbn : ∀ b ∈ bsx, b < w105.heap.size := fun b hb => (xlt b hb).2
  have xold := hB.size
  replace SE0 := (ints_ok _).later SE0 hn
  replace Ex := (ck_ok _).later Ex hn
  replace pb := pb.later hn
  replace hB := hB.alloc hB.size (.cells #[.int .i64 s0, .int .i64 s1, .slice ax nax cax, .slice cx ncx ccx, .slice rx nrx crx, .slice ix nix cix] 34)
  go_wp2_with fail
  refine (to_ints _ (show Bd1 a2 from hq2) (ints_r.later W2.out hB)).mono ?_
  rintro e w106 ⟨yx, ybsx, rfl, Yx, hb106⟩
  replace SE0 := (ints_ok _).later SE0 hb106
  replace Ex := (ck_ok _).later Ex hb106
  replace pb := pb.later hb106
  replace xb := xb.later hb106
  replace hB := hB.trans (hb106.mono hB.size)
  have ylt := fun b hb => (ints_ok _).lt Yx b hb
  have ylt2 : ∀ b ∈ ybsx, w105.heap.size + 1 ≤ b ∧ b < w106.heap.size := fun b hb => by have := ylt b hb; rw [World.size_alloc] at this; exact this
  have sz3 : w105.heap.size + 1 ≤ w106.heap.size := by have := hb106.size; rw [World.size_alloc] at this; exact this
  obtain ⟨x0, x1, x2, x3, x4, x5, xl⟩ := id xb
  go_wp2_with fail
  refine (HI.out _ _ _ _ _ _ _ Hbd.out Ex Yx).mono ?_
  rintro e w107 ⟨G0, Gbs0, rfl, GE0, hb107⟩
  clear x0 x1 x2 x3 x4 x5 xl
  replace SE0 := (ints_ok _).later SE0 hb107
  replace Ex := (ck_ok _).later Ex hb107
  replace Yx := (ints_ok _).later Yx hb107
  replace pb := pb.later hb107
  replace xb := xb.later hb107
  replace hB := hB.trans (hb107.mono hB.size)
  have glt0 := fun b hb => ((ints_ok _).lt GE0 b hb).1
  go_wp2_with fail
  refine (eq_ints _ (by omega) GE0 SE0).mono ?_
  rintro e w108 ⟨rfl, hb108⟩
  replace SE0 := (ints_ok _).later SE0 hb108
  replace Ex := (ck_ok _).later Ex hb108
  replace Yx := (ints_ok _).later Yx hb108
  replace GE0 := (ints_ok _).later GE0 hb108
  replace pb := pb.later hb108
  replace xb := xb.later hb108
  replace hB := hB.trans (hb108.mono hB.size)
  go_upto_region 15 with fail
  have hR := Below.refl w108.heap.size w108
  have Hto := Lib.hid fun (W : World) (hw : Below w108.heap.size w108 W) => to_checker W Hbd.out (ck_r.later Ha.out (hB.trans (hw.mono hB.size)))
  have Heq := Lib.hid fun (W : World) (hw : Below w108.heap.size w108 W) (base : Nat) (v' : Value) (bs : List Nat) (h : CkE base W v' c bs) => eq_checker W Hbd.out ((ck_ok _).later Ex hw) h
  obtain ⟨p0, p1, p2, p3, p4, p5, pl⟩ := id pb
  obtain ⟨x0, x1, x2, x3, x4, x5, xl⟩ := id xb
  go_cut [77] (fun sr wx => sr = .bool false ∧ Below w108.heap.size w108 wx)
  case first =>
    go_region_with (first
      | (go_at_call 11
         refine (Hto.out _ (by first | exact hR.drew | exact hR)).mono ?_
         rintro e wt ⟨vt, bst, rfl, Et, hbt⟩
         have hwt : Below w108.heap.size w108 wt := by first | exact hR.drew.trans (hbt.mono hR.drew.size) | exact hbt
         have y0 := (xb.later hwt).c0
         have y1 := (xb.later hwt).c1
         have y2 := (xb.later hwt).c2
         have y3 := (xb.later hwt).c3
         have y4 := (xb.later hwt).c4
         have y5 := (xb.later hwt).c5)
      | (go_at_call 15
         refine (Heq.out _ hwt _ _ _ Et).mono ?_
         rintro e wu ⟨rfl, hbu⟩
         have hwu := hwt.trans (hbu.mono hwt.size)))
    all_goals
      go_wp2_with fail
      go_meet
      exact ⟨rfl, hwu⟩
  case rest =>
    obtain ⟨rfl, hwc⟩ := hcut
    clear p0 p1 p2 p3 p4 p5 pl x0 x1 x2 x3 x4 x5 xl
    replace SE0 := (ints_ok _).later SE0 hwc
    replace Ex := (ck_ok _).later Ex hwc
    replace Yx := (ints_ok _).later Yx hwc
    replace GE0 := (ints_ok _).later GE0 hwc
    replace pb := pb.later hwc
    replace xb := xb.later hwc
    replace hB := hB.trans (hwc.mono hB.size)
    go_wp2_with fail
    refine (to_ints _ (show Bd1 a2 from hq2) (ints_r.later W2.out hB)).mono ?_
    rintro e w109 ⟨yz, ybsz, rfl, Yz, hb109⟩
    replace SE0 := (ints_ok _).later SE0 hb109
    replace Ex := (ck_ok _).later Ex hb109
    replace Yx := (ints_ok _).later Yx hb109
    replace GE0 := (ints_ok _).later GE0 hb109
    replace pb := pb.later hb109
    replace xb := xb.later hb109
    replace hB := hB.trans (hb109.mono hB.size)
    go_wp2_with fail
    refine (eq_ints _ hq2 Yx Yz).mono ?_
    rintro e w110 ⟨rfl, hb110⟩
    clear Yz
    replace SE0 := (ints_ok _).later SE0 hb110
    replace Ex := (ck_ok _).later Ex hb110
    replace Yx := (ints_ok _).later Yx hb110
    replace GE0 := (ints_ok _).later GE0 hb110
    replace pb := pb.later hb110
    replace xb := xb.later hb110
    replace hB := hB.trans (hb110.mono hB.size)
    have yfar : (∀ b ∈ ybsx, b ∉ bsx) ∧ w.heap.size ∉ ybsx ∧ (∀ b ∈ ybsx, w.heap.size ≤ b) ∧ (∀ b ∈ Sbs0, b ∉ ybsx) ∧ (∀ b ∈ Gbs0, b ∉ ybsx) := by
      refine ⟨fun b h1 h2 => ?_, fun h => ?_, fun b h => ?_, fun b h1 h2 => ?_, fun b h1 h2 => ?_⟩
      · have := (xlt _ h2).2; have := (ylt2 _ h1).1; omega
      · have := (ylt2 _ h).1; omega
      · have := (ylt2 _ h).1; omega
      · have := (ylt2 _ h2).1; have := slt0 _ h1; omega
      · have := (ylt2 _ h2).2; have := glt0 _ h1; omega
    have YFar := Lib.hid yfar
    clear yfar
    have far : w.heap.size ∉ bsx ∧ w105.heap.size ∉ bsx ∧ (∀ b ∈ bsx, w.heap.size ≤ b) ∧ (∀ b ∈ Sbs0, b ∉ bsx) ∧ (∀ b ∈ Gbs0, b ∉ bsx) := by
      refine ⟨fun h => ?_, fun h => ?_, fun b h => ?_, fun b h1 h2 => ?_, fun b h1 h2 => ?_⟩
      · have := (xlt _ h).1; omega
      · have := (xlt _ h).2; omega
      · have := (xlt _ h).1; omega
      · have := (xlt _ h2).1; have := slt0 _ h1; omega
      · have := (xlt _ h2).2; have := glt0 _ h1; omega
    have Far := Lib.hid far
    clear far
    obtain ⟨x0, x1, x2, x3, x4, x5, xl⟩ := id xb
    have mx := mark_checker 1 _ Hbd.out (by omega) Ex
    rw [← Hz.out] at mx
    have Mx := Lib.hid mx
    clear mx
    go_wp2_with fail
    refine Mx.out.mono ?_
    rintro e w111 ⟨rfl, Ex', ht111⟩
    clear Ex
    clear x0 x1 x2 x3 x4 x5 xl
    replace SE0 := (ints_ok _).off SE0 ht111 Far.out.2.2.2.1
    replace GE0 := (ints_ok _).off GE0 ht111 Far.out.2.2.2.2
    replace pb := pb.off ht111 Far.out.1
    replace hB := ht111.below hB hB.size Far.out.2.2.1
    replace Yx := (ints_ok _).off Yx ht111 YFar.out.1
    have my := mark_ints z _ hq2 (by rw [Hz.out]; have := Hbd.out.sum; omega) Yx
    obtain ⟨z2, hz2⟩ : ∃ z2, z2 = z + a2.length := ⟨_, rfl⟩
    rw [← hz2] at my
    have My := Lib.hid my
    clear my hz2
    go_wp2_with fail
    refine My.out.mono ?_
    rintro e w112 ⟨rfl, Yx', ht112⟩
    clear Yx Yx'
    replace SE0 := (ints_ok _).off SE0 ht112 YFar.out.2.2.2.1
    replace GE0 := (ints_ok _).off GE0 ht112 YFar.out.2.2.2.2
    replace pb := pb.off ht112 YFar.out.2.1
    replace hB := ht112.below hB hB.size YFar.out.2.2.1
    clear xb
    go_wp2_with fail
    refine (eq_ints _ (by omega) GE0 SE0).mono ?_
    rintro e w113 ⟨rfl, hb113⟩
    replace SE0 := (ints_ok _).later SE0 hb113
    replace GE0 := (ints_ok _).later GE0 hb113
    replace pb := pb.later hb113
    replace hB := hB.trans (hb113.mono hB.size)
    have mk0 := mark_ints 1 _ (by omega) (by omega) GE0
    rw [← Hk0.out] at mk0
    have MK0 := Lib.hid mk0
    clear mk0
    have gs0 : (∀ b ∈ Gbs0, w.heap.size ≤ b) ∧ w.heap.size ∉ Gbs0 := by
      refine ⟨fun b h => ?_, fun h => ?_⟩
      · have := glt0 b h; omega
      · have := glt0 _ h; omega
    have ds00 : ∀ b ∈ Sbs0, b ∉ Gbs0 := fun b h1 h2 => by have := slt0 _ h1; have := glt0 _ h2; omega
    go_wp2_with fail
    refine MK0.out.mono ?_
    rintro e w114 ⟨rfl, GE0', ht114⟩
    clear GE0
    replace SE0 := (ints_ok _).off SE0 ht114 ds00
    replace pb := pb.off ht114 gs0.2
    replace hB := ht114.below hB hB.size gs0.1
    have hd0 := held_ints 1 _ (by omega) (by omega) GE0'
    rw [← Hk0.out] at hd0
    have HD0 := Lib.hid hd0
    clear hd0
    go_wp2_with fail
    refine HD0.out.mono ?_
    rintro e w115 ⟨rfl, hb115⟩
    clear HD0
    replace SE0 := (ints_ok _).later SE0 hb115
    replace GE0' := (ints_ok _).later GE0' hb115
    replace pb := pb.later hb115
    replace hB := hB.trans (hb115.mono hB.size)
    obtain ⟨p0, p1, p2, p3, p4, p5, pl⟩ := id pb
    go_wp2_with fail
    refine (to_checker _ Hbd.out (ck_r.later Ha.out hB)).mono ?_
    rintro e w116 ⟨vn, bsn, rfl, En, hb116⟩
    clear p0 p1 p2 p3 p4 p5 pl
    replace SE0 := (ints_ok _).later SE0 hb116
    replace GE0' := (ints_ok _).later GE0' hb116
    replace pb := pb.later hb116
    replace hB := hB.trans (hb116.mono hB.size)
    go_wp2_with fail
    refine (to_ints _ (show Bd1 a2 from hq2) (ints_r.later W2.out hB)).mono ?_
    rintro e w117 ⟨yn, ybsn, rfl, Yn, hb117⟩
    replace SE0 := (ints_ok _).later SE0 hb117
    replace GE0' := (ints_ok _).later GE0' hb117
    replace En := (ck_ok _).later En hb117
    replace pb := pb.later hb117
    replace hB := hB.trans (hb117.mono hB.size)
    go_wp2_with fail
    refine (HI.out _ _ _ _ _ _ _ Hbd.out En Yn).mono ?_
    rintro e w118 ⟨H0, Hbs0, rfl, HE0, hb118⟩
    clear En Yn
    replace SE0 := (ints_ok _).later SE0 hb118
    replace GE0' := (ints_ok _).later GE0' hb118
    replace pb := pb.later hb118
    replace hB := hB.trans (hb118.mono hB.size)
    go_wp2_with fail
    refine (eq_ints _ (by omega) HE0 SE0).mono ?_
    rintro e w119 ⟨rfl, hb119⟩
    replace SE0 := (ints_ok _).later SE0 hb119
    replace GE0' := (ints_ok _).later GE0' hb119
    replace HE0 := (ints_ok _).later HE0 hb119
    replace pb := pb.later hb119
    replace hB := hB.trans (hb119.mono hB.size)
    have hd0 := held_ints 1 _ (by omega) (by omega) GE0'
    rw [← Hk0.out] at hd0
    have HD0 := Lib.hid hd0
    clear hd0
    go_wp2_with fail
    refine HD0.out.mono ?_
    rintro e w120 ⟨rfl, hb120⟩
    clear HD0
    replace SE0 := (ints_ok _).later SE0 hb120
    replace GE0' := (ints_ok _).later GE0' hb120
    replace HE0 := (ints_ok _).later HE0 hb120
    replace pb := pb.later hb120
    replace hB := hB.trans (hb120.mono hB.size)
    go_wp2
    go_ret
    exact ⟨rfl, hB⟩
end Go.Proofs.Ythdjoligopmepab

namespace Go.Proofs.Ythdjoligopmepab.fnExactGoOnDone
open Go.ChangeShapes Go.WideShapes Go.ChangeAt Go.RowKit
open Go.ChangeMaps (open_string shut_string)
set_option linter.unusedVariables false

theorem own : ownKnob Try.prog.godebug = none := by kernel_rfl
theorem laidOut : laidOutB Try.prog = true := by kernel_rfl

set_option maxRecDepth 100000 in
theorem lifted (os : Os) (started : os.Started) (H : Type) (enc : TypeId × Value → H) :
    ReturnsInHanded {} Try.checked os 3 .any (Rows.fnExactGoOnSpec.pre6 enc Try.prog Try.f3 Rows.fnExactGoOnRow.domain false) (Rows.fnExactGoOnSpec.post enc Try.prog Try.f3 false true false false) := by
  refine returnsInHanded_of_change (C := Try.checked) own started (by kernel_rfl) Try.func3
    (ChangeSpec.witness6 (enc := enc) (C := Try.checked) false ⟨#[], #[.agg #[.int .i64 0, .int .i64 0, .slice none 0 0, .slice none 0 0, .slice none 0 0, .slice none 0 0], .int .i64 0, .slice none 0 0, .string ByteArray.empty], []⟩ 8 (by kernel_rfl) (by kernel_rfl) (by kernel_rfl) (by kernel_rfl)) ?_
  intro W base args ds gs before hval0 hW hcnd _
  have hval : ∀ (j : Nat) t v, Try.f3.params[j]? = some t → args[j]? = some v → Value.okWide Try.prog W .any base t v := hval0
  have hW' := hW
  obtain ⟨p, q, hA0, hV, rfl, hfz, hnd⟩ := hW
  have hA : DataW.TrodAll enc Try.prog W 0 (fun _ => true) true Try.f3.params.toList args.toList ds p := hA0
  rw [Try.params3] at hA hval
  obtain ⟨v0, vs0, d0, ds0, p0, q0, hargs, rfl, rfl, h0, r0⟩ := trodAll_cons hA
  obtain ⟨v1, vs1, d1, ds1, p1, q1, rfl, rfl, rfl, h1, r1⟩ := trodAll_cons r0
  obtain ⟨v2, vs2, d2, ds2, p2, q2, rfl, rfl, rfl, h2, r2⟩ := trodAll_cons r1
  obtain ⟨v3, vs3, d3, ds3, p3, q3, rfl, rfl, rfl, h3, r3⟩ := trodAll_cons r2
  obtain ⟨rfl, rfl, rfl⟩ := trodAll_nil r3
  obtain rfl : args = #[v0, v1, v2, v3] := by cases args; simp_all
  obtain ⟨rfl, rfl⟩ := trodVars_none hV
  obtain ⟨c0, R0, _⟩ := open_ck (hval 0 27 v0 rfl rfl) h0
  have k0 := h0
  have lt0 : ∀ x ∈ p0, x.block < W.heap.size := by obtain ⟨m, hm⟩ := k0; exact DataW.trod_lt m _ _ _ hm
  obtain ⟨a1, rfl, rfl, rfl, w1⟩ := open_int Try.underlying2 (hval 1 2 v1 rfl rfl) h1
  have k2 := h2
  have lt2 : ∀ x ∈ p2, x.block < W.heap.size := by obtain ⟨m, hm⟩ := k2; exact DataW.trod_lt m _ _ _ hm
  obtain ⟨la2, ll2, lc2, rfl⟩ := okWide_slice Try.underlying28 (hval 2 28 v2 rfl rfl)
  obtain ⟨fuel2, hf2⟩ := h2
  obtain ⟨a2, w2, _⟩ := read_ints hf2
  obtain ⟨a3, rfl, rfl, rfl, w3⟩ := open_string Try.underlying9 (hval 3 9 v3 rfl rfl) h3
  clear hA0 hval0
  refine (FnExactGoOn_walk v0 c0 a1 _ a2 a3 W R0 w1 w2 w3).mono fun e W' ⟨he, bel⟩ => ?_
  subst he
  exact ⟨_, rfl, _, _, _, [], _, [], hW', trodAll_mk1 (shut_bool Try.underlying4 _), (trodAll_cons_mk (Below.trod laidOut (by kernel_rfl) (of_decide_eq_true (by kernel_rfl)) k0 bel lt0) (trodAll_cons_mk (shut_int Try.underlying2 w1) (trodAll_cons_mk (Below.trod laidOut (by kernel_rfl) (of_decide_eq_true (by kernel_rfl)) k2 bel lt2) (trodAll_cons_mk (shut_string Try.underlying9 w3) trodAll_mk0)))), rfl, bel.frame _, fun h => by cases h⟩

theorem over : Rows.fnExactGoOnRow.holds Try.pinned (OpenSpec.ofChange Rows.fnExactGoOnSpec) :=
  OpenClaim.holds_of_wide 3 Try.f3 rfl rfl rfl rfl rfl rfl rfl ⟨rfl, rfl, rfl, rfl, rfl⟩ rfl rfl rfl rfl rfl (by kernel_rfl) Try.func3 (by kernel_rfl)
    (of_decide_eq_true (by kernel_rfl)) (by unfold Func.isWrapper; first | (rw [if_pos (by decide +kernel)]; kernel_rfl) | (rw [if_neg (by decide +kernel)]; exact ⟨rfl, rfl⟩))
    (fun os started H enc _ => lifted os started H enc)

theorem proved : Rows.FnExactGoOnSaid := over
#print axioms proved
end Go.Proofs.Ythdjoligopmepab.fnExactGoOnDone
