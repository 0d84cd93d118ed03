/- FixRewriter of the model and of the program. -/
import Derived.Test.YtmkamodmnplclaaKnA
import Derived.BigRegion
import Derived.Deep.DeepCutAuto
namespace Go.Proofs.Ytmkamodmnplclaa
open Go.RowKit
set_option linter.unusedVariables false

abbrev fixRw : Rw := lit1 2 (0, 0, ⟨#[40]⟩) (0, 1, ⟨#[91]⟩) [(0, ⟨#[41]⟩), (0, ⟨#[93]⟩), (0, ⟨#[41]⟩)] [(0, ⟨#[41]⟩), (0, ⟨#[93]⟩), (0, ⟨#[93]⟩)] (0, ⟨#[97]⟩) (0, ⟨#[98]⟩)
theorem fix_bd : BdRw fixRw := lit1_bd (by decide) (by decide)
def fixS (j : Nat) : Rw := if j = 0 then lit1 2 (0, 0, ⟨#[40]⟩) (0, 1, ⟨#[91]⟩) (List.replicate 3 (0, ⟨#[41]⟩)) (List.replicate 3 (0, ⟨#[93]⟩)) (0, ⟨#[97]⟩) (0, ⟨#[98]⟩) else if j = 1 then lit1 2 (0, 0, ⟨#[40]⟩) (0, 1, ⟨#[91]⟩) [(0, ⟨#[41]⟩), (0, ⟨#[93]⟩), (0, ⟨#[41]⟩)] (List.replicate 3 (0, ⟨#[93]⟩)) (0, ⟨#[97]⟩) (0, ⟨#[98]⟩) else fixRw
set_option maxHeartbeats 6400000 in
set_option maxRecDepth 100000 in
theorem spec_FixRewriter (w : World) : Calls Try.prog 22 #[] w (NewPost RwE fixRw w) := by
  have H : Hid (∀ W, Calls Try.prog 44 #[.int .i64 1, .int .i64 2] W (NewPost RwE (plainRw 1 2) W)) := fun W => spec_plainRw 1 2 W (by omega) (by omega)
  obtain ⟨c9, hc9⟩ : ∃ c, c = plainRw 1 2 := ⟨_, rfl⟩
  rw [← hc9] at H
  have Hc9 := Lib.hid hc9
  clear hc9
  have hBr := (Below.refl w.heap.size w).alloc (Nat.le_refl _) (.cells #[.int .i64 0, .int .i64 0, .slice none 0 0, .slice none 0 0, .slice none 0 0] 36)
  have hres := Bx.new w 36 #[.int .i64 0, .int .i64 0, .slice none 0 0, .slice none 0 0, .slice none 0 0]
  obtain ⟨Wr, hWr⟩ : ∃ Wr, Wr = w.alloc (.cells #[.int .i64 0, .int .i64 0, .slice none 0 0, .slice none 0 0, .slice none 0 0] 36) := ⟨_, rfl⟩
  rw [← hWr] at hBr hres
  have HR := Lib.hid (And.intro hBr (And.intro hres.lt hres))
  have hml : w.heap.size < Wr.heap.size := hres.lt
  have HWr := Lib.hid hWr
  clear hBr hres hWr
  go_enter Try.func22, Try.ntmps22
  go_wp2_with fail
  rw [← HWr.out]
  refine (H.out _).mono ?_
  rintro e w1 ⟨v1, bs1, rfl, E1, hb1⟩
  obtain ⟨A0, n0, k0, A1, n1, k1, A2, n2, k2, rfl⟩ := E1.form
  obtain ⟨b1, b2, b3, hA⟩ := RwAt.of_value E1 hb1.size
  have hBX := (hb1.alloc hb1.size (.cells #[.int .i64 c9.stack, .int .i64 c9.start, .slice A0 n0 k0, .slice A1 n1 k1, .slice A2 n2 k2] 36))
  obtain ⟨b, hb⟩ : ∃ b, b = w1.heap.size := ⟨_, rfl⟩
  obtain ⟨X0, hX0⟩ : ∃ X, X = w1.alloc (.cells #[.int .i64 c9.stack, .int .i64 c9.start, .slice A0 n0 k0, .slice A1 n1 k1, .slice A2 n2 k2] 36) := ⟨_, rfl⟩
  rw [← hX0, ← hb] at hA
  rw [← hX0] at hBX
  rw [Hc9.out] at hA
  have HX0 := Lib.hid (And.intro hX0 hb)
  have HA_X0 := Lib.hid (And.intro (show RwAt Wr.heap.size X0 b (lit1 2 (0, 0, ⟨#[40]⟩) (0, 0, ⟨#[91]⟩) (List.replicate 3 (0, ⟨#[41]⟩)) (List.replicate 3 (0, ⟨#[93]⟩)) (0, ⟨#[97]⟩) (0, ⟨#[98]⟩)) b1 b2 b3 from hA) hBX)
  clear hA hBX hX0 hb E1 hb1
  go_upto_region 2 with fail
  rw [← HX0.out.2]
  rw [← HX0.out.1]
  clear HX0
  obtain ⟨hA, hB⟩ := HA_X0.out
  obtain ⟨g0, k0, g1, k1, hc0, hc1, hc2, hfz, ⟨hb', hg0, hg1⟩, hput⟩ := hA.at_call (i := 0) (j := 1) (o := 4) (q := 1) (row := [(0, 0, ⟨#[40]⟩), (0, 0, ⟨#[91]⟩)]) (p := (0, 0, ⟨#[91]⟩)) rfl rfl rfl rfl
  have hc0 : X0.cell? ⟨b, 2, none⟩ = some (.slice (some ⟨g0, 0, none⟩) 1 k0) := hc0
  have hc1 : X0.cell? ⟨g0, 0, none⟩ = some (.slice (some ⟨g1, 0, none⟩) 2 k1) := hc1
  have q0 := hfz _ (Below.refl _ _)
  have HP := Lib.hid (hput _ (Below.refl _ _) (0, 1, ⟨#[91]⟩) (.int .i64 1) rfl)
  obtain ⟨X1, hX1⟩ : ∃ X, X = X0.setCell ⟨g1, 4, none⟩ (.int .i64 1) := ⟨_, rfl⟩
  have HX1 := Lib.hid hX1
  rw [← hX1] at HP
  have HA_X1 := Lib.hid (And.intro (show RwAt Wr.heap.size X1 b (lit1 2 (0, 0, ⟨#[40]⟩) (0, 1, ⟨#[91]⟩) (List.replicate 3 (0, ⟨#[41]⟩)) (List.replicate 3 (0, ⟨#[93]⟩)) (0, ⟨#[97]⟩) (0, ⟨#[98]⟩)) b1 b2 b3 from HP.out.1) (hB.trans HP.out.2))
  clear hX1 hput hA hB HP HA_X0
  clear hfz
  go_upto_region 3 with fail
  rw [← HX1.out]
  clear HX1 hc0 hc1 hc2 q0
  go_wp2_with fail
  go_loopw [2] (fun i wr => ∃ j : Nat, j ≤ 2 ∧ i = .int .i64 j ∧ (∃ b1 b2 b3, RwAt Wr.heap.size wr b (fixS j) b1 b2 b3) ∧ Below Wr.heap.size Wr wr) (fun i _ => 2 - (intOf i).toNat)
  case atStart => exact ⟨0, by omega, rfl, ⟨_, _, _, HA_X1.out.1⟩, HA_X1.out.2⟩
  case round =>
    obtain ⟨j, hj, rfl, ⟨d1, d2, d3, hA0⟩, hB0⟩ := hrel
    clear HA_X1
    obtain ⟨Y0, rfl⟩ : ∃ y, y = wr := ⟨_, rfl⟩
    rcases (by omega : j = 0 ∨ j = 1 ∨ j = 2) with rfl | rfl | rfl
    · have HA_Y0 := Lib.hid (And.intro (show RwAt Wr.heap.size Y0 b (lit1 2 (0, 0, ⟨#[40]⟩) (0, 1, ⟨#[91]⟩) (List.replicate 3 (0, ⟨#[41]⟩)) (List.replicate 3 (0, ⟨#[93]⟩)) (0, ⟨#[97]⟩) (0, ⟨#[98]⟩)) d1 d2 d3 from hA0) hB0)
      clear hA0 hB0
      obtain ⟨b1, rfl⟩ : ∃ y, y = d1 := ⟨_, rfl⟩
      obtain ⟨b2, rfl⟩ : ∃ y, y = d2 := ⟨_, rfl⟩
      obtain ⟨b3, rfl⟩ : ∃ y, y = d3 := ⟨_, rfl⟩
      obtain ⟨hA, hB⟩ := HA_Y0.out
      obtain ⟨g0, k0, g1, k1, g2, k2, hc0, hc1, hc1', hc2, hfz, ⟨hb', hg0, hg1, hg2⟩, hput⟩ := hA.at_ret (i := 0) (s := 0) (j := 0) (o := 1) (q := 1) (lists := [(List.replicate 3 (0, ⟨#[41]⟩)), (List.replicate 3 (0, ⟨#[93]⟩))]) (row := (List.replicate 3 (0, ⟨#[41]⟩))) (p := (0, ⟨#[41]⟩)) rfl rfl rfl rfl rfl
      have hc0 : Y0.cell? ⟨b, 3, none⟩ = some (.slice (some ⟨g0, 0, none⟩) 1 k0) := hc0
      have hc1 : Y0.cell? ⟨g0, 0, none⟩ = some (.slice (some ⟨g1, 0, none⟩) 2 k1) := hc1
      have hc1' : Y0.cell? ⟨g1, 0, none⟩ = some (.slice (some ⟨g2, 0, none⟩) 3 k2) := hc1'
      have q0 := hfz _ (Below.refl _ _)
      have HP := Lib.hid (hput _ (Below.refl _ _) (0, ⟨#[41]⟩) (.string ⟨#[41]⟩) rfl)
      obtain ⟨Y1, hX1⟩ : ∃ X, X = Y0.setCell ⟨g2, 1, none⟩ (.string ⟨#[41]⟩) := ⟨_, rfl⟩
      have HX1 := Lib.hid hX1
      rw [← hX1] at HP
      have HA_Y1 := Lib.hid (And.intro (show RwAt Wr.heap.size Y1 b (lit1 2 (0, 0, ⟨#[40]⟩) (0, 1, ⟨#[91]⟩) [(0, ⟨#[41]⟩), (0, ⟨#[41]⟩), (0, ⟨#[41]⟩)] (List.replicate 3 (0, ⟨#[93]⟩)) (0, ⟨#[97]⟩) (0, ⟨#[98]⟩)) b1 b2 b3 from HP.out.1) (hB.trans HP.out.2))
      clear hX1 hput hA hB HP HA_Y0
      clear hfz
      go_upto_region 7 with fail
      rw [← HX1.out]
      clear HX1 hc0 hc1 hc1' hc2 q0
      obtain ⟨hA, hB⟩ := HA_Y1.out
      obtain ⟨g0, k0, g1, k1, g2, k2, hc0, hc1, hc1', hc2, hfz, ⟨hb', hg0, hg1, hg2⟩, hput⟩ := hA.at_ret (i := 0) (s := 0) (j := 1) (o := 3) (q := 1) (lists := [[(0, ⟨#[41]⟩), (0, ⟨#[41]⟩), (0, ⟨#[41]⟩)], (List.replicate 3 (0, ⟨#[93]⟩))]) (row := [(0, ⟨#[41]⟩), (0, ⟨#[41]⟩), (0, ⟨#[41]⟩)]) (p := (0, ⟨#[41]⟩)) rfl rfl rfl rfl rfl
      have hc0 : Y1.cell? ⟨b, 3, none⟩ = some (.slice (some ⟨g0, 0, none⟩) 1 k0) := hc0
      have hc1 : Y1.cell? ⟨g0, 0, none⟩ = some (.slice (some ⟨g1, 0, none⟩) 2 k1) := hc1
      have hc1' : Y1.cell? ⟨g1, 0, none⟩ = some (.slice (some ⟨g2, 0, none⟩) 3 k2) := hc1'
      have q0 := hfz _ (Below.refl _ _)
      have HP := Lib.hid (hput _ (Below.refl _ _) (0, ⟨#[93]⟩) (.string ⟨#[93]⟩) rfl)
      obtain ⟨Y2, hX1⟩ : ∃ X, X = Y1.setCell ⟨g2, 3, none⟩ (.string ⟨#[93]⟩) := ⟨_, rfl⟩
      have HX1 := Lib.hid hX1
      rw [← hX1] at HP
      have HA_Y2 := Lib.hid (And.intro (show RwAt Wr.heap.size Y2 b (lit1 2 (0, 0, ⟨#[40]⟩) (0, 1, ⟨#[91]⟩) [(0, ⟨#[41]⟩), (0, ⟨#[93]⟩), (0, ⟨#[41]⟩)] (List.replicate 3 (0, ⟨#[93]⟩)) (0, ⟨#[97]⟩) (0, ⟨#[98]⟩)) b1 b2 b3 from HP.out.1) (hB.trans HP.out.2))
      clear hX1 hput hA hB HP HA_Y1
      clear hfz
      go_upto_region 5 with fail
      rw [← HX1.out]
      clear HX1 hc0 hc1 hc1' hc2 q0
      go_wp2
      go_roundw
      case rel => exact ⟨1, by omega, by go_num, ⟨_, _, _, HA_Y2.out.1⟩, HA_Y2.out.2⟩
      case measure => simp [intOf]
    · have HA_Y0 := Lib.hid (And.intro (show RwAt Wr.heap.size Y0 b (lit1 2 (0, 0, ⟨#[40]⟩) (0, 1, ⟨#[91]⟩) [(0, ⟨#[41]⟩), (0, ⟨#[93]⟩), (0, ⟨#[41]⟩)] (List.replicate 3 (0, ⟨#[93]⟩)) (0, ⟨#[97]⟩) (0, ⟨#[98]⟩)) d1 d2 d3 from hA0) hB0)
      clear hA0 hB0
      obtain ⟨b1, rfl⟩ : ∃ y, y = d1 := ⟨_, rfl⟩
      obtain ⟨b2, rfl⟩ : ∃ y, y = d2 := ⟨_, rfl⟩
      obtain ⟨b3, rfl⟩ : ∃ y, y = d3 := ⟨_, rfl⟩
      obtain ⟨hA, hB⟩ := HA_Y0.out
      obtain ⟨g0, k0, g1, k1, g2, k2, hc0, hc1, hc1', hc2, hfz, ⟨hb', hg0, hg1, hg2⟩, hput⟩ := hA.at_ret (i := 0) (s := 1) (j := 0) (o := 1) (q := 1) (lists := [[(0, ⟨#[41]⟩), (0, ⟨#[93]⟩), (0, ⟨#[41]⟩)], (List.replicate 3 (0, ⟨#[93]⟩))]) (row := (List.replicate 3 (0, ⟨#[93]⟩))) (p := (0, ⟨#[93]⟩)) rfl rfl rfl rfl rfl
      have hc0 : Y0.cell? ⟨b, 3, none⟩ = some (.slice (some ⟨g0, 0, none⟩) 1 k0) := hc0
      have hc1 : Y0.cell? ⟨g0, 0, none⟩ = some (.slice (some ⟨g1, 0, none⟩) 2 k1) := hc1
      have hc1' : Y0.cell? ⟨g1, 1, none⟩ = some (.slice (some ⟨g2, 0, none⟩) 3 k2) := hc1'
      have q0 := hfz _ (Below.refl _ _)
      have HP := Lib.hid (hput _ (Below.refl _ _) (0, ⟨#[41]⟩) (.string ⟨#[41]⟩) rfl)
      obtain ⟨Y1, hX1⟩ : ∃ X, X = Y0.setCell ⟨g2, 1, none⟩ (.string ⟨#[41]⟩) := ⟨_, rfl⟩
      have HX1 := Lib.hid hX1
      rw [← hX1] at HP
      have HA_Y1 := Lib.hid (And.intro (show RwAt Wr.heap.size Y1 b (lit1 2 (0, 0, ⟨#[40]⟩) (0, 1, ⟨#[91]⟩) [(0, ⟨#[41]⟩), (0, ⟨#[93]⟩), (0, ⟨#[41]⟩)] [(0, ⟨#[41]⟩), (0, ⟨#[93]⟩), (0, ⟨#[93]⟩)] (0, ⟨#[97]⟩) (0, ⟨#[98]⟩)) b1 b2 b3 from HP.out.1) (hB.trans HP.out.2))
      clear hX1 hput hA hB HP HA_Y0
      clear hfz
      go_upto_region 7 with fail
      rw [← HX1.out]
      clear HX1 hc0 hc1 hc1' hc2 q0
      obtain ⟨hA, hB⟩ := HA_Y1.out
      obtain ⟨g0, k0, g1, k1, g2, k2, hc0, hc1, hc1', hc2, hfz, ⟨hb', hg0, hg1, hg2⟩, hput⟩ := hA.at_ret (i := 0) (s := 1) (j := 1) (o := 3) (q := 1) (lists := [[(0, ⟨#[41]⟩), (0, ⟨#[93]⟩), (0, ⟨#[41]⟩)], [(0, ⟨#[41]⟩), (0, ⟨#[93]⟩), (0, ⟨#[93]⟩)]]) (row := [(0, ⟨#[41]⟩), (0, ⟨#[93]⟩), (0, ⟨#[93]⟩)]) (p := (0, ⟨#[93]⟩)) rfl rfl rfl rfl rfl
      have hc0 : Y1.cell? ⟨b, 3, none⟩ = some (.slice (some ⟨g0, 0, none⟩) 1 k0) := hc0
      have hc1 : Y1.cell? ⟨g0, 0, none⟩ = some (.slice (some ⟨g1, 0, none⟩) 2 k1) := hc1
      have hc1' : Y1.cell? ⟨g1, 1, none⟩ = some (.slice (some ⟨g2, 0, none⟩) 3 k2) := hc1'
      have q0 := hfz _ (Below.refl _ _)
      have HP := Lib.hid (hput _ (Below.refl _ _) (0, ⟨#[93]⟩) (.string ⟨#[93]⟩) rfl)
      obtain ⟨Y2, hX1⟩ : ∃ X, X = Y1.setCell ⟨g2, 3, none⟩ (.string ⟨#[93]⟩) := ⟨_, rfl⟩
      have HX1 := Lib.hid hX1
      rw [← hX1] at HP
      have HA_Y2 := Lib.hid (And.intro (show RwAt Wr.heap.size Y2 b (lit1 2 (0, 0, ⟨#[40]⟩) (0, 1, ⟨#[91]⟩) [(0, ⟨#[41]⟩), (0, ⟨#[93]⟩), (0, ⟨#[41]⟩)] [(0, ⟨#[41]⟩), (0, ⟨#[93]⟩), (0, ⟨#[93]⟩)] (0, ⟨#[97]⟩) (0, ⟨#[98]⟩)) b1 b2 b3 from HP.out.1) (hB.trans HP.out.2))
      clear hX1 hput hA hB HP HA_Y1
      clear hfz
      go_upto_region 5 with fail
      rw [← HX1.out]
      clear HX1 hc0 hc1 hc1' hc2 q0
      go_wp2
      go_roundw
      case rel => exact ⟨2, by omega, by go_num, ⟨_, _, _, HA_Y2.out.1⟩, HA_Y2.out.2⟩
      case measure => simp [intOf]
    · have HA_Y0 := Lib.hid (And.intro (show RwAt Wr.heap.size Y0 b fixRw d1 d2 d3 from hA0) hB0)
      clear hA0 hB0
      obtain ⟨hA, hB⟩ := HA_Y0.out
      obtain ⟨A0, n0, k0, A1, n1, k1, A2, n2, k2, xb, hE⟩ := hA.value
      have xr := HR.out.2.2.same (hB.block _ HR.out.2.1)
      obtain ⟨z0, z1, z2, z3, z4, zl⟩ := id xb.all5
      replace z0 : Y0.cell? ⟨b, 0, none⟩ = some (.int .i64 2) := z0
      replace z1 : Y0.cell? ⟨b, 1, none⟩ = some (.int .i64 0) := z1
      obtain ⟨r0, r1, r2, r3, r4, rl⟩ := id xr.all5
      have q0 := xr.frozen 0
      have q1 := xr.frozen 1
      have q2 := xr.frozen 2
      have q3 := xr.frozen 3
      have q4 := xr.frozen 4
      have Hf := Lib.hid (And.intro hB hE)
      clear hA hB hE xb xr HA_Y0
      go_wp2
      obtain ⟨x5, hF, hBf⟩ := rw_home (x0 := .int .i64 2) (x1 := .int .i64 0) (x2 := .slice A0 n0 k0) (x3 := .slice A1 n1 k1) (x4 := .slice A2 n2 k2) (Nat.le_refl _) HR.out.1 HR.out.2.1 HR.out.2.2 Hf.out.1 Hf.out.2
      have f0 := x5.cell 0 _ rfl
      have f1 := x5.cell 1 _ rfl
      have f2 := x5.cell 2 _ rfl
      have f3 := x5.cell 3 _ rfl
      have f4 := x5.cell 4 _ rfl
      unfold set5 at f0 f1 f2 f3 f4 hF hBf
      exact bodyPost_ret (v := .agg #[.int .i64 2, .int .i64 0, .slice A0 n0 k0, .slice A1 n1 k1, .slice A2 n2 k2]) (by simp [results, Try.results22, go_sem, f0, f1, f2, f3, f4]) rfl ⟨_, _, rfl, hF, hBf⟩
def fixSeq (i : Nat) : Rw := if i = 0 then plainRw 1 2 else if i = 1 then lit1 2 (0, 0, ⟨#[40]⟩) (0, 0, ⟨#[91]⟩) [(0, ⟨#[41]⟩), (0, ⟨#[41]⟩), (0, ⟨#[41]⟩)] [(0, ⟨#[41]⟩), (0, ⟨#[93]⟩), (0, ⟨#[93]⟩)] (0, ⟨#[97]⟩) (0, ⟨#[98]⟩) else if i = 2 then lit1 2 (0, 0, ⟨#[40]⟩) (0, 1, ⟨#[91]⟩) [(0, ⟨#[41]⟩), (0, ⟨#[41]⟩), (0, ⟨#[41]⟩)] [(0, ⟨#[41]⟩), (0, ⟨#[93]⟩), (0, ⟨#[93]⟩)] (0, ⟨#[97]⟩) (0, ⟨#[98]⟩) else fixRw
set_option maxHeartbeats 6400000 in
set_option maxRecDepth 100000 in
theorem impl_FixRewriter (w : World) : Calls Try.prog 23 #[] w (NewPost RwE fixRw w) := by
  have hBr := (Below.refl w.heap.size w).alloc (Nat.le_refl _) (.cells #[.int .i64 0, .int .i64 0, .slice none 0 0, .slice none 0 0, .slice none 0 0] 36)
  have hres := Bx.new w 36 #[.int .i64 0, .int .i64 0, .slice none 0 0, .slice none 0 0, .slice none 0 0]
  obtain ⟨Wr, hWr⟩ : ∃ Wr, Wr = w.alloc (.cells #[.int .i64 0, .int .i64 0, .slice none 0 0, .slice none 0 0, .slice none 0 0] 36) := ⟨_, rfl⟩
  rw [← hWr] at hBr hres
  have HR := Lib.hid (And.intro hBr (And.intro hres.lt hres))
  have hml : w.heap.size < Wr.heap.size := hres.lt
  have HWr := Lib.hid hWr
  clear hBr hres hWr
  go_enter Try.func23, Try.ntmps23
  go_wp2_with fail
  rw [← HWr.out]
  obtain ⟨wa, hwa⟩ : ∃ x, x = Wr := ⟨_, rfl⟩
  have HB0 := Lib.hid (show Below Wr.heap.size Wr wa by rw [hwa]; exact Below.refl _ _)
  rw [← hwa]
  clear hwa
  refine (impl_text _ _ (by decide)).mono ?_
  rintro e wt0 ⟨rfl, hwt0⟩
  subst hwt0
  go_wp2_with fail
  refine (mk_writingBack 0 ⟨#[41]⟩ _).mono ?_
  rintro e wm0 ⟨rfl, hb0, hf0⟩
  have HM0 := Lib.hid (And.intro hb0 hf0)
  clear hb0 hf0
  go_wp2_with fail
  refine (mk_putting 1 1 _).mono ?_
  rintro e wm1 ⟨rfl, hb1, hf1⟩
  have HM1 := Lib.hid (And.intro hb1 hf1)
  clear hb1 hf1
  go_wp2_with fail
  refine (impl_text _ _ (by decide)).mono ?_
  rintro e wt2 ⟨rfl, hwt2⟩
  subst hwt2
  go_wp2_with fail
  refine (mk_writingBack 1 ⟨#[93]⟩ _).mono ?_
  rintro e wm2 ⟨rfl, hb2, hf2⟩
  have HM2 := Lib.hid (And.intro hb2 hf2)
  clear hb2 hf2
  go_wp2_with fail
  have hnew := (Below.refl wm2.heap.size wm2).alloc (Nat.le_refl _) (.cells #[.func (.func 100) #[] #[.pointer (some ⟨wa.heap.size + 1, 0, none⟩), .pointer (some ⟨wa.heap.size, 0, none⟩)], .func (.func 101) #[] #[.pointer (some ⟨wm0.heap.size + 1, 0, none⟩), .pointer (some ⟨wm0.heap.size, 0, none⟩)], .func (.func 100) #[] #[.pointer (some ⟨wm1.heap.size + 1, 0, none⟩), .pointer (some ⟨wm1.heap.size, 0, none⟩)]] 81)
  have hbx := Bx.new wm2 81 #[.func (.func 100) #[] #[.pointer (some ⟨wa.heap.size + 1, 0, none⟩), .pointer (some ⟨wa.heap.size, 0, none⟩)], .func (.func 101) #[] #[.pointer (some ⟨wm0.heap.size + 1, 0, none⟩), .pointer (some ⟨wm0.heap.size, 0, none⟩)], .func (.func 100) #[] #[.pointer (some ⟨wm1.heap.size + 1, 0, none⟩), .pointer (some ⟨wm1.heap.size, 0, none⟩)]]
  have hl0 : Below wm0.heap.size wm0 (wm2.alloc (.cells #[.func (.func 100) #[] #[.pointer (some ⟨wa.heap.size + 1, 0, none⟩), .pointer (some ⟨wa.heap.size, 0, none⟩)], .func (.func 101) #[] #[.pointer (some ⟨wm0.heap.size + 1, 0, none⟩), .pointer (some ⟨wm0.heap.size, 0, none⟩)], .func (.func 100) #[] #[.pointer (some ⟨wm1.heap.size + 1, 0, none⟩), .pointer (some ⟨wm1.heap.size, 0, none⟩)]] 81)) := (HM1.out.1.trans ((HM2.out.1.trans (hnew.mono HM2.out.1.size)).mono HM1.out.1.size))
  have hl1 : Below wm1.heap.size wm1 (wm2.alloc (.cells #[.func (.func 100) #[] #[.pointer (some ⟨wa.heap.size + 1, 0, none⟩), .pointer (some ⟨wa.heap.size, 0, none⟩)], .func (.func 101) #[] #[.pointer (some ⟨wm0.heap.size + 1, 0, none⟩), .pointer (some ⟨wm0.heap.size, 0, none⟩)], .func (.func 100) #[] #[.pointer (some ⟨wm1.heap.size + 1, 0, none⟩), .pointer (some ⟨wm1.heap.size, 0, none⟩)]] 81)) := (HM2.out.1.trans (hnew.mono HM2.out.1.size))
  have hl2 : Below wm2.heap.size wm2 (wm2.alloc (.cells #[.func (.func 100) #[] #[.pointer (some ⟨wa.heap.size + 1, 0, none⟩), .pointer (some ⟨wa.heap.size, 0, none⟩)], .func (.func 101) #[] #[.pointer (some ⟨wm0.heap.size + 1, 0, none⟩), .pointer (some ⟨wm0.heap.size, 0, none⟩)], .func (.func 100) #[] #[.pointer (some ⟨wm1.heap.size + 1, 0, none⟩), .pointer (some ⟨wm1.heap.size, 0, none⟩)]] 81)) := hnew
  have hops : OptsC (wm2.alloc (.cells #[.func (.func 100) #[] #[.pointer (some ⟨wa.heap.size + 1, 0, none⟩), .pointer (some ⟨wa.heap.size, 0, none⟩)], .func (.func 101) #[] #[.pointer (some ⟨wm0.heap.size + 1, 0, none⟩), .pointer (some ⟨wm0.heap.size, 0, none⟩)], .func (.func 100) #[] #[.pointer (some ⟨wm1.heap.size + 1, 0, none⟩), .pointer (some ⟨wm1.heap.size, 0, none⟩)]] 81)) 3 (.slice (some ⟨wm2.heap.size, 0, none⟩) 3 3) fixSeq := by
    refine ⟨_, _, rfl, fun i hi => ?_⟩
    rcases (by omega : i = 0 ∨ i = 1 ∨ i = 2) with rfl | rfl | rfl
    · exact ⟨wm2.heap.size, 100, #[.pointer (some ⟨wa.heap.size + 1, 0, none⟩), .pointer (some ⟨wa.heap.size, 0, none⟩)], rfl, hbx.cell 0 _ rfl, cf_writingBack, OptC.later (w := wm0) (opt_writingBack wm0 (wa.heap.size + 1) wa.heap.size 3 0 ⟨#[41]⟩ (plainRw 1 2) (List.replicate 3 (0, ⟨#[41]⟩)) (List.replicate 3 (0, ⟨#[93]⟩)) (0, ⟨#[41]⟩) (0, ⟨#[93]⟩) rfl rfl rfl rfl (by decide) rfl rfl HM0.out.2.1 HM0.out.2.2) hl0⟩
    · exact ⟨wm2.heap.size, 101, #[.pointer (some ⟨wm0.heap.size + 1, 0, none⟩), .pointer (some ⟨wm0.heap.size, 0, none⟩)], rfl, hbx.cell 1 _ rfl, cf_putting, OptC.later (w := wm1) (opt_putting_1 wm1 wm0.heap.size (wm0.heap.size + 1) 1 (lit1 2 (0, 0, ⟨#[40]⟩) (0, 0, ⟨#[91]⟩) [(0, ⟨#[41]⟩), (0, ⟨#[41]⟩), (0, ⟨#[41]⟩)] [(0, ⟨#[41]⟩), (0, ⟨#[93]⟩), (0, ⟨#[93]⟩)] (0, ⟨#[97]⟩) (0, ⟨#[98]⟩)) (0, 0, ⟨#[40]⟩) (0, 0, ⟨#[91]⟩) rfl rfl HM1.out.2.1 HM1.out.2.2) hl1⟩
    · exact ⟨wm2.heap.size, 100, #[.pointer (some ⟨wm1.heap.size + 1, 0, none⟩), .pointer (some ⟨wm1.heap.size, 0, none⟩)], rfl, hbx.cell 2 _ rfl, cf_writingBack, OptC.later (w := wm2) (opt_writingBack wm2 (wm1.heap.size + 1) wm1.heap.size 3 1 ⟨#[93]⟩ (lit1 2 (0, 0, ⟨#[40]⟩) (0, 1, ⟨#[91]⟩) [(0, ⟨#[41]⟩), (0, ⟨#[41]⟩), (0, ⟨#[41]⟩)] [(0, ⟨#[41]⟩), (0, ⟨#[93]⟩), (0, ⟨#[93]⟩)] (0, ⟨#[97]⟩) (0, ⟨#[98]⟩)) [(0, ⟨#[41]⟩), (0, ⟨#[41]⟩), (0, ⟨#[41]⟩)] [(0, ⟨#[41]⟩), (0, ⟨#[93]⟩), (0, ⟨#[93]⟩)] (0, ⟨#[41]⟩) (0, ⟨#[93]⟩) rfl rfl rfl rfl (by decide) rfl rfl HM2.out.2.1 HM2.out.2.2) hl2⟩
  refine (impl_with 1 2 3 fixSeq _ _ (by omega) (by omega) (by omega) rfl hops).mono ?_
  rintro e w1 ⟨v1, bs1, rfl, E1, hb9⟩
  have hb1 : Below Wr.heap.size Wr w1 := by
    have g0 := HB0.out.trans (HM0.out.1.mono HB0.out.size)
    have g1 := g0.trans (hl0.mono g0.size)
    exact g1.trans (hb9.mono g1.size)
  have hsz : Wr.heap.size ≤ (wm2.alloc (.cells #[.func (.func 100) #[] #[.pointer (some ⟨wa.heap.size + 1, 0, none⟩), .pointer (some ⟨wa.heap.size, 0, none⟩)], .func (.func 101) #[] #[.pointer (some ⟨wm0.heap.size + 1, 0, none⟩), .pointer (some ⟨wm0.heap.size, 0, none⟩)], .func (.func 100) #[] #[.pointer (some ⟨wm1.heap.size + 1, 0, none⟩), .pointer (some ⟨wm1.heap.size, 0, none⟩)]] 81)).heap.size := by
    have g0 := HB0.out.size
    have g1 := HM0.out.1.size
    have g2 := hl0.size
    omega
  replace E1 := rw_base hsz E1
  clear hnew hbx hops hb9 hsz hl0 hl1 hl2
  obtain ⟨A0, n0, k0, A1, n1, k1, A2, n2, k2, rfl⟩ := E1.form
  have xr := HR.out.2.2.same (hb1.block _ HR.out.2.1)
  obtain ⟨r0, r1, r2, r3, r4, rl⟩ := id xr.all5
  have q0 := xr.frozen 0
  have q1 := xr.frozen 1
  have q2 := xr.frozen 2
  have q3 := xr.frozen 3
  have q4 := xr.frozen 4
  have Hf := Lib.hid (And.intro hb1 E1)
  obtain ⟨s0, hs0⟩ : ∃ x, x = (fixSeq 3).stack := ⟨_, rfl⟩
  obtain ⟨s1, hs1⟩ : ∃ x, x = (fixSeq 3).start := ⟨_, rfl⟩
  rw [← hs0, ← hs1]
  have Hs := Lib.hid (And.intro hs0 hs1)
  clear E1 hb1 xr hs0 hs1
  go_wp2
  obtain ⟨e0, e1⟩ := Hs.out
  have hE := Hf.out.2
  rw [← e0, ← e1] at hE
  obtain ⟨x5, hF, hBf⟩ := rw_home (x0 := .int .i64 s0) (x1 := .int .i64 s1) (x2 := .slice A0 n0 k0) (x3 := .slice A1 n1 k1) (x4 := .slice A2 n2 k2) (Nat.le_refl _) HR.out.1 HR.out.2.1 HR.out.2.2 Hf.out.1 hE
  have f0 := x5.cell 0 _ rfl
  have f1 := x5.cell 1 _ rfl
  have f2 := x5.cell 2 _ rfl
  have f3 := x5.cell 3 _ rfl
  have f4 := x5.cell 4 _ rfl
  unfold set5 at f0 f1 f2 f3 f4 hF hBf
  exact bodyPost_ret (v := .agg #[.int .i64 s0, .int .i64 s1, .slice A0 n0 k0, .slice A1 n1 k1, .slice A2 n2 k2]) (by simp [results, Try.results23, go_sem, f0, f1, f2, f3, f4]) rfl ⟨_, _, rfl, hF, hBf⟩
end Go.Proofs.Ytmkamodmnplclaa
