/- UnwrapRewriter of the model and of the program. -/
import Derived.Test.YtmkamodmnplclaaKnA
import Derived.BigRegion
import Derived.Deep.DeepCutAuto
namespace Go.Proofs.Ytmkamodmnplclaa
open Go.RowKit
set_option linter.unusedVariables false

set_option maxHeartbeats 6400000 in
set_option maxRecDepth 100000 in
theorem spec_Unwrap_0 (w : World) : Calls Try.prog 28 #[.string ⟨#[40]⟩] w (PostR RwE (lit1 2 (0, 1, ⟨#[]⟩) (0, 0, ⟨#[91]⟩) [(0, ⟨#[41]⟩), (0, ⟨#[]⟩), (0, ⟨#[41]⟩)] [(0, ⟨#[93]⟩), (0, ⟨#[]⟩), (0, ⟨#[93]⟩)] (0, ⟨#[97]⟩) (0, ⟨#[98]⟩)) 0 w) := by
  have H : Hid (∀ W, Calls Try.prog 44 #[.int .i64 1, .int .i64 2] W (NewPost RwE (plainRw 1 2) W)) := fun W => spec_plainRw 1 2 W (by omega) (by omega)
  obtain ⟨c9, hc9⟩ : ∃ c, c = plainRw 1 2 := ⟨_, rfl⟩
  rw [← hc9] at H
  have Hc9 := Lib.hid hc9
  clear hc9
  have hBr := (Below.refl w.heap.size w).alloc (Nat.le_refl _) (.cells #[.int .i64 0, .int .i64 0, .slice none 0 0, .slice none 0 0, .slice none 0 0] 36)
  have hres := Bx.new w 36 #[.int .i64 0, .int .i64 0, .slice none 0 0, .slice none 0 0, .slice none 0 0]
  obtain ⟨Wr, hWr⟩ : ∃ Wr, Wr = w.alloc (.cells #[.int .i64 0, .int .i64 0, .slice none 0 0, .slice none 0 0, .slice none 0 0] 36) := ⟨_, rfl⟩
  rw [← hWr] at hBr hres
  have HR := Lib.hid (And.intro hBr (And.intro hres.lt hres))
  have hml : w.heap.size < Wr.heap.size := hres.lt
  have HWr := Lib.hid hWr
  clear hBr hres hWr
  go_enter Try.func28, Try.ntmps28
  go_wp2_with fail
  rw [← HWr.out]
  refine (H.out _).mono ?_
  rintro e w1 ⟨v1, bs1, rfl, E1, hb1⟩
  obtain ⟨A0, n0, k0, A1, n1, k1, A2, n2, k2, rfl⟩ := E1.form
  obtain ⟨b1, b2, b3, hA⟩ := RwAt.of_value E1 hb1.size
  have hBX := (hb1.alloc hb1.size (.cells #[.int .i64 c9.stack, .int .i64 c9.start, .slice A0 n0 k0, .slice A1 n1 k1, .slice A2 n2 k2] 36))
  obtain ⟨b, hb⟩ : ∃ b, b = w1.heap.size := ⟨_, rfl⟩
  obtain ⟨X0, hX0⟩ : ∃ X, X = w1.alloc (.cells #[.int .i64 c9.stack, .int .i64 c9.start, .slice A0 n0 k0, .slice A1 n1 k1, .slice A2 n2 k2] 36) := ⟨_, rfl⟩
  rw [← hX0, ← hb] at hA
  rw [← hX0] at hBX
  rw [Hc9.out] at hA
  have HX0 := Lib.hid (And.intro hX0 hb)
  have HA_X0 := Lib.hid (And.intro (show RwAt Wr.heap.size X0 b (lit1 2 (0, 0, ⟨#[40]⟩) (0, 0, ⟨#[91]⟩) (List.replicate 3 (0, ⟨#[41]⟩)) (List.replicate 3 (0, ⟨#[93]⟩)) (0, ⟨#[97]⟩) (0, ⟨#[98]⟩)) b1 b2 b3 from hA) hBX)
  clear hA hBX hX0 hb E1 hb1
  go_upto_region 7 with fail
  rw [← HX0.out.2]
  rw [← HX0.out.1]
  clear HX0
  obtain ⟨hA, hB⟩ := HA_X0.out
  obtain ⟨g0, k0, g1, k1, cs, hc0, hc1, hE, ⟨hb', hg0, hg1⟩, hput⟩ := hA.row_call (i := 0) (row := [(0, 0, ⟨#[40]⟩), (0, 0, ⟨#[91]⟩)]) rfl rfl
  have hc0 : X0.cell? ⟨b, 2, none⟩ = some (.slice (some ⟨g0, 0, none⟩) 1 k0) := hc0
  have hc1 : X0.cell? ⟨g0, 0, none⟩ = some (.slice (some ⟨g1, 0, none⟩) 2 k1) := hc1
  have p1' := RowE.putc (size := 3) (enc := opV) (fun _ => rfl) hE (j := 0) (x := (0, 0, ⟨#[40]⟩)) (0, ((0, 0, ⟨#[40]⟩)).2) 0 (.int .i64 0) rfl (by decide) rfl
  have p2' := RowE.putc (size := 3) (enc := opV) (fun _ => rfl) p1'.1 (j := 0) (x := (0, ((0, 0, ⟨#[40]⟩)).2)) (0, 1, ((0, 0, ⟨#[40]⟩)).2.2) 1 (.int .i64 1) rfl (by decide) rfl
  have p3' := RowE.putc (size := 3) (enc := opV) (fun _ => rfl) p2'.1 (j := 0) (x := (0, 1, ((0, 0, ⟨#[40]⟩)).2.2)) (0, 1, ⟨#[]⟩) 2 (.string ⟨#[]⟩) rfl (by decide) rfl
  have hc2 : X0.cell? ⟨g1, 0, none⟩ = _ := (OpE.cell' hE (j := 0) (x := (0, 0, ⟨#[40]⟩)) rfl).1
  have hc3 : (X0.setCell ⟨g1, 0, none⟩ (.int .i64 0)).cell? ⟨g1, 1, none⟩ = _ := (OpE.cell' p1'.1 (j := 0) (x := (0, ((0, 0, ⟨#[40]⟩)).2)) rfl).2.1
  have hc4 : ((X0.setCell ⟨g1, 0, none⟩ (.int .i64 0)).setCell ⟨g1, 1, none⟩ (.int .i64 1)).cell? ⟨g1, 2, none⟩ = _ := (OpE.cell' p2'.1 (j := 0) (x := (0, 1, ((0, 0, ⟨#[40]⟩)).2.2)) rfl).2.2
  have q0 : X0.frozen? ⟨g1, 0, none⟩ = false := RowE.frozen hE _
  have q1 : (X0.setCell ⟨g1, 0, none⟩ (.int .i64 0)).frozen? ⟨g1, 1, none⟩ = false := RowE.frozen p1'.1 _
  have q2 : ((X0.setCell ⟨g1, 0, none⟩ (.int .i64 0)).setCell ⟨g1, 1, none⟩ (.int .i64 1)).frozen? ⟨g1, 2, none⟩ = false := RowE.frozen p2'.1 _
  have HP := Lib.hid (hput _ _ ((p1'.2.trans p2'.2).trans p3'.2) p3'.1)
  clear p1' p2' p3' hE
  obtain ⟨X1, hX1⟩ : ∃ X, X = ((X0.setCell ⟨g1, 0, none⟩ (.int .i64 0)).setCell ⟨g1, 1, none⟩ (.int .i64 1)).setCell ⟨g1, 2, none⟩ (.string ⟨#[]⟩) := ⟨_, rfl⟩
  have HX1 := Lib.hid hX1
  rw [← hX1] at HP
  have HA_X1 := Lib.hid (And.intro (show RwAt Wr.heap.size X1 b (lit1 2 (0, 1, ⟨#[]⟩) (0, 0, ⟨#[91]⟩) (List.replicate 3 (0, ⟨#[41]⟩)) (List.replicate 3 (0, ⟨#[93]⟩)) (0, ⟨#[97]⟩) (0, ⟨#[98]⟩)) b1 b2 b3 from HP.out.1) (hB.trans HP.out.2))
  clear hX1 hput hA hB HP HA_X0
  go_upto_region 8 with fail
  rw [← HX1.out]
  clear HX1 hc0 hc1 hc2 hc3 hc4 q0 q1 q2
  obtain ⟨hA, hB⟩ := HA_X1.out
  obtain ⟨g0, k0, g1, k1, g2, k2, hc0, hc1, hc1', hc2, hfz, ⟨hb', hg0, hg1, hg2⟩, hput⟩ := hA.at_ret (i := 0) (s := 0) (j := 1) (o := 3) (q := 1) (lists := [(List.replicate 3 (0, ⟨#[41]⟩)), (List.replicate 3 (0, ⟨#[93]⟩))]) (row := (List.replicate 3 (0, ⟨#[41]⟩))) (p := (0, ⟨#[41]⟩)) rfl rfl rfl rfl rfl
  have hc0 : X1.cell? ⟨b, 3, none⟩ = some (.slice (some ⟨g0, 0, none⟩) 1 k0) := hc0
  have hc1 : X1.cell? ⟨g0, 0, none⟩ = some (.slice (some ⟨g1, 0, none⟩) 2 k1) := hc1
  have hc1' : X1.cell? ⟨g1, 0, none⟩ = some (.slice (some ⟨g2, 0, none⟩) 3 k2) := hc1'
  have q0 := hfz _ (Below.refl _ _)
  have HP := Lib.hid (hput _ (Below.refl _ _) (0, ⟨#[]⟩) (.string ⟨#[]⟩) rfl)
  obtain ⟨X2, hX1⟩ : ∃ X, X = X1.setCell ⟨g2, 3, none⟩ (.string ⟨#[]⟩) := ⟨_, rfl⟩
  have HX1 := Lib.hid hX1
  rw [← hX1] at HP
  have HA_X2 := Lib.hid (And.intro (show RwAt Wr.heap.size X2 b (lit1 2 (0, 1, ⟨#[]⟩) (0, 0, ⟨#[91]⟩) [(0, ⟨#[41]⟩), (0, ⟨#[]⟩), (0, ⟨#[41]⟩)] (List.replicate 3 (0, ⟨#[93]⟩)) (0, ⟨#[97]⟩) (0, ⟨#[98]⟩)) b1 b2 b3 from HP.out.1) (hB.trans HP.out.2))
  clear hX1 hput hA hB HP HA_X1
  clear hfz
  go_upto_region 9 with fail
  rw [← HX1.out]
  clear HX1 hc0 hc1 hc1' hc2 q0
  obtain ⟨hA, hB⟩ := HA_X2.out
  obtain ⟨g0, k0, g1, k1, g2, k2, hc0, hc1, hc1', hc2, hfz, ⟨hb', hg0, hg1, hg2⟩, hput⟩ := hA.at_ret (i := 0) (s := 1) (j := 1) (o := 3) (q := 1) (lists := [[(0, ⟨#[41]⟩), (0, ⟨#[]⟩), (0, ⟨#[41]⟩)], (List.replicate 3 (0, ⟨#[93]⟩))]) (row := (List.replicate 3 (0, ⟨#[93]⟩))) (p := (0, ⟨#[93]⟩)) rfl rfl rfl rfl rfl
  have hc0 : X2.cell? ⟨b, 3, none⟩ = some (.slice (some ⟨g0, 0, none⟩) 1 k0) := hc0
  have hc1 : X2.cell? ⟨g0, 0, none⟩ = some (.slice (some ⟨g1, 0, none⟩) 2 k1) := hc1
  have hc1' : X2.cell? ⟨g1, 1, none⟩ = some (.slice (some ⟨g2, 0, none⟩) 3 k2) := hc1'
  have q0 := hfz _ (Below.refl _ _)
  have HP := Lib.hid (hput _ (Below.refl _ _) (0, ⟨#[]⟩) (.string ⟨#[]⟩) rfl)
  obtain ⟨X3, hX1⟩ : ∃ X, X = X2.setCell ⟨g2, 3, none⟩ (.string ⟨#[]⟩) := ⟨_, rfl⟩
  have HX1 := Lib.hid hX1
  rw [← hX1] at HP
  have HA_X3 := Lib.hid (And.intro (show RwAt Wr.heap.size X3 b (lit1 2 (0, 1, ⟨#[]⟩) (0, 0, ⟨#[91]⟩) [(0, ⟨#[41]⟩), (0, ⟨#[]⟩), (0, ⟨#[41]⟩)] [(0, ⟨#[93]⟩), (0, ⟨#[]⟩), (0, ⟨#[93]⟩)] (0, ⟨#[97]⟩) (0, ⟨#[98]⟩)) b1 b2 b3 from HP.out.1) (hB.trans HP.out.2))
  clear hX1 hput hA hB HP HA_X2
  clear hfz
  go_upto_region 10 with fail
  rw [← HX1.out]
  clear HX1 hc0 hc1 hc1' hc2 q0
  obtain ⟨hA, hB⟩ := HA_X3.out
  obtain ⟨A0, n0, k0, A1, n1, k1, A2, n2, k2, xb, hE⟩ := hA.value
  have xr := HR.out.2.2.same (hB.block _ HR.out.2.1)
  obtain ⟨z0, z1, z2, z3, z4, zl⟩ := id xb.all5
  replace z0 : X3.cell? ⟨b, 0, none⟩ = some (.int .i64 2) := z0
  replace z1 : X3.cell? ⟨b, 1, none⟩ = some (.int .i64 0) := z1
  obtain ⟨r0, r1, r2, r3, r4, rl⟩ := id xr.all5
  have q0 := xr.frozen 0
  have q1 := xr.frozen 1
  have q2 := xr.frozen 2
  have q3 := xr.frozen 3
  have q4 := xr.frozen 4
  have Hf := Lib.hid (And.intro hB hE)
  clear hA hB hE xb xr HA_X3
  go_wp2
  obtain ⟨x5, hF, hBf⟩ := rw_home (x0 := .int .i64 2) (x1 := .int .i64 0) (x2 := .slice A0 n0 k0) (x3 := .slice A1 n1 k1) (x4 := .slice A2 n2 k2) (Nat.le_refl _) HR.out.1 HR.out.2.1 HR.out.2.2 Hf.out.1 Hf.out.2
  have f0 := x5.cell 0 _ rfl
  have f1 := x5.cell 1 _ rfl
  have f2 := x5.cell 2 _ rfl
  have f3 := x5.cell 3 _ rfl
  have f4 := x5.cell 4 _ rfl
  unfold set5 at f0 f1 f2 f3 f4 hF hBf
  exact bodyPost_ret (v := .tuple #[.agg #[.int .i64 2, .int .i64 0, .slice A0 n0 k0, .slice A1 n1 k1, .slice A2 n2 k2], .int .i64 0]) (by simp [results, Try.results28, go_sem, f0, f1, f2, f3, f4]) rfl ⟨_, _, rfl, rw_base (Nat.zero_le _) hF, hBf⟩
set_option maxHeartbeats 6400000 in
set_option maxRecDepth 100000 in
theorem spec_Unwrap_1 (w : World) : Calls Try.prog 28 #[.string ⟨#[91]⟩] w (PostR RwE (lit1 2 (0, 0, ⟨#[40]⟩) (0, 1, ⟨#[]⟩) [(0, ⟨#[41]⟩), (0, ⟨#[]⟩), (0, ⟨#[41]⟩)] [(0, ⟨#[93]⟩), (0, ⟨#[]⟩), (0, ⟨#[93]⟩)] (0, ⟨#[97]⟩) (0, ⟨#[98]⟩)) 0 w) := by
  have H : Hid (∀ W, Calls Try.prog 44 #[.int .i64 1, .int .i64 2] W (NewPost RwE (plainRw 1 2) W)) := fun W => spec_plainRw 1 2 W (by omega) (by omega)
  obtain ⟨c9, hc9⟩ : ∃ c, c = plainRw 1 2 := ⟨_, rfl⟩
  rw [← hc9] at H
  have Hc9 := Lib.hid hc9
  clear hc9
  have hBr := (Below.refl w.heap.size w).alloc (Nat.le_refl _) (.cells #[.int .i64 0, .int .i64 0, .slice none 0 0, .slice none 0 0, .slice none 0 0] 36)
  have hres := Bx.new w 36 #[.int .i64 0, .int .i64 0, .slice none 0 0, .slice none 0 0, .slice none 0 0]
  obtain ⟨Wr, hWr⟩ : ∃ Wr, Wr = w.alloc (.cells #[.int .i64 0, .int .i64 0, .slice none 0 0, .slice none 0 0, .slice none 0 0] 36) := ⟨_, rfl⟩
  rw [← hWr] at hBr hres
  have HR := Lib.hid (And.intro hBr (And.intro hres.lt hres))
  have hml : w.heap.size < Wr.heap.size := hres.lt
  have HWr := Lib.hid hWr
  clear hBr hres hWr
  go_enter Try.func28, Try.ntmps28
  go_wp2_with fail
  rw [← HWr.out]
  refine (H.out _).mono ?_
  rintro e w1 ⟨v1, bs1, rfl, E1, hb1⟩
  obtain ⟨A0, n0, k0, A1, n1, k1, A2, n2, k2, rfl⟩ := E1.form
  obtain ⟨b1, b2, b3, hA⟩ := RwAt.of_value E1 hb1.size
  have hBX := (hb1.alloc hb1.size (.cells #[.int .i64 c9.stack, .int .i64 c9.start, .slice A0 n0 k0, .slice A1 n1 k1, .slice A2 n2 k2] 36))
  obtain ⟨b, hb⟩ : ∃ b, b = w1.heap.size := ⟨_, rfl⟩
  obtain ⟨X0, hX0⟩ : ∃ X, X = w1.alloc (.cells #[.int .i64 c9.stack, .int .i64 c9.start, .slice A0 n0 k0, .slice A1 n1 k1, .slice A2 n2 k2] 36) := ⟨_, rfl⟩
  rw [← hX0, ← hb] at hA
  rw [← hX0] at hBX
  rw [Hc9.out] at hA
  have HX0 := Lib.hid (And.intro hX0 hb)
  have HA_X0 := Lib.hid (And.intro (show RwAt Wr.heap.size X0 b (lit1 2 (0, 0, ⟨#[40]⟩) (0, 0, ⟨#[91]⟩) (List.replicate 3 (0, ⟨#[41]⟩)) (List.replicate 3 (0, ⟨#[93]⟩)) (0, ⟨#[97]⟩) (0, ⟨#[98]⟩)) b1 b2 b3 from hA) hBX)
  clear hA hBX hX0 hb E1 hb1
  go_upto_region 7 with fail
  rw [← HX0.out.2]
  rw [← HX0.out.1]
  clear HX0
  obtain ⟨hA, hB⟩ := HA_X0.out
  obtain ⟨g0, k0, g1, k1, cs, hc0, hc1, hE, ⟨hb', hg0, hg1⟩, hput⟩ := hA.row_call (i := 0) (row := [(0, 0, ⟨#[40]⟩), (0, 0, ⟨#[91]⟩)]) rfl rfl
  have hc0 : X0.cell? ⟨b, 2, none⟩ = some (.slice (some ⟨g0, 0, none⟩) 1 k0) := hc0
  have hc1 : X0.cell? ⟨g0, 0, none⟩ = some (.slice (some ⟨g1, 0, none⟩) 2 k1) := hc1
  have p1' := RowE.putc (size := 3) (enc := opV) (fun _ => rfl) hE (j := 1) (x := (0, 0, ⟨#[91]⟩)) (0, ((0, 0, ⟨#[91]⟩)).2) 0 (.int .i64 0) rfl (by decide) rfl
  have p2' := RowE.putc (size := 3) (enc := opV) (fun _ => rfl) p1'.1 (j := 1) (x := (0, ((0, 0, ⟨#[91]⟩)).2)) (0, 1, ((0, 0, ⟨#[91]⟩)).2.2) 1 (.int .i64 1) rfl (by decide) rfl
  have p3' := RowE.putc (size := 3) (enc := opV) (fun _ => rfl) p2'.1 (j := 1) (x := (0, 1, ((0, 0, ⟨#[91]⟩)).2.2)) (0, 1, ⟨#[]⟩) 2 (.string ⟨#[]⟩) rfl (by decide) rfl
  have hc2 : X0.cell? ⟨g1, 3, none⟩ = _ := (OpE.cell' hE (j := 1) (x := (0, 0, ⟨#[91]⟩)) rfl).1
  have hc3 : (X0.setCell ⟨g1, 3, none⟩ (.int .i64 0)).cell? ⟨g1, 4, none⟩ = _ := (OpE.cell' p1'.1 (j := 1) (x := (0, ((0, 0, ⟨#[91]⟩)).2)) rfl).2.1
  have hc4 : ((X0.setCell ⟨g1, 3, none⟩ (.int .i64 0)).setCell ⟨g1, 4, none⟩ (.int .i64 1)).cell? ⟨g1, 5, none⟩ = _ := (OpE.cell' p2'.1 (j := 1) (x := (0, 1, ((0, 0, ⟨#[91]⟩)).2.2)) rfl).2.2
  have q0 : X0.frozen? ⟨g1, 3, none⟩ = false := RowE.frozen hE _
  have q1 : (X0.setCell ⟨g1, 3, none⟩ (.int .i64 0)).frozen? ⟨g1, 4, none⟩ = false := RowE.frozen p1'.1 _
  have q2 : ((X0.setCell ⟨g1, 3, none⟩ (.int .i64 0)).setCell ⟨g1, 4, none⟩ (.int .i64 1)).frozen? ⟨g1, 5, none⟩ = false := RowE.frozen p2'.1 _
  have HP := Lib.hid (hput _ _ ((p1'.2.trans p2'.2).trans p3'.2) p3'.1)
  clear p1' p2' p3' hE
  obtain ⟨X1, hX1⟩ : ∃ X, X = ((X0.setCell ⟨g1, 3, none⟩ (.int .i64 0)).setCell ⟨g1, 4, none⟩ (.int .i64 1)).setCell ⟨g1, 5, none⟩ (.string ⟨#[]⟩) := ⟨_, rfl⟩
  have HX1 := Lib.hid hX1
  rw [← hX1] at HP
  have HA_X1 := Lib.hid (And.intro (show RwAt Wr.heap.size X1 b (lit1 2 (0, 0, ⟨#[40]⟩) (0, 1, ⟨#[]⟩) (List.replicate 3 (0, ⟨#[41]⟩)) (List.replicate 3 (0, ⟨#[93]⟩)) (0, ⟨#[97]⟩) (0, ⟨#[98]⟩)) b1 b2 b3 from HP.out.1) (hB.trans HP.out.2))
  clear hX1 hput hA hB HP HA_X0
  go_upto_region 8 with fail
  rw [← HX1.out]
  clear HX1 hc0 hc1 hc2 hc3 hc4 q0 q1 q2
  obtain ⟨hA, hB⟩ := HA_X1.out
  obtain ⟨g0, k0, g1, k1, g2, k2, hc0, hc1, hc1', hc2, hfz, ⟨hb', hg0, hg1, hg2⟩, hput⟩ := hA.at_ret (i := 0) (s := 0) (j := 1) (o := 3) (q := 1) (lists := [(List.replicate 3 (0, ⟨#[41]⟩)), (List.replicate 3 (0, ⟨#[93]⟩))]) (row := (List.replicate 3 (0, ⟨#[41]⟩))) (p := (0, ⟨#[41]⟩)) rfl rfl rfl rfl rfl
  have hc0 : X1.cell? ⟨b, 3, none⟩ = some (.slice (some ⟨g0, 0, none⟩) 1 k0) := hc0
  have hc1 : X1.cell? ⟨g0, 0, none⟩ = some (.slice (some ⟨g1, 0, none⟩) 2 k1) := hc1
  have hc1' : X1.cell? ⟨g1, 0, none⟩ = some (.slice (some ⟨g2, 0, none⟩) 3 k2) := hc1'
  have q0 := hfz _ (Below.refl _ _)
  have HP := Lib.hid (hput _ (Below.refl _ _) (0, ⟨#[]⟩) (.string ⟨#[]⟩) rfl)
  obtain ⟨X2, hX1⟩ : ∃ X, X = X1.setCell ⟨g2, 3, none⟩ (.string ⟨#[]⟩) := ⟨_, rfl⟩
  have HX1 := Lib.hid hX1
  rw [← hX1] at HP
  have HA_X2 := Lib.hid (And.intro (show RwAt Wr.heap.size X2 b (lit1 2 (0, 0, ⟨#[40]⟩) (0, 1, ⟨#[]⟩) [(0, ⟨#[41]⟩), (0, ⟨#[]⟩), (0, ⟨#[41]⟩)] (List.replicate 3 (0, ⟨#[93]⟩)) (0, ⟨#[97]⟩) (0, ⟨#[98]⟩)) b1 b2 b3 from HP.out.1) (hB.trans HP.out.2))
  clear hX1 hput hA hB HP HA_X1
  clear hfz
  go_upto_region 9 with fail
  rw [← HX1.out]
  clear HX1 hc0 hc1 hc1' hc2 q0
  obtain ⟨hA, hB⟩ := HA_X2.out
  obtain ⟨g0, k0, g1, k1, g2, k2, hc0, hc1, hc1', hc2, hfz, ⟨hb', hg0, hg1, hg2⟩, hput⟩ := hA.at_ret (i := 0) (s := 1) (j := 1) (o := 3) (q := 1) (lists := [[(0, ⟨#[41]⟩), (0, ⟨#[]⟩), (0, ⟨#[41]⟩)], (List.replicate 3 (0, ⟨#[93]⟩))]) (row := (List.replicate 3 (0, ⟨#[93]⟩))) (p := (0, ⟨#[93]⟩)) rfl rfl rfl rfl rfl
  have hc0 : X2.cell? ⟨b, 3, none⟩ = some (.slice (some ⟨g0, 0, none⟩) 1 k0) := hc0
  have hc1 : X2.cell? ⟨g0, 0, none⟩ = some (.slice (some ⟨g1, 0, none⟩) 2 k1) := hc1
  have hc1' : X2.cell? ⟨g1, 1, none⟩ = some (.slice (some ⟨g2, 0, none⟩) 3 k2) := hc1'
  have q0 := hfz _ (Below.refl _ _)
  have HP := Lib.hid (hput _ (Below.refl _ _) (0, ⟨#[]⟩) (.string ⟨#[]⟩) rfl)
  obtain ⟨X3, hX1⟩ : ∃ X, X = X2.setCell ⟨g2, 3, none⟩ (.string ⟨#[]⟩) := ⟨_, rfl⟩
  have HX1 := Lib.hid hX1
  rw [← hX1] at HP
  have HA_X3 := Lib.hid (And.intro (show RwAt Wr.heap.size X3 b (lit1 2 (0, 0, ⟨#[40]⟩) (0, 1, ⟨#[]⟩) [(0, ⟨#[41]⟩), (0, ⟨#[]⟩), (0, ⟨#[41]⟩)] [(0, ⟨#[93]⟩), (0, ⟨#[]⟩), (0, ⟨#[93]⟩)] (0, ⟨#[97]⟩) (0, ⟨#[98]⟩)) b1 b2 b3 from HP.out.1) (hB.trans HP.out.2))
  clear hX1 hput hA hB HP HA_X2
  clear hfz
  go_upto_region 10 with fail
  rw [← HX1.out]
  clear HX1 hc0 hc1 hc1' hc2 q0
  obtain ⟨hA, hB⟩ := HA_X3.out
  obtain ⟨A0, n0, k0, A1, n1, k1, A2, n2, k2, xb, hE⟩ := hA.value
  have xr := HR.out.2.2.same (hB.block _ HR.out.2.1)
  obtain ⟨z0, z1, z2, z3, z4, zl⟩ := id xb.all5
  replace z0 : X3.cell? ⟨b, 0, none⟩ = some (.int .i64 2) := z0
  replace z1 : X3.cell? ⟨b, 1, none⟩ = some (.int .i64 0) := z1
  obtain ⟨r0, r1, r2, r3, r4, rl⟩ := id xr.all5
  have q0 := xr.frozen 0
  have q1 := xr.frozen 1
  have q2 := xr.frozen 2
  have q3 := xr.frozen 3
  have q4 := xr.frozen 4
  have Hf := Lib.hid (And.intro hB hE)
  clear hA hB hE xb xr HA_X3
  go_wp2
  obtain ⟨x5, hF, hBf⟩ := rw_home (x0 := .int .i64 2) (x1 := .int .i64 0) (x2 := .slice A0 n0 k0) (x3 := .slice A1 n1 k1) (x4 := .slice A2 n2 k2) (Nat.le_refl _) HR.out.1 HR.out.2.1 HR.out.2.2 Hf.out.1 Hf.out.2
  have f0 := x5.cell 0 _ rfl
  have f1 := x5.cell 1 _ rfl
  have f2 := x5.cell 2 _ rfl
  have f3 := x5.cell 3 _ rfl
  have f4 := x5.cell 4 _ rfl
  unfold set5 at f0 f1 f2 f3 f4 hF hBf
  exact bodyPost_ret (v := .tuple #[.agg #[.int .i64 2, .int .i64 0, .slice A0 n0 k0, .slice A1 n1 k1, .slice A2 n2 k2], .int .i64 0]) (by simp [results, Try.results28, go_sem, f0, f1, f2, f3, f4]) rfl ⟨_, _, rfl, rw_base (Nat.zero_le _) hF, hBf⟩
set_option maxHeartbeats 6400000 in
set_option maxRecDepth 100000 in
theorem spec_Unwrap_no (t : ByteArray) (w : World) (h0 : ¬ t = ⟨#[40]⟩) (h1 : ¬ t = ⟨#[91]⟩) : Calls Try.prog 28 #[.string t] w (PostR RwE ⟨0, 0, [], [], []⟩ 2 w) := by
  have e0 := text_ne 40 h0
  have e1 := text_ne 91 h1
  clear h0 h1
  have hBr := (Below.refl w.heap.size w).alloc (Nat.le_refl _) (.cells #[.int .i64 0, .int .i64 0, .slice none 0 0, .slice none 0 0, .slice none 0 0] 36)
  have hres := Bx.new w 36 #[.int .i64 0, .int .i64 0, .slice none 0 0, .slice none 0 0, .slice none 0 0]
  obtain ⟨Wr, hWr⟩ : ∃ Wr, Wr = w.alloc (.cells #[.int .i64 0, .int .i64 0, .slice none 0 0, .slice none 0 0, .slice none 0 0] 36) := ⟨_, rfl⟩
  rw [← hWr] at hBr hres
  have HR := Lib.hid (And.intro hBr (And.intro hres.lt hres))
  have hml : w.heap.size < Wr.heap.size := hres.lt
  have HWr := Lib.hid hWr
  clear hBr hres hWr
  go_enter Try.func28, Try.ntmps28
  go_upto_region 5 with fail
  rw [← HWr.out]
  obtain ⟨w1, hw1⟩ : ∃ x, x = Wr := ⟨_, rfl⟩
  have hbw : Below Wr.heap.size Wr w1 := by rw [hw1]; exact Below.refl _ _
  rw [← hw1]
  clear hw1
  have xr := HR.out.2.2.same (hbw.block _ HR.out.2.1)
  obtain ⟨r0, r1, r2, r3, r4, rl⟩ := id xr.all5
  have q0 := xr.frozen 0
  have q1 := xr.frozen 1
  have q2 := xr.frozen 2
  have q3 := xr.frozen 3
  have q4 := xr.frozen 4
  have Hf := Lib.hid hbw
  clear xr hbw
  go_wp2
  obtain ⟨x5, hF, hBf⟩ := rw_home (x0 := .int .i64 0) (x1 := .int .i64 0) (x2 := .slice none 0 0) (x3 := .slice none 0 0) (x4 := .slice none 0 0) (Nat.le_refl _) HR.out.1 HR.out.2.1 HR.out.2.2 Hf.out (nil_rw _ _)
  have f0 := x5.cell 0 _ rfl
  have f1 := x5.cell 1 _ rfl
  have f2 := x5.cell 2 _ rfl
  have f3 := x5.cell 3 _ rfl
  have f4 := x5.cell 4 _ rfl
  unfold set5 at f0 f1 f2 f3 f4 hF hBf
  exact bodyPost_ret (v := .tuple #[.agg #[.int .i64 0, .int .i64 0, .slice none 0 0, .slice none 0 0, .slice none 0 0], .int .i64 2]) (by simp [results, Try.results28, go_sem, f0, f1, f2, f3, f4]) rfl ⟨_, _, rfl, rw_base (Nat.zero_le _) hF, hBf⟩
def unwSeq0 (i : Nat) : Rw := if i = 0 then plainRw 1 2 else if i = 1 then lit1 2 (0, 0, ⟨#[]⟩) (0, 0, ⟨#[91]⟩) (List.replicate 3 (0, ⟨#[41]⟩)) (List.replicate 3 (0, ⟨#[93]⟩)) (0, ⟨#[97]⟩) (0, ⟨#[98]⟩) else if i = 2 then lit1 2 (0, 1, ⟨#[]⟩) (0, 0, ⟨#[91]⟩) (List.replicate 3 (0, ⟨#[41]⟩)) (List.replicate 3 (0, ⟨#[93]⟩)) (0, ⟨#[97]⟩) (0, ⟨#[98]⟩) else lit1 2 (0, 1, ⟨#[]⟩) (0, 0, ⟨#[91]⟩) [(0, ⟨#[41]⟩), (0, ⟨#[]⟩), (0, ⟨#[41]⟩)] [(0, ⟨#[93]⟩), (0, ⟨#[]⟩), (0, ⟨#[93]⟩)] (0, ⟨#[97]⟩) (0, ⟨#[98]⟩)
set_option maxHeartbeats 6400000 in
set_option maxRecDepth 100000 in
theorem impl_Unwrap_0 (w : World) : Calls Try.prog 29 #[.string ⟨#[40]⟩] w (PostV RwE (lit1 2 (0, 1, ⟨#[]⟩) (0, 0, ⟨#[91]⟩) [(0, ⟨#[41]⟩), (0, ⟨#[]⟩), (0, ⟨#[41]⟩)] [(0, ⟨#[93]⟩), (0, ⟨#[]⟩), (0, ⟨#[93]⟩)] (0, ⟨#[97]⟩) (0, ⟨#[98]⟩)) 0 w) := by
  have HS : Hid (∀ W, Calls Try.prog 59 #[.string ⟨#[40]⟩, .int .u8 0] W (TupPost (.tuple #[.int .u8 0, .bool true]) W)) := fun W => by
    have h := sos_one 40 0 W (by decide)
    simpa [symNo, shapeS] using h
  have hBr := (Below.refl w.heap.size w).alloc (Nat.le_refl _) (.cells #[.int .i64 0, .int .i64 0, .slice none 0 0, .slice none 0 0, .slice none 0 0] 36)
  have hres := Bx.new w 36 #[.int .i64 0, .int .i64 0, .slice none 0 0, .slice none 0 0, .slice none 0 0]
  obtain ⟨Wr, hWr⟩ : ∃ Wr, Wr = w.alloc (.cells #[.int .i64 0, .int .i64 0, .slice none 0 0, .slice none 0 0, .slice none 0 0] 36) := ⟨_, rfl⟩
  rw [← hWr] at hBr hres
  have HR := Lib.hid (And.intro hBr (And.intro hres.lt hres))
  have hml : w.heap.size < Wr.heap.size := hres.lt
  have HWr := Lib.hid hWr
  clear hBr hres hWr
  go_enter Try.func29, Try.ntmps29
  go_wp2_with fail
  rw [← HWr.out]
  refine (HS.out _).mono ?_
  rintro e wa ⟨rfl, hba⟩
  have HB0 := Lib.hid hba
  clear hba
  go_wp2_with fail
  refine (mk_writing 0 ⟨#[]⟩ _).mono ?_
  rintro e wm0 ⟨rfl, hb0, hf0⟩
  have HM0 := Lib.hid (And.intro hb0 hf0)
  clear hb0 hf0
  go_wp2_with fail
  refine (mk_putting 0 1 _).mono ?_
  rintro e wm1 ⟨rfl, hb1, hf1⟩
  have HM1 := Lib.hid (And.intro hb1 hf1)
  clear hb1 hf1
  go_wp2_with fail
  refine (mk_writingBack 1 ⟨#[]⟩ _).mono ?_
  rintro e wm2 ⟨rfl, hb2, hf2⟩
  have HM2 := Lib.hid (And.intro hb2 hf2)
  clear hb2 hf2
  go_wp2_with fail
  have hnew := (Below.refl wm2.heap.size wm2).alloc (Nat.le_refl _) (.cells #[.func (.func 105) #[] #[.pointer (some ⟨wa.heap.size, 0, none⟩), .pointer (some ⟨wa.heap.size + 1, 0, none⟩)], .func (.func 101) #[] #[.pointer (some ⟨wm0.heap.size + 1, 0, none⟩), .pointer (some ⟨wm0.heap.size, 0, none⟩)], .func (.func 100) #[] #[.pointer (some ⟨wm1.heap.size + 1, 0, none⟩), .pointer (some ⟨wm1.heap.size, 0, none⟩)]] 81)
  have hbx := Bx.new wm2 81 #[.func (.func 105) #[] #[.pointer (some ⟨wa.heap.size, 0, none⟩), .pointer (some ⟨wa.heap.size + 1, 0, none⟩)], .func (.func 101) #[] #[.pointer (some ⟨wm0.heap.size + 1, 0, none⟩), .pointer (some ⟨wm0.heap.size, 0, none⟩)], .func (.func 100) #[] #[.pointer (some ⟨wm1.heap.size + 1, 0, none⟩), .pointer (some ⟨wm1.heap.size, 0, none⟩)]]
  have hl0 : Below wm0.heap.size wm0 (wm2.alloc (.cells #[.func (.func 105) #[] #[.pointer (some ⟨wa.heap.size, 0, none⟩), .pointer (some ⟨wa.heap.size + 1, 0, none⟩)], .func (.func 101) #[] #[.pointer (some ⟨wm0.heap.size + 1, 0, none⟩), .pointer (some ⟨wm0.heap.size, 0, none⟩)], .func (.func 100) #[] #[.pointer (some ⟨wm1.heap.size + 1, 0, none⟩), .pointer (some ⟨wm1.heap.size, 0, none⟩)]] 81)) := (HM1.out.1.trans ((HM2.out.1.trans (hnew.mono HM2.out.1.size)).mono HM1.out.1.size))
  have hl1 : Below wm1.heap.size wm1 (wm2.alloc (.cells #[.func (.func 105) #[] #[.pointer (some ⟨wa.heap.size, 0, none⟩), .pointer (some ⟨wa.heap.size + 1, 0, none⟩)], .func (.func 101) #[] #[.pointer (some ⟨wm0.heap.size + 1, 0, none⟩), .pointer (some ⟨wm0.heap.size, 0, none⟩)], .func (.func 100) #[] #[.pointer (some ⟨wm1.heap.size + 1, 0, none⟩), .pointer (some ⟨wm1.heap.size, 0, none⟩)]] 81)) := (HM2.out.1.trans (hnew.mono HM2.out.1.size))
  have hl2 : Below wm2.heap.size wm2 (wm2.alloc (.cells #[.func (.func 105) #[] #[.pointer (some ⟨wa.heap.size, 0, none⟩), .pointer (some ⟨wa.heap.size + 1, 0, none⟩)], .func (.func 101) #[] #[.pointer (some ⟨wm0.heap.size + 1, 0, none⟩), .pointer (some ⟨wm0.heap.size, 0, none⟩)], .func (.func 100) #[] #[.pointer (some ⟨wm1.heap.size + 1, 0, none⟩), .pointer (some ⟨wm1.heap.size, 0, none⟩)]] 81)) := hnew
  have hops : OptsC (wm2.alloc (.cells #[.func (.func 105) #[] #[.pointer (some ⟨wa.heap.size, 0, none⟩), .pointer (some ⟨wa.heap.size + 1, 0, none⟩)], .func (.func 101) #[] #[.pointer (some ⟨wm0.heap.size + 1, 0, none⟩), .pointer (some ⟨wm0.heap.size, 0, none⟩)], .func (.func 100) #[] #[.pointer (some ⟨wm1.heap.size + 1, 0, none⟩), .pointer (some ⟨wm1.heap.size, 0, none⟩)]] 81)) 3 (.slice (some ⟨wm2.heap.size, 0, none⟩) 3 3) unwSeq0 := by
    refine ⟨_, _, rfl, fun i hi => ?_⟩
    rcases (by omega : i = 0 ∨ i = 1 ∨ i = 2) with rfl | rfl | rfl
    · exact ⟨wm2.heap.size, 105, #[.pointer (some ⟨wa.heap.size, 0, none⟩), .pointer (some ⟨wa.heap.size + 1, 0, none⟩)], rfl, hbx.cell 0 _ rfl, cf_writing, OptC.later (w := wm0) (opt_writing_0 wm0 wa.heap.size (wa.heap.size + 1) ⟨#[]⟩ (plainRw 1 2) (0, 0, ⟨#[40]⟩) (0, 0, ⟨#[91]⟩) rfl rfl rfl HM0.out.2.1 HM0.out.2.2) hl0⟩
    · exact ⟨wm2.heap.size, 101, #[.pointer (some ⟨wm0.heap.size + 1, 0, none⟩), .pointer (some ⟨wm0.heap.size, 0, none⟩)], rfl, hbx.cell 1 _ rfl, cf_putting, OptC.later (w := wm1) (opt_putting_0 wm1 wm0.heap.size (wm0.heap.size + 1) 1 (lit1 2 (0, 0, ⟨#[]⟩) (0, 0, ⟨#[91]⟩) (List.replicate 3 (0, ⟨#[41]⟩)) (List.replicate 3 (0, ⟨#[93]⟩)) (0, ⟨#[97]⟩) (0, ⟨#[98]⟩)) (0, 0, ⟨#[]⟩) (0, 0, ⟨#[91]⟩) rfl rfl HM1.out.2.1 HM1.out.2.2) hl1⟩
    · exact ⟨wm2.heap.size, 100, #[.pointer (some ⟨wm1.heap.size + 1, 0, none⟩), .pointer (some ⟨wm1.heap.size, 0, none⟩)], rfl, hbx.cell 2 _ rfl, cf_writingBack, OptC.later (w := wm2) (opt_writingBack wm2 (wm1.heap.size + 1) wm1.heap.size 3 1 ⟨#[]⟩ (lit1 2 (0, 1, ⟨#[]⟩) (0, 0, ⟨#[91]⟩) (List.replicate 3 (0, ⟨#[41]⟩)) (List.replicate 3 (0, ⟨#[93]⟩)) (0, ⟨#[97]⟩) (0, ⟨#[98]⟩)) (List.replicate 3 (0, ⟨#[41]⟩)) (List.replicate 3 (0, ⟨#[93]⟩)) (0, ⟨#[41]⟩) (0, ⟨#[93]⟩) rfl rfl rfl rfl (by decide) rfl rfl HM2.out.2.1 HM2.out.2.2) hl2⟩
  refine (impl_with 1 2 3 unwSeq0 _ _ (by omega) (by omega) (by omega) rfl hops).mono ?_
  rintro e w1 ⟨v1, bs1, rfl, E1, hb9⟩
  have hb1 : Below Wr.heap.size Wr w1 := by
    have g0 := HB0.out.trans (HM0.out.1.mono HB0.out.size)
    have g1 := g0.trans (hl0.mono g0.size)
    exact g1.trans (hb9.mono g1.size)
  have hsz : Wr.heap.size ≤ (wm2.alloc (.cells #[.func (.func 105) #[] #[.pointer (some ⟨wa.heap.size, 0, none⟩), .pointer (some ⟨wa.heap.size + 1, 0, none⟩)], .func (.func 101) #[] #[.pointer (some ⟨wm0.heap.size + 1, 0, none⟩), .pointer (some ⟨wm0.heap.size, 0, none⟩)], .func (.func 100) #[] #[.pointer (some ⟨wm1.heap.size + 1, 0, none⟩), .pointer (some ⟨wm1.heap.size, 0, none⟩)]] 81)).heap.size := by
    have g0 := HB0.out.size
    have g1 := HM0.out.1.size
    have g2 := hl0.size
    omega
  replace E1 := rw_base hsz E1
  clear hnew hbx hops hb9 hsz hl0 hl1 hl2
  obtain ⟨A0, n0, k0, A1, n1, k1, A2, n2, k2, rfl⟩ := E1.form
  have xr := HR.out.2.2.same (hb1.block _ HR.out.2.1)
  obtain ⟨r0, r1, r2, r3, r4, rl⟩ := id xr.all5
  have q0 := xr.frozen 0
  have q1 := xr.frozen 1
  have q2 := xr.frozen 2
  have q3 := xr.frozen 3
  have q4 := xr.frozen 4
  have Hf := Lib.hid (And.intro hb1 E1)
  obtain ⟨s0, hs0⟩ : ∃ x, x = (unwSeq0 3).stack := ⟨_, rfl⟩
  obtain ⟨s1, hs1⟩ : ∃ x, x = (unwSeq0 3).start := ⟨_, rfl⟩
  rw [← hs0, ← hs1]
  have Hs := Lib.hid (And.intro hs0 hs1)
  clear E1 hb1 xr hs0 hs1
  go_wp2
  obtain ⟨e0, e1⟩ := Hs.out
  have hE := Hf.out.2
  rw [← e0, ← e1] at hE
  obtain ⟨x5, hF, hBf⟩ := rw_home (x0 := .int .i64 s0) (x1 := .int .i64 s1) (x2 := .slice A0 n0 k0) (x3 := .slice A1 n1 k1) (x4 := .slice A2 n2 k2) (Nat.le_refl _) HR.out.1 HR.out.2.1 HR.out.2.2 Hf.out.1 hE
  have f0 := x5.cell 0 _ rfl
  have f1 := x5.cell 1 _ rfl
  have f2 := x5.cell 2 _ rfl
  have f3 := x5.cell 3 _ rfl
  have f4 := x5.cell 4 _ rfl
  unfold set5 at f0 f1 f2 f3 f4 hF hBf
  exact bodyPost_ret (v := .tuple #[.agg #[.int .i64 s0, .int .i64 s1, .slice A0 n0 k0, .slice A1 n1 k1, .slice A2 n2 k2], .int .i64 0]) (by simp [results, Try.results29, go_sem, f0, f1, f2, f3, f4]) rfl ⟨_, _, rfl, hF, hBf⟩
def unwSeq1 (i : Nat) : Rw := if i = 0 then plainRw 1 2 else if i = 1 then lit1 2 (0, 0, ⟨#[40]⟩) (0, 0, ⟨#[]⟩) (List.replicate 3 (0, ⟨#[41]⟩)) (List.replicate 3 (0, ⟨#[93]⟩)) (0, ⟨#[97]⟩) (0, ⟨#[98]⟩) else if i = 2 then lit1 2 (0, 0, ⟨#[40]⟩) (0, 1, ⟨#[]⟩) (List.replicate 3 (0, ⟨#[41]⟩)) (List.replicate 3 (0, ⟨#[93]⟩)) (0, ⟨#[97]⟩) (0, ⟨#[98]⟩) else lit1 2 (0, 0, ⟨#[40]⟩) (0, 1, ⟨#[]⟩) [(0, ⟨#[41]⟩), (0, ⟨#[]⟩), (0, ⟨#[41]⟩)] [(0, ⟨#[93]⟩), (0, ⟨#[]⟩), (0, ⟨#[93]⟩)] (0, ⟨#[97]⟩) (0, ⟨#[98]⟩)
set_option maxHeartbeats 6400000 in
set_option maxRecDepth 100000 in
theorem impl_Unwrap_1 (w : World) : Calls Try.prog 29 #[.string ⟨#[91]⟩] w (PostV RwE (lit1 2 (0, 0, ⟨#[40]⟩) (0, 1, ⟨#[]⟩) [(0, ⟨#[41]⟩), (0, ⟨#[]⟩), (0, ⟨#[41]⟩)] [(0, ⟨#[93]⟩), (0, ⟨#[]⟩), (0, ⟨#[93]⟩)] (0, ⟨#[97]⟩) (0, ⟨#[98]⟩)) 0 w) := by
  have HS : Hid (∀ W, Calls Try.prog 59 #[.string ⟨#[91]⟩, .int .u8 0] W (TupPost (.tuple #[.int .u8 1, .bool true]) W)) := fun W => by
    have h := sos_one 91 0 W (by decide)
    simpa [symNo, shapeS] using h
  have hBr := (Below.refl w.heap.size w).alloc (Nat.le_refl _) (.cells #[.int .i64 0, .int .i64 0, .slice none 0 0, .slice none 0 0, .slice none 0 0] 36)
  have hres := Bx.new w 36 #[.int .i64 0, .int .i64 0, .slice none 0 0, .slice none 0 0, .slice none 0 0]
  obtain ⟨Wr, hWr⟩ : ∃ Wr, Wr = w.alloc (.cells #[.int .i64 0, .int .i64 0, .slice none 0 0, .slice none 0 0, .slice none 0 0] 36) := ⟨_, rfl⟩
  rw [← hWr] at hBr hres
  have HR := Lib.hid (And.intro hBr (And.intro hres.lt hres))
  have hml : w.heap.size < Wr.heap.size := hres.lt
  have HWr := Lib.hid hWr
  clear hBr hres hWr
  go_enter Try.func29, Try.ntmps29
  go_wp2_with fail
  rw [← HWr.out]
  refine (HS.out _).mono ?_
  rintro e wa ⟨rfl, hba⟩
  have HB0 := Lib.hid hba
  clear hba
  go_wp2_with fail
  refine (mk_writing 1 ⟨#[]⟩ _).mono ?_
  rintro e wm0 ⟨rfl, hb0, hf0⟩
  have HM0 := Lib.hid (And.intro hb0 hf0)
  clear hb0 hf0
  go_wp2_with fail
  refine (mk_putting 1 1 _).mono ?_
  rintro e wm1 ⟨rfl, hb1, hf1⟩
  have HM1 := Lib.hid (And.intro hb1 hf1)
  clear hb1 hf1
  go_wp2_with fail
  refine (mk_writingBack 1 ⟨#[]⟩ _).mono ?_
  rintro e wm2 ⟨rfl, hb2, hf2⟩
  have HM2 := Lib.hid (And.intro hb2 hf2)
  clear hb2 hf2
  go_wp2_with fail
  have hnew := (Below.refl wm2.heap.size wm2).alloc (Nat.le_refl _) (.cells #[.func (.func 105) #[] #[.pointer (some ⟨wa.heap.size, 0, none⟩), .pointer (some ⟨wa.heap.size + 1, 0, none⟩)], .func (.func 101) #[] #[.pointer (some ⟨wm0.heap.size + 1, 0, none⟩), .pointer (some ⟨wm0.heap.size, 0, none⟩)], .func (.func 100) #[] #[.pointer (some ⟨wm1.heap.size + 1, 0, none⟩), .pointer (some ⟨wm1.heap.size, 0, none⟩)]] 81)
  have hbx := Bx.new wm2 81 #[.func (.func 105) #[] #[.pointer (some ⟨wa.heap.size, 0, none⟩), .pointer (some ⟨wa.heap.size + 1, 0, none⟩)], .func (.func 101) #[] #[.pointer (some ⟨wm0.heap.size + 1, 0, none⟩), .pointer (some ⟨wm0.heap.size, 0, none⟩)], .func (.func 100) #[] #[.pointer (some ⟨wm1.heap.size + 1, 0, none⟩), .pointer (some ⟨wm1.heap.size, 0, none⟩)]]
  have hl0 : Below wm0.heap.size wm0 (wm2.alloc (.cells #[.func (.func 105) #[] #[.pointer (some ⟨wa.heap.size, 0, none⟩), .pointer (some ⟨wa.heap.size + 1, 0, none⟩)], .func (.func 101) #[] #[.pointer (some ⟨wm0.heap.size + 1, 0, none⟩), .pointer (some ⟨wm0.heap.size, 0, none⟩)], .func (.func 100) #[] #[.pointer (some ⟨wm1.heap.size + 1, 0, none⟩), .pointer (some ⟨wm1.heap.size, 0, none⟩)]] 81)) := (HM1.out.1.trans ((HM2.out.1.trans (hnew.mono HM2.out.1.size)).mono HM1.out.1.size))
  have hl1 : Below wm1.heap.size wm1 (wm2.alloc (.cells #[.func (.func 105) #[] #[.pointer (some ⟨wa.heap.size, 0, none⟩), .pointer (some ⟨wa.heap.size + 1, 0, none⟩)], .func (.func 101) #[] #[.pointer (some ⟨wm0.heap.size + 1, 0, none⟩), .pointer (some ⟨wm0.heap.size, 0, none⟩)], .func (.func 100) #[] #[.pointer (some ⟨wm1.heap.size + 1, 0, none⟩), .pointer (some ⟨wm1.heap.size, 0, none⟩)]] 81)) := (HM2.out.1.trans (hnew.mono HM2.out.1.size))
  have hl2 : Below wm2.heap.size wm2 (wm2.alloc (.cells #[.func (.func 105) #[] #[.pointer (some ⟨wa.heap.size, 0, none⟩), .pointer (some ⟨wa.heap.size + 1, 0, none⟩)], .func (.func 101) #[] #[.pointer (some ⟨wm0.heap.size + 1, 0, none⟩), .pointer (some ⟨wm0.heap.size, 0, none⟩)], .func (.func 100) #[] #[.pointer (some ⟨wm1.heap.size + 1, 0, none⟩), .pointer (some ⟨wm1.heap.size, 0, none⟩)]] 81)) := hnew
  have hops : OptsC (wm2.alloc (.cells #[.func (.func 105) #[] #[.pointer (some ⟨wa.heap.size, 0, none⟩), .pointer (some ⟨wa.heap.size + 1, 0, none⟩)], .func (.func 101) #[] #[.pointer (some ⟨wm0.heap.size + 1, 0, none⟩), .pointer (some ⟨wm0.heap.size, 0, none⟩)], .func (.func 100) #[] #[.pointer (some ⟨wm1.heap.size + 1, 0, none⟩), .pointer (some ⟨wm1.heap.size, 0, none⟩)]] 81)) 3 (.slice (some ⟨wm2.heap.size, 0, none⟩) 3 3) unwSeq1 := by
    refine ⟨_, _, rfl, fun i hi => ?_⟩
    rcases (by omega : i = 0 ∨ i = 1 ∨ i = 2) with rfl | rfl | rfl
    · exact ⟨wm2.heap.size, 105, #[.pointer (some ⟨wa.heap.size, 0, none⟩), .pointer (some ⟨wa.heap.size + 1, 0, none⟩)], rfl, hbx.cell 0 _ rfl, cf_writing, OptC.later (w := wm0) (opt_writing_1 wm0 wa.heap.size (wa.heap.size + 1) ⟨#[]⟩ (plainRw 1 2) (0, 0, ⟨#[40]⟩) (0, 0, ⟨#[91]⟩) rfl rfl rfl HM0.out.2.1 HM0.out.2.2) hl0⟩
    · exact ⟨wm2.heap.size, 101, #[.pointer (some ⟨wm0.heap.size + 1, 0, none⟩), .pointer (some ⟨wm0.heap.size, 0, none⟩)], rfl, hbx.cell 1 _ rfl, cf_putting, OptC.later (w := wm1) (opt_putting_1 wm1 wm0.heap.size (wm0.heap.size + 1) 1 (lit1 2 (0, 0, ⟨#[40]⟩) (0, 0, ⟨#[]⟩) (List.replicate 3 (0, ⟨#[41]⟩)) (List.replicate 3 (0, ⟨#[93]⟩)) (0, ⟨#[97]⟩) (0, ⟨#[98]⟩)) (0, 0, ⟨#[40]⟩) (0, 0, ⟨#[]⟩) rfl rfl HM1.out.2.1 HM1.out.2.2) hl1⟩
    · exact ⟨wm2.heap.size, 100, #[.pointer (some ⟨wm1.heap.size + 1, 0, none⟩), .pointer (some ⟨wm1.heap.size, 0, none⟩)], rfl, hbx.cell 2 _ rfl, cf_writingBack, OptC.later (w := wm2) (opt_writingBack wm2 (wm1.heap.size + 1) wm1.heap.size 3 1 ⟨#[]⟩ (lit1 2 (0, 0, ⟨#[40]⟩) (0, 1, ⟨#[]⟩) (List.replicate 3 (0, ⟨#[41]⟩)) (List.replicate 3 (0, ⟨#[93]⟩)) (0, ⟨#[97]⟩) (0, ⟨#[98]⟩)) (List.replicate 3 (0, ⟨#[41]⟩)) (List.replicate 3 (0, ⟨#[93]⟩)) (0, ⟨#[41]⟩) (0, ⟨#[93]⟩) rfl rfl rfl rfl (by decide) rfl rfl HM2.out.2.1 HM2.out.2.2) hl2⟩
  refine (impl_with 1 2 3 unwSeq1 _ _ (by omega) (by omega) (by omega) rfl hops).mono ?_
  rintro e w1 ⟨v1, bs1, rfl, E1, hb9⟩
  have hb1 : Below Wr.heap.size Wr w1 := by
    have g0 := HB0.out.trans (HM0.out.1.mono HB0.out.size)
    have g1 := g0.trans (hl0.mono g0.size)
    exact g1.trans (hb9.mono g1.size)
  have hsz : Wr.heap.size ≤ (wm2.alloc (.cells #[.func (.func 105) #[] #[.pointer (some ⟨wa.heap.size, 0, none⟩), .pointer (some ⟨wa.heap.size + 1, 0, none⟩)], .func (.func 101) #[] #[.pointer (some ⟨wm0.heap.size + 1, 0, none⟩), .pointer (some ⟨wm0.heap.size, 0, none⟩)], .func (.func 100) #[] #[.pointer (some ⟨wm1.heap.size + 1, 0, none⟩), .pointer (some ⟨wm1.heap.size, 0, none⟩)]] 81)).heap.size := by
    have g0 := HB0.out.size
    have g1 := HM0.out.1.size
    have g2 := hl0.size
    omega
  replace E1 := rw_base hsz E1
  clear hnew hbx hops hb9 hsz hl0 hl1 hl2
  obtain ⟨A0, n0, k0, A1, n1, k1, A2, n2, k2, rfl⟩ := E1.form
  have xr := HR.out.2.2.same (hb1.block _ HR.out.2.1)
  obtain ⟨r0, r1, r2, r3, r4, rl⟩ := id xr.all5
  have q0 := xr.frozen 0
  have q1 := xr.frozen 1
  have q2 := xr.frozen 2
  have q3 := xr.frozen 3
  have q4 := xr.frozen 4
  have Hf := Lib.hid (And.intro hb1 E1)
  obtain ⟨s0, hs0⟩ : ∃ x, x = (unwSeq1 3).stack := ⟨_, rfl⟩
  obtain ⟨s1, hs1⟩ : ∃ x, x = (unwSeq1 3).start := ⟨_, rfl⟩
  rw [← hs0, ← hs1]
  have Hs := Lib.hid (And.intro hs0 hs1)
  clear E1 hb1 xr hs0 hs1
  go_wp2
  obtain ⟨e0, e1⟩ := Hs.out
  have hE := Hf.out.2
  rw [← e0, ← e1] at hE
  obtain ⟨x5, hF, hBf⟩ := rw_home (x0 := .int .i64 s0) (x1 := .int .i64 s1) (x2 := .slice A0 n0 k0) (x3 := .slice A1 n1 k1) (x4 := .slice A2 n2 k2) (Nat.le_refl _) HR.out.1 HR.out.2.1 HR.out.2.2 Hf.out.1 hE
  have f0 := x5.cell 0 _ rfl
  have f1 := x5.cell 1 _ rfl
  have f2 := x5.cell 2 _ rfl
  have f3 := x5.cell 3 _ rfl
  have f4 := x5.cell 4 _ rfl
  unfold set5 at f0 f1 f2 f3 f4 hF hBf
  exact bodyPost_ret (v := .tuple #[.agg #[.int .i64 s0, .int .i64 s1, .slice A0 n0 k0, .slice A1 n1 k1, .slice A2 n2 k2], .int .i64 0]) (by simp [results, Try.results29, go_sem, f0, f1, f2, f3, f4]) rfl ⟨_, _, rfl, hF, hBf⟩
set_option maxHeartbeats 6400000 in
set_option maxRecDepth 100000 in
theorem impl_Unwrap_no (t : ByteArray) (w : World) (hs : t.size ≤ 1048576) (h0 : ¬ t = ⟨#[40]⟩) (h1 : ¬ t = ⟨#[91]⟩) : Calls Try.prog 29 #[.string t] w (PostV RwE ⟨0, 0, [], [], []⟩ 2 w) := by
  obtain ⟨x, hx⟩ := sos_other t 0 hs (fun b e hb => sym_shape0 b hb (fun e2 => h0 (by rw [e, e2])) (fun e2 => h1 (by rw [e, e2])))
  have HS := Lib.hid hx
  clear h0 h1 hx hs
  have hBr := (Below.refl w.heap.size w).alloc (Nat.le_refl _) (.cells #[.int .i64 0, .int .i64 0, .slice none 0 0, .slice none 0 0, .slice none 0 0] 36)
  have hres := Bx.new w 36 #[.int .i64 0, .int .i64 0, .slice none 0 0, .slice none 0 0, .slice none 0 0]
  obtain ⟨Wr, hWr⟩ : ∃ Wr, Wr = w.alloc (.cells #[.int .i64 0, .int .i64 0, .slice none 0 0, .slice none 0 0, .slice none 0 0] 36) := ⟨_, rfl⟩
  rw [← hWr] at hBr hres
  have HR := Lib.hid (And.intro hBr (And.intro hres.lt hres))
  have hml : w.heap.size < Wr.heap.size := hres.lt
  have HWr := Lib.hid hWr
  clear hBr hres hWr
  go_enter Try.func29, Try.ntmps29
  go_wp2_with fail
  rw [← HWr.out]
  refine (HS.out _).mono ?_
  rintro e w1 ⟨rfl, hbw⟩
  have xr := HR.out.2.2.same (hbw.block _ HR.out.2.1)
  obtain ⟨r0, r1, r2, r3, r4, rl⟩ := id xr.all5
  have q0 := xr.frozen 0
  have q1 := xr.frozen 1
  have q2 := xr.frozen 2
  have q3 := xr.frozen 3
  have q4 := xr.frozen 4
  have Hf := Lib.hid hbw
  clear xr hbw
  go_wp2
  obtain ⟨x5, hF, hBf⟩ := rw_home (x0 := .int .i64 0) (x1 := .int .i64 0) (x2 := .slice none 0 0) (x3 := .slice none 0 0) (x4 := .slice none 0 0) (Nat.le_refl _) HR.out.1 HR.out.2.1 HR.out.2.2 Hf.out (nil_rw _ _)
  have f0 := x5.cell 0 _ rfl
  have f1 := x5.cell 1 _ rfl
  have f2 := x5.cell 2 _ rfl
  have f3 := x5.cell 3 _ rfl
  have f4 := x5.cell 4 _ rfl
  unfold set5 at f0 f1 f2 f3 f4 hF hBf
  exact bodyPost_ret (v := .tuple #[.agg #[.int .i64 0, .int .i64 0, .slice none 0 0, .slice none 0 0, .slice none 0 0], .int .i64 2]) (by simp [results, Try.results29, go_sem, f0, f1, f2, f3, f4]) rfl ⟨_, _, rfl, hF, hBf⟩
theorem both_UnwrapRewriter (a0 : ByteArray) (hs0 : a0.size ≤ 1048576) : ∃ (rk : Rw) (r1 : Int), BdRw rk ∧ (∀ w, Calls Try.prog 28 #[.string a0] w (PostR RwE rk r1 w)) ∧ (∀ w, Calls Try.prog 29 #[.string a0] w (PostV RwE rk r1 w)) := by
  by_cases h0 : a0 = ⟨#[40]⟩
  · subst h0
    exact ⟨_, _, lit1_bd (by decide) (by decide), fun w => spec_Unwrap_0 w, fun w => impl_Unwrap_0 w⟩
  · by_cases h1 : a0 = ⟨#[91]⟩
    · subst h1
      exact ⟨_, _, lit1_bd (by decide) (by decide), fun w => spec_Unwrap_1 w, fun w => impl_Unwrap_1 w⟩
    · exact ⟨_, _, nil_bdR, fun w => spec_Unwrap_no a0 w h0 h1, fun w => impl_Unwrap_no a0 w hs0 h0 h1⟩
end Go.Proofs.Ytmkamodmnplclaa
