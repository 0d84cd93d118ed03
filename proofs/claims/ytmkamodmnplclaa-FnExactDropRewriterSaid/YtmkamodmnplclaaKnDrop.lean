/- DropRewriter of the model and of the program. -/
import Derived.Test.YtmkamodmnplclaaKnA
import Derived.BigRegion
import Derived.Deep.DeepCutAuto
namespace Go.Proofs.Ytmkamodmnplclaa
open Go.RowKit
set_option linter.unusedVariables false

set_option maxHeartbeats 6400000 in
set_option maxRecDepth 100000 in
theorem spec_Drop_0 (w : World) : Calls Try.prog 24 #[.string ⟨#[97]⟩] w (PostR RwE (lit1 1 (0, 0, ⟨#[40]⟩) (0, 0, ⟨#[91]⟩) (List.replicate 2 (0, ⟨#[41]⟩)) (List.replicate 2 (0, ⟨#[93]⟩)) (0, ⟨#[]⟩) (0, ⟨#[98]⟩)) 0 w) := by
  have H : Hid (∀ W, Calls Try.prog 44 #[.int .i64 1, .int .i64 1] W (NewPost RwE (plainRw 1 1) W)) := fun W => spec_plainRw 1 1 W (by omega) (by omega)
  obtain ⟨c9, hc9⟩ : ∃ c, c = plainRw 1 1 := ⟨_, rfl⟩
  rw [← hc9] at H
  have Hc9 := Lib.hid hc9
  clear hc9
  have hBr := (Below.refl w.heap.size w).alloc (Nat.le_refl _) (.cells #[.int .i64 0, .int .i64 0, .slice none 0 0, .slice none 0 0, .slice none 0 0] 36)
  have hres := Bx.new w 36 #[.int .i64 0, .int .i64 0, .slice none 0 0, .slice none 0 0, .slice none 0 0]
  obtain ⟨Wr, hWr⟩ : ∃ Wr, Wr = w.alloc (.cells #[.int .i64 0, .int .i64 0, .slice none 0 0, .slice none 0 0, .slice none 0 0] 36) := ⟨_, rfl⟩
  rw [← hWr] at hBr hres
  have HR := Lib.hid (And.intro hBr (And.intro hres.lt hres))
  have hml : w.heap.size < Wr.heap.size := hres.lt
  have HWr := Lib.hid hWr
  clear hBr hres hWr
  go_enter Try.func24, Try.ntmps24
  go_wp2_with fail
  refine (letter_a _).mono ?_
  rintro e w' ⟨rfl, rfl⟩
  go_wp2_with fail
  rw [← HWr.out]
  refine (H.out _).mono ?_
  rintro e w1 ⟨v1, bs1, rfl, E1, hb1⟩
  obtain ⟨A0, n0, k0, A1, n1, k1, A2, n2, k2, rfl⟩ := E1.form
  obtain ⟨b1, b2, b3, hA⟩ := RwAt.of_value E1 hb1.size
  have hBX := (hb1.alloc hb1.size (.cells #[.int .i64 c9.stack, .int .i64 c9.start, .slice A0 n0 k0, .slice A1 n1 k1, .slice A2 n2 k2] 36))
  obtain ⟨b, hb⟩ : ∃ b, b = w1.heap.size := ⟨_, rfl⟩
  obtain ⟨X0, hX0⟩ : ∃ X, X = w1.alloc (.cells #[.int .i64 c9.stack, .int .i64 c9.start, .slice A0 n0 k0, .slice A1 n1 k1, .slice A2 n2 k2] 36) := ⟨_, rfl⟩
  rw [← hX0, ← hb] at hA
  rw [← hX0] at hBX
  rw [Hc9.out] at hA
  have HX0 := Lib.hid (And.intro hX0 hb)
  have HA_X0 := Lib.hid (And.intro (show RwAt Wr.heap.size X0 b (lit1 1 (0, 0, ⟨#[40]⟩) (0, 0, ⟨#[91]⟩) (List.replicate 2 (0, ⟨#[41]⟩)) (List.replicate 2 (0, ⟨#[93]⟩)) (0, ⟨#[97]⟩) (0, ⟨#[98]⟩)) b1 b2 b3 from hA) hBX)
  clear hA hBX hX0 hb E1 hb1
  go_upto_region 5 with fail
  rw [← HX0.out.2]
  rw [← HX0.out.1]
  clear HX0
  obtain ⟨hA, hB⟩ := HA_X0.out
  obtain ⟨g0, k0, g1, k1, hc0, hc1, hc2, hfz, ⟨hb', hg0, hg1⟩, hput⟩ := hA.at_inner (i := 0) (j := 0) (o := 1) (q := 1) (row := [(0, ⟨#[97]⟩), (0, ⟨#[98]⟩)]) (p := (0, ⟨#[97]⟩)) rfl rfl rfl rfl
  have hc0 : X0.cell? ⟨b, 4, none⟩ = some (.slice (some ⟨g0, 0, none⟩) 1 k0) := hc0
  have hc1 : X0.cell? ⟨g0, 0, none⟩ = some (.slice (some ⟨g1, 0, none⟩) 2 k1) := hc1
  have q0 := hfz _ (Below.refl _ _)
  have HP := Lib.hid (hput _ (Below.refl _ _) (0, ⟨#[]⟩) (.string ⟨#[]⟩) rfl)
  obtain ⟨X1, hX1⟩ : ∃ X, X = X0.setCell ⟨g1, 1, none⟩ (.string ⟨#[]⟩) := ⟨_, rfl⟩
  have HX1 := Lib.hid hX1
  rw [← hX1] at HP
  have HA_X1 := Lib.hid (And.intro (show RwAt Wr.heap.size X1 b (lit1 1 (0, 0, ⟨#[40]⟩) (0, 0, ⟨#[91]⟩) (List.replicate 2 (0, ⟨#[41]⟩)) (List.replicate 2 (0, ⟨#[93]⟩)) (0, ⟨#[]⟩) (0, ⟨#[98]⟩)) b1 b2 b3 from HP.out.1) (hB.trans HP.out.2))
  clear hX1 hput hA hB HP HA_X0
  clear hfz
  go_upto_region 6 with fail
  rw [← HX1.out]
  clear HX1 hc0 hc1 hc2 q0
  obtain ⟨hA, hB⟩ := HA_X1.out
  obtain ⟨A0, n0, k0, A1, n1, k1, A2, n2, k2, xb, hE⟩ := hA.value
  have xr := HR.out.2.2.same (hB.block _ HR.out.2.1)
  obtain ⟨z0, z1, z2, z3, z4, zl⟩ := id xb.all5
  replace z0 : X1.cell? ⟨b, 0, none⟩ = some (.int .i64 1) := z0
  replace z1 : X1.cell? ⟨b, 1, none⟩ = some (.int .i64 0) := z1
  obtain ⟨r0, r1, r2, r3, r4, rl⟩ := id xr.all5
  have q0 := xr.frozen 0
  have q1 := xr.frozen 1
  have q2 := xr.frozen 2
  have q3 := xr.frozen 3
  have q4 := xr.frozen 4
  have Hf := Lib.hid (And.intro hB hE)
  clear hA hB hE xb xr HA_X1
  go_wp2
  obtain ⟨x5, hF, hBf⟩ := rw_home (x0 := .int .i64 1) (x1 := .int .i64 0) (x2 := .slice A0 n0 k0) (x3 := .slice A1 n1 k1) (x4 := .slice A2 n2 k2) (Nat.le_refl _) HR.out.1 HR.out.2.1 HR.out.2.2 Hf.out.1 Hf.out.2
  have f0 := x5.cell 0 _ rfl
  have f1 := x5.cell 1 _ rfl
  have f2 := x5.cell 2 _ rfl
  have f3 := x5.cell 3 _ rfl
  have f4 := x5.cell 4 _ rfl
  unfold set5 at f0 f1 f2 f3 f4 hF hBf
  exact bodyPost_ret (v := .tuple #[.agg #[.int .i64 1, .int .i64 0, .slice A0 n0 k0, .slice A1 n1 k1, .slice A2 n2 k2], .int .i64 0]) (by simp [results, Try.results24, go_sem, f0, f1, f2, f3, f4]) rfl ⟨_, _, rfl, rw_base (Nat.zero_le _) hF, hBf⟩
set_option maxHeartbeats 6400000 in
set_option maxRecDepth 100000 in
theorem spec_Drop_1 (w : World) : Calls Try.prog 24 #[.string ⟨#[98]⟩] w (PostR RwE (lit1 1 (0, 0, ⟨#[40]⟩) (0, 0, ⟨#[91]⟩) (List.replicate 2 (0, ⟨#[41]⟩)) (List.replicate 2 (0, ⟨#[93]⟩)) (0, ⟨#[97]⟩) (0, ⟨#[]⟩)) 0 w) := by
  have H : Hid (∀ W, Calls Try.prog 44 #[.int .i64 1, .int .i64 1] W (NewPost RwE (plainRw 1 1) W)) := fun W => spec_plainRw 1 1 W (by omega) (by omega)
  obtain ⟨c9, hc9⟩ : ∃ c, c = plainRw 1 1 := ⟨_, rfl⟩
  rw [← hc9] at H
  have Hc9 := Lib.hid hc9
  clear hc9
  have hBr := (Below.refl w.heap.size w).alloc (Nat.le_refl _) (.cells #[.int .i64 0, .int .i64 0, .slice none 0 0, .slice none 0 0, .slice none 0 0] 36)
  have hres := Bx.new w 36 #[.int .i64 0, .int .i64 0, .slice none 0 0, .slice none 0 0, .slice none 0 0]
  obtain ⟨Wr, hWr⟩ : ∃ Wr, Wr = w.alloc (.cells #[.int .i64 0, .int .i64 0, .slice none 0 0, .slice none 0 0, .slice none 0 0] 36) := ⟨_, rfl⟩
  rw [← hWr] at hBr hres
  have HR := Lib.hid (And.intro hBr (And.intro hres.lt hres))
  have hml : w.heap.size < Wr.heap.size := hres.lt
  have HWr := Lib.hid hWr
  clear hBr hres hWr
  go_enter Try.func24, Try.ntmps24
  go_wp2_with fail
  refine (letter_b _).mono ?_
  rintro e w' ⟨rfl, rfl⟩
  go_wp2_with fail
  rw [← HWr.out]
  refine (H.out _).mono ?_
  rintro e w1 ⟨v1, bs1, rfl, E1, hb1⟩
  obtain ⟨A0, n0, k0, A1, n1, k1, A2, n2, k2, rfl⟩ := E1.form
  obtain ⟨b1, b2, b3, hA⟩ := RwAt.of_value E1 hb1.size
  have hBX := (hb1.alloc hb1.size (.cells #[.int .i64 c9.stack, .int .i64 c9.start, .slice A0 n0 k0, .slice A1 n1 k1, .slice A2 n2 k2] 36))
  obtain ⟨b, hb⟩ : ∃ b, b = w1.heap.size := ⟨_, rfl⟩
  obtain ⟨X0, hX0⟩ : ∃ X, X = w1.alloc (.cells #[.int .i64 c9.stack, .int .i64 c9.start, .slice A0 n0 k0, .slice A1 n1 k1, .slice A2 n2 k2] 36) := ⟨_, rfl⟩
  rw [← hX0, ← hb] at hA
  rw [← hX0] at hBX
  rw [Hc9.out] at hA
  have HX0 := Lib.hid (And.intro hX0 hb)
  have HA_X0 := Lib.hid (And.intro (show RwAt Wr.heap.size X0 b (lit1 1 (0, 0, ⟨#[40]⟩) (0, 0, ⟨#[91]⟩) (List.replicate 2 (0, ⟨#[41]⟩)) (List.replicate 2 (0, ⟨#[93]⟩)) (0, ⟨#[97]⟩) (0, ⟨#[98]⟩)) b1 b2 b3 from hA) hBX)
  clear hA hBX hX0 hb E1 hb1
  go_upto_region 5 with fail
  rw [← HX0.out.2]
  rw [← HX0.out.1]
  clear HX0
  obtain ⟨hA, hB⟩ := HA_X0.out
  obtain ⟨g0, k0, g1, k1, hc0, hc1, hc2, hfz, ⟨hb', hg0, hg1⟩, hput⟩ := hA.at_inner (i := 0) (j := 1) (o := 3) (q := 1) (row := [(0, ⟨#[97]⟩), (0, ⟨#[98]⟩)]) (p := (0, ⟨#[98]⟩)) rfl rfl rfl rfl
  have hc0 : X0.cell? ⟨b, 4, none⟩ = some (.slice (some ⟨g0, 0, none⟩) 1 k0) := hc0
  have hc1 : X0.cell? ⟨g0, 0, none⟩ = some (.slice (some ⟨g1, 0, none⟩) 2 k1) := hc1
  have q0 := hfz _ (Below.refl _ _)
  have HP := Lib.hid (hput _ (Below.refl _ _) (0, ⟨#[]⟩) (.string ⟨#[]⟩) rfl)
  obtain ⟨X1, hX1⟩ : ∃ X, X = X0.setCell ⟨g1, 3, none⟩ (.string ⟨#[]⟩) := ⟨_, rfl⟩
  have HX1 := Lib.hid hX1
  rw [← hX1] at HP
  have HA_X1 := Lib.hid (And.intro (show RwAt Wr.heap.size X1 b (lit1 1 (0, 0, ⟨#[40]⟩) (0, 0, ⟨#[91]⟩) (List.replicate 2 (0, ⟨#[41]⟩)) (List.replicate 2 (0, ⟨#[93]⟩)) (0, ⟨#[97]⟩) (0, ⟨#[]⟩)) b1 b2 b3 from HP.out.1) (hB.trans HP.out.2))
  clear hX1 hput hA hB HP HA_X0
  clear hfz
  go_upto_region 6 with fail
  rw [← HX1.out]
  clear HX1 hc0 hc1 hc2 q0
  obtain ⟨hA, hB⟩ := HA_X1.out
  obtain ⟨A0, n0, k0, A1, n1, k1, A2, n2, k2, xb, hE⟩ := hA.value
  have xr := HR.out.2.2.same (hB.block _ HR.out.2.1)
  obtain ⟨z0, z1, z2, z3, z4, zl⟩ := id xb.all5
  replace z0 : X1.cell? ⟨b, 0, none⟩ = some (.int .i64 1) := z0
  replace z1 : X1.cell? ⟨b, 1, none⟩ = some (.int .i64 0) := z1
  obtain ⟨r0, r1, r2, r3, r4, rl⟩ := id xr.all5
  have q0 := xr.frozen 0
  have q1 := xr.frozen 1
  have q2 := xr.frozen 2
  have q3 := xr.frozen 3
  have q4 := xr.frozen 4
  have Hf := Lib.hid (And.intro hB hE)
  clear hA hB hE xb xr HA_X1
  go_wp2
  obtain ⟨x5, hF, hBf⟩ := rw_home (x0 := .int .i64 1) (x1 := .int .i64 0) (x2 := .slice A0 n0 k0) (x3 := .slice A1 n1 k1) (x4 := .slice A2 n2 k2) (Nat.le_refl _) HR.out.1 HR.out.2.1 HR.out.2.2 Hf.out.1 Hf.out.2
  have f0 := x5.cell 0 _ rfl
  have f1 := x5.cell 1 _ rfl
  have f2 := x5.cell 2 _ rfl
  have f3 := x5.cell 3 _ rfl
  have f4 := x5.cell 4 _ rfl
  unfold set5 at f0 f1 f2 f3 f4 hF hBf
  exact bodyPost_ret (v := .tuple #[.agg #[.int .i64 1, .int .i64 0, .slice A0 n0 k0, .slice A1 n1 k1, .slice A2 n2 k2], .int .i64 0]) (by simp [results, Try.results24, go_sem, f0, f1, f2, f3, f4]) rfl ⟨_, _, rfl, rw_base (Nat.zero_le _) hF, hBf⟩
set_option maxHeartbeats 6400000 in
set_option maxRecDepth 100000 in
theorem spec_Drop_no (t : ByteArray) (w : World) (h0 : ¬ t = ⟨#[97]⟩) (h1 : ¬ t = ⟨#[98]⟩) : Calls Try.prog 24 #[.string t] w (PostR RwE ⟨0, 0, [], [], []⟩ 2 w) := by
  have HL := Lib.hid fun W => letter_no t W h0 h1
  clear h0 h1
  have hBr := (Below.refl w.heap.size w).alloc (Nat.le_refl _) (.cells #[.int .i64 0, .int .i64 0, .slice none 0 0, .slice none 0 0, .slice none 0 0] 36)
  have hres := Bx.new w 36 #[.int .i64 0, .int .i64 0, .slice none 0 0, .slice none 0 0, .slice none 0 0]
  obtain ⟨Wr, hWr⟩ : ∃ Wr, Wr = w.alloc (.cells #[.int .i64 0, .int .i64 0, .slice none 0 0, .slice none 0 0, .slice none 0 0] 36) := ⟨_, rfl⟩
  rw [← hWr] at hBr hres
  have HR := Lib.hid (And.intro hBr (And.intro hres.lt hres))
  have hml : w.heap.size < Wr.heap.size := hres.lt
  have HWr := Lib.hid hWr
  clear hBr hres hWr
  go_enter Try.func24, Try.ntmps24
  go_wp2_with fail
  rw [← HWr.out]
  refine (HL.out _).mono ?_
  rintro e w1 ⟨rfl, hwe⟩
  have hbw : Below Wr.heap.size Wr w1 := by rw [hwe]; exact Below.refl _ _
  clear hwe
  have xr := HR.out.2.2.same (hbw.block _ HR.out.2.1)
  obtain ⟨r0, r1, r2, r3, r4, rl⟩ := id xr.all5
  have q0 := xr.frozen 0
  have q1 := xr.frozen 1
  have q2 := xr.frozen 2
  have q3 := xr.frozen 3
  have q4 := xr.frozen 4
  have Hf := Lib.hid hbw
  clear xr hbw
  go_wp2
  obtain ⟨x5, hF, hBf⟩ := rw_home (x0 := .int .i64 0) (x1 := .int .i64 0) (x2 := .slice none 0 0) (x3 := .slice none 0 0) (x4 := .slice none 0 0) (Nat.le_refl _) HR.out.1 HR.out.2.1 HR.out.2.2 Hf.out (nil_rw _ _)
  have f0 := x5.cell 0 _ rfl
  have f1 := x5.cell 1 _ rfl
  have f2 := x5.cell 2 _ rfl
  have f3 := x5.cell 3 _ rfl
  have f4 := x5.cell 4 _ rfl
  unfold set5 at f0 f1 f2 f3 f4 hF hBf
  exact bodyPost_ret (v := .tuple #[.agg #[.int .i64 0, .int .i64 0, .slice none 0 0, .slice none 0 0, .slice none 0 0], .int .i64 2]) (by simp [results, Try.results24, go_sem, f0, f1, f2, f3, f4]) rfl ⟨_, _, rfl, rw_base (Nat.zero_le _) hF, hBf⟩
def dropSeq0 (i : Nat) : Rw := if i = 0 then plainRw 1 1 else lit1 1 (0, 0, ⟨#[40]⟩) (0, 0, ⟨#[91]⟩) (List.replicate 2 (0, ⟨#[41]⟩)) (List.replicate 2 (0, ⟨#[93]⟩)) (0, ⟨#[]⟩) (0, ⟨#[98]⟩)
set_option maxHeartbeats 6400000 in
set_option maxRecDepth 100000 in
theorem impl_Drop_0 (w : World) : Calls Try.prog 25 #[.string ⟨#[97]⟩] w (PostV RwE (lit1 1 (0, 0, ⟨#[40]⟩) (0, 0, ⟨#[91]⟩) (List.replicate 2 (0, ⟨#[41]⟩)) (List.replicate 2 (0, ⟨#[93]⟩)) (0, ⟨#[]⟩) (0, ⟨#[98]⟩)) 0 w) := by
  have HS : Hid (∀ W, Calls Try.prog 59 #[.string ⟨#[97]⟩, .int .u8 4] W (TupPost (.tuple #[.int .u8 4, .bool true]) W)) := fun W => by
    have h := sos_one 97 4 W (by decide)
    simpa [symNo, shapeS] using h
  have hBr := (Below.refl w.heap.size w).alloc (Nat.le_refl _) (.cells #[.int .i64 0, .int .i64 0, .slice none 0 0, .slice none 0 0, .slice none 0 0] 36)
  have hres := Bx.new w 36 #[.int .i64 0, .int .i64 0, .slice none 0 0, .slice none 0 0, .slice none 0 0]
  obtain ⟨Wr, hWr⟩ : ∃ Wr, Wr = w.alloc (.cells #[.int .i64 0, .int .i64 0, .slice none 0 0, .slice none 0 0, .slice none 0 0] 36) := ⟨_, rfl⟩
  rw [← hWr] at hBr hres
  have HR := Lib.hid (And.intro hBr (And.intro hres.lt hres))
  have hml : w.heap.size < Wr.heap.size := hres.lt
  have HWr := Lib.hid hWr
  clear hBr hres hWr
  go_enter Try.func25, Try.ntmps25
  go_wp2_with fail
  rw [← HWr.out]
  refine (HS.out _).mono ?_
  rintro e wa ⟨rfl, hba⟩
  have HB0 := Lib.hid hba
  clear hba
  go_wp2_with fail
  refine (mk_writing 4 ⟨#[]⟩ _).mono ?_
  rintro e wm0 ⟨rfl, hb0, hf0⟩
  have HM0 := Lib.hid (And.intro hb0 hf0)
  clear hb0 hf0
  go_wp2_with fail
  have hnew := (Below.refl wm0.heap.size wm0).alloc (Nat.le_refl _) (.cells #[.func (.func 105) #[] #[.pointer (some ⟨wa.heap.size, 0, none⟩), .pointer (some ⟨wa.heap.size + 1, 0, none⟩)]] 81)
  have hbx := Bx.new wm0 81 #[.func (.func 105) #[] #[.pointer (some ⟨wa.heap.size, 0, none⟩), .pointer (some ⟨wa.heap.size + 1, 0, none⟩)]]
  have hl0 : Below wm0.heap.size wm0 (wm0.alloc (.cells #[.func (.func 105) #[] #[.pointer (some ⟨wa.heap.size, 0, none⟩), .pointer (some ⟨wa.heap.size + 1, 0, none⟩)]] 81)) := hnew
  have hops : OptsC (wm0.alloc (.cells #[.func (.func 105) #[] #[.pointer (some ⟨wa.heap.size, 0, none⟩), .pointer (some ⟨wa.heap.size + 1, 0, none⟩)]] 81)) 1 (.slice (some ⟨wm0.heap.size, 0, none⟩) 1 1) dropSeq0 := by
    refine ⟨_, _, rfl, fun i hi => ?_⟩
    obtain rfl : i = 0 := by omega
    exact ⟨wm0.heap.size, 105, #[.pointer (some ⟨wa.heap.size, 0, none⟩), .pointer (some ⟨wa.heap.size + 1, 0, none⟩)], rfl, hbx.cell 0 _ rfl, cf_writing, OptC.later (w := wm0) (opt_writing_4 wm0 wa.heap.size (wa.heap.size + 1) ⟨#[]⟩ (plainRw 1 1) (0, ⟨#[97]⟩) (0, ⟨#[98]⟩) rfl rfl rfl HM0.out.2.1 HM0.out.2.2) hl0⟩
  refine (impl_with 1 1 1 dropSeq0 _ _ (by omega) (by omega) (by omega) rfl hops).mono ?_
  rintro e w1 ⟨v1, bs1, rfl, E1, hb9⟩
  have hb1 : Below Wr.heap.size Wr w1 := by
    have g0 := HB0.out.trans (HM0.out.1.mono HB0.out.size)
    have g1 := g0.trans (hl0.mono g0.size)
    exact g1.trans (hb9.mono g1.size)
  have hsz : Wr.heap.size ≤ (wm0.alloc (.cells #[.func (.func 105) #[] #[.pointer (some ⟨wa.heap.size, 0, none⟩), .pointer (some ⟨wa.heap.size + 1, 0, none⟩)]] 81)).heap.size := by
    have g0 := HB0.out.size
    have g1 := HM0.out.1.size
    have g2 := hl0.size
    omega
  replace E1 := rw_base hsz E1
  clear hnew hbx hops hb9 hsz hl0
  obtain ⟨A0, n0, k0, A1, n1, k1, A2, n2, k2, rfl⟩ := E1.form
  have xr := HR.out.2.2.same (hb1.block _ HR.out.2.1)
  obtain ⟨r0, r1, r2, r3, r4, rl⟩ := id xr.all5
  have q0 := xr.frozen 0
  have q1 := xr.frozen 1
  have q2 := xr.frozen 2
  have q3 := xr.frozen 3
  have q4 := xr.frozen 4
  have Hf := Lib.hid (And.intro hb1 E1)
  obtain ⟨s0, hs0⟩ : ∃ x, x = (dropSeq0 1).stack := ⟨_, rfl⟩
  obtain ⟨s1, hs1⟩ : ∃ x, x = (dropSeq0 1).start := ⟨_, rfl⟩
  rw [← hs0, ← hs1]
  have Hs := Lib.hid (And.intro hs0 hs1)
  clear E1 hb1 xr hs0 hs1
  go_wp2
  obtain ⟨e0, e1⟩ := Hs.out
  have hE := Hf.out.2
  rw [← e0, ← e1] at hE
  obtain ⟨x5, hF, hBf⟩ := rw_home (x0 := .int .i64 s0) (x1 := .int .i64 s1) (x2 := .slice A0 n0 k0) (x3 := .slice A1 n1 k1) (x4 := .slice A2 n2 k2) (Nat.le_refl _) HR.out.1 HR.out.2.1 HR.out.2.2 Hf.out.1 hE
  have f0 := x5.cell 0 _ rfl
  have f1 := x5.cell 1 _ rfl
  have f2 := x5.cell 2 _ rfl
  have f3 := x5.cell 3 _ rfl
  have f4 := x5.cell 4 _ rfl
  unfold set5 at f0 f1 f2 f3 f4 hF hBf
  exact bodyPost_ret (v := .tuple #[.agg #[.int .i64 s0, .int .i64 s1, .slice A0 n0 k0, .slice A1 n1 k1, .slice A2 n2 k2], .int .i64 0]) (by simp [results, Try.results25, go_sem, f0, f1, f2, f3, f4]) rfl ⟨_, _, rfl, hF, hBf⟩
def dropSeq1 (i : Nat) : Rw := if i = 0 then plainRw 1 1 else lit1 1 (0, 0, ⟨#[40]⟩) (0, 0, ⟨#[91]⟩) (List.replicate 2 (0, ⟨#[41]⟩)) (List.replicate 2 (0, ⟨#[93]⟩)) (0, ⟨#[97]⟩) (0, ⟨#[]⟩)
set_option maxHeartbeats 6400000 in
set_option maxRecDepth 100000 in
theorem impl_Drop_1 (w : World) : Calls Try.prog 25 #[.string ⟨#[98]⟩] w (PostV RwE (lit1 1 (0, 0, ⟨#[40]⟩) (0, 0, ⟨#[91]⟩) (List.replicate 2 (0, ⟨#[41]⟩)) (List.replicate 2 (0, ⟨#[93]⟩)) (0, ⟨#[97]⟩) (0, ⟨#[]⟩)) 0 w) := by
  have HS : Hid (∀ W, Calls Try.prog 59 #[.string ⟨#[98]⟩, .int .u8 4] W (TupPost (.tuple #[.int .u8 5, .bool true]) W)) := fun W => by
    have h := sos_one 98 4 W (by decide)
    simpa [symNo, shapeS] using h
  have hBr := (Below.refl w.heap.size w).alloc (Nat.le_refl _) (.cells #[.int .i64 0, .int .i64 0, .slice none 0 0, .slice none 0 0, .slice none 0 0] 36)
  have hres := Bx.new w 36 #[.int .i64 0, .int .i64 0, .slice none 0 0, .slice none 0 0, .slice none 0 0]
  obtain ⟨Wr, hWr⟩ : ∃ Wr, Wr = w.alloc (.cells #[.int .i64 0, .int .i64 0, .slice none 0 0, .slice none 0 0, .slice none 0 0] 36) := ⟨_, rfl⟩
  rw [← hWr] at hBr hres
  have HR := Lib.hid (And.intro hBr (And.intro hres.lt hres))
  have hml : w.heap.size < Wr.heap.size := hres.lt
  have HWr := Lib.hid hWr
  clear hBr hres hWr
  go_enter Try.func25, Try.ntmps25
  go_wp2_with fail
  rw [← HWr.out]
  refine (HS.out _).mono ?_
  rintro e wa ⟨rfl, hba⟩
  have HB0 := Lib.hid hba
  clear hba
  go_wp2_with fail
  refine (mk_writing 5 ⟨#[]⟩ _).mono ?_
  rintro e wm0 ⟨rfl, hb0, hf0⟩
  have HM0 := Lib.hid (And.intro hb0 hf0)
  clear hb0 hf0
  go_wp2_with fail
  have hnew := (Below.refl wm0.heap.size wm0).alloc (Nat.le_refl _) (.cells #[.func (.func 105) #[] #[.pointer (some ⟨wa.heap.size, 0, none⟩), .pointer (some ⟨wa.heap.size + 1, 0, none⟩)]] 81)
  have hbx := Bx.new wm0 81 #[.func (.func 105) #[] #[.pointer (some ⟨wa.heap.size, 0, none⟩), .pointer (some ⟨wa.heap.size + 1, 0, none⟩)]]
  have hl0 : Below wm0.heap.size wm0 (wm0.alloc (.cells #[.func (.func 105) #[] #[.pointer (some ⟨wa.heap.size, 0, none⟩), .pointer (some ⟨wa.heap.size + 1, 0, none⟩)]] 81)) := hnew
  have hops : OptsC (wm0.alloc (.cells #[.func (.func 105) #[] #[.pointer (some ⟨wa.heap.size, 0, none⟩), .pointer (some ⟨wa.heap.size + 1, 0, none⟩)]] 81)) 1 (.slice (some ⟨wm0.heap.size, 0, none⟩) 1 1) dropSeq1 := by
    refine ⟨_, _, rfl, fun i hi => ?_⟩
    obtain rfl : i = 0 := by omega
    exact ⟨wm0.heap.size, 105, #[.pointer (some ⟨wa.heap.size, 0, none⟩), .pointer (some ⟨wa.heap.size + 1, 0, none⟩)], rfl, hbx.cell 0 _ rfl, cf_writing, OptC.later (w := wm0) (opt_writing_5 wm0 wa.heap.size (wa.heap.size + 1) ⟨#[]⟩ (plainRw 1 1) (0, ⟨#[97]⟩) (0, ⟨#[98]⟩) rfl rfl rfl HM0.out.2.1 HM0.out.2.2) hl0⟩
  refine (impl_with 1 1 1 dropSeq1 _ _ (by omega) (by omega) (by omega) rfl hops).mono ?_
  rintro e w1 ⟨v1, bs1, rfl, E1, hb9⟩
  have hb1 : Below Wr.heap.size Wr w1 := by
    have g0 := HB0.out.trans (HM0.out.1.mono HB0.out.size)
    have g1 := g0.trans (hl0.mono g0.size)
    exact g1.trans (hb9.mono g1.size)
  have hsz : Wr.heap.size ≤ (wm0.alloc (.cells #[.func (.func 105) #[] #[.pointer (some ⟨wa.heap.size, 0, none⟩), .pointer (some ⟨wa.heap.size + 1, 0, none⟩)]] 81)).heap.size := by
    have g0 := HB0.out.size
    have g1 := HM0.out.1.size
    have g2 := hl0.size
    omega
  replace E1 := rw_base hsz E1
  clear hnew hbx hops hb9 hsz hl0
  obtain ⟨A0, n0, k0, A1, n1, k1, A2, n2, k2, rfl⟩ := E1.form
  have xr := HR.out.2.2.same (hb1.block _ HR.out.2.1)
  obtain ⟨r0, r1, r2, r3, r4, rl⟩ := id xr.all5
  have q0 := xr.frozen 0
  have q1 := xr.frozen 1
  have q2 := xr.frozen 2
  have q3 := xr.frozen 3
  have q4 := xr.frozen 4
  have Hf := Lib.hid (And.intro hb1 E1)
  obtain ⟨s0, hs0⟩ : ∃ x, x = (dropSeq1 1).stack := ⟨_, rfl⟩
  obtain ⟨s1, hs1⟩ : ∃ x, x = (dropSeq1 1).start := ⟨_, rfl⟩
  rw [← hs0, ← hs1]
  have Hs := Lib.hid (And.intro hs0 hs1)
  clear E1 hb1 xr hs0 hs1
  go_wp2
  obtain ⟨e0, e1⟩ := Hs.out
  have hE := Hf.out.2
  rw [← e0, ← e1] at hE
  obtain ⟨x5, hF, hBf⟩ := rw_home (x0 := .int .i64 s0) (x1 := .int .i64 s1) (x2 := .slice A0 n0 k0) (x3 := .slice A1 n1 k1) (x4 := .slice A2 n2 k2) (Nat.le_refl _) HR.out.1 HR.out.2.1 HR.out.2.2 Hf.out.1 hE
  have f0 := x5.cell 0 _ rfl
  have f1 := x5.cell 1 _ rfl
  have f2 := x5.cell 2 _ rfl
  have f3 := x5.cell 3 _ rfl
  have f4 := x5.cell 4 _ rfl
  unfold set5 at f0 f1 f2 f3 f4 hF hBf
  exact bodyPost_ret (v := .tuple #[.agg #[.int .i64 s0, .int .i64 s1, .slice A0 n0 k0, .slice A1 n1 k1, .slice A2 n2 k2], .int .i64 0]) (by simp [results, Try.results25, go_sem, f0, f1, f2, f3, f4]) rfl ⟨_, _, rfl, hF, hBf⟩
set_option maxHeartbeats 6400000 in
set_option maxRecDepth 100000 in
theorem impl_Drop_no (t : ByteArray) (w : World) (hs : t.size ≤ 1048576) (h0 : ¬ t = ⟨#[97]⟩) (h1 : ¬ t = ⟨#[98]⟩) : Calls Try.prog 25 #[.string t] w (PostV RwE ⟨0, 0, [], [], []⟩ 2 w) := by
  obtain ⟨x, hx⟩ := sos_other t 4 hs (fun b e hb => sym_shape4 b hb (fun e2 => h0 (by rw [e, e2])) (fun e2 => h1 (by rw [e, e2])))
  have HS := Lib.hid hx
  clear h0 h1 hx hs
  have hBr := (Below.refl w.heap.size w).alloc (Nat.le_refl _) (.cells #[.int .i64 0, .int .i64 0, .slice none 0 0, .slice none 0 0, .slice none 0 0] 36)
  have hres := Bx.new w 36 #[.int .i64 0, .int .i64 0, .slice none 0 0, .slice none 0 0, .slice none 0 0]
  obtain ⟨Wr, hWr⟩ : ∃ Wr, Wr = w.alloc (.cells #[.int .i64 0, .int .i64 0, .slice none 0 0, .slice none 0 0, .slice none 0 0] 36) := ⟨_, rfl⟩
  rw [← hWr] at hBr hres
  have HR := Lib.hid (And.intro hBr (And.intro hres.lt hres))
  have hml : w.heap.size < Wr.heap.size := hres.lt
  have HWr := Lib.hid hWr
  clear hBr hres hWr
  go_enter Try.func25, Try.ntmps25
  go_wp2_with fail
  rw [← HWr.out]
  refine (HS.out _).mono ?_
  rintro e w1 ⟨rfl, hbw⟩
  have xr := HR.out.2.2.same (hbw.block _ HR.out.2.1)
  obtain ⟨r0, r1, r2, r3, r4, rl⟩ := id xr.all5
  have q0 := xr.frozen 0
  have q1 := xr.frozen 1
  have q2 := xr.frozen 2
  have q3 := xr.frozen 3
  have q4 := xr.frozen 4
  have Hf := Lib.hid hbw
  clear xr hbw
  go_wp2
  obtain ⟨x5, hF, hBf⟩ := rw_home (x0 := .int .i64 0) (x1 := .int .i64 0) (x2 := .slice none 0 0) (x3 := .slice none 0 0) (x4 := .slice none 0 0) (Nat.le_refl _) HR.out.1 HR.out.2.1 HR.out.2.2 Hf.out (nil_rw _ _)
  have f0 := x5.cell 0 _ rfl
  have f1 := x5.cell 1 _ rfl
  have f2 := x5.cell 2 _ rfl
  have f3 := x5.cell 3 _ rfl
  have f4 := x5.cell 4 _ rfl
  unfold set5 at f0 f1 f2 f3 f4 hF hBf
  exact bodyPost_ret (v := .tuple #[.agg #[.int .i64 0, .int .i64 0, .slice none 0 0, .slice none 0 0, .slice none 0 0], .int .i64 2]) (by simp [results, Try.results25, go_sem, f0, f1, f2, f3, f4]) rfl ⟨_, _, rfl, hF, hBf⟩
theorem both_DropRewriter (a0 : ByteArray) (hs0 : a0.size ≤ 1048576) : ∃ (rk : Rw) (r1 : Int), BdRw rk ∧ (∀ w, Calls Try.prog 24 #[.string a0] w (PostR RwE rk r1 w)) ∧ (∀ w, Calls Try.prog 25 #[.string a0] w (PostV RwE rk r1 w)) := by
  by_cases h0 : a0 = ⟨#[97]⟩
  · subst h0
    exact ⟨_, _, lit1_bd (by decide) (by decide), fun w => spec_Drop_0 w, fun w => impl_Drop_0 w⟩
  · by_cases h1 : a0 = ⟨#[98]⟩
    · subst h1
      exact ⟨_, _, lit1_bd (by decide) (by decide), fun w => spec_Drop_1 w, fun w => impl_Drop_1 w⟩
    · exact ⟨_, _, nil_bdR, fun w => spec_Drop_no a0 w h0 h1, fun w => impl_Drop_no a0 w hs0 h0 h1⟩
end Go.Proofs.Ytmkamodmnplclaa
