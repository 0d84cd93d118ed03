/- toStream. -/
import Derived.Test.YtadifihblaalpaaSm
namespace Go.Proofs.Ytadifihblaalpaa
open Go.RowKit Go.ChangeShapes Go.WideShapes Go.Deep
set_option linter.unusedVariables false

/-- Six cells of a box, one behind the other. -/
theorem Bx.set6 {W : World} {B : Nat} {t : TypeId} {z0 z1 z2 z3 z4 z5 z6 u0 u1 u2 u3 u4 u5 : Value} (h : Bx W B t #[z0, z1, z2, z3, z4, z5, z6]) :
    Bx ((((((W.setCell ⟨B, 0, none⟩ u0).setCell ⟨B, 1, none⟩ u1).setCell ⟨B, 2, none⟩ u2).setCell ⟨B, 3, none⟩ u3).setCell ⟨B, 4, none⟩ u4).setCell ⟨B, 5, none⟩ u5) B t #[u0, u1, u2, u3, u4, u5, z6] := by
  have h0 := h.set 0 u0
  have h1 := h0.set 1 u1
  have h2 := h1.set 2 u2
  have h3 := h2.set 3 u3
  have h4 := h3.set 4 u4
  exact h4.set 5 u5
theorem Bx.set7 {W : World} {B : Nat} {t : TypeId} {z0 z1 z2 z3 z4 z5 z6 u0 u1 u2 u3 u4 u5 u6 : Value} (h : Bx W B t #[z0, z1, z2, z3, z4, z5, z6]) :
    Bx (((((((W.setCell ⟨B, 0, none⟩ u0).setCell ⟨B, 1, none⟩ u1).setCell ⟨B, 2, none⟩ u2).setCell ⟨B, 3, none⟩ u3).setCell ⟨B, 4, none⟩ u4).setCell ⟨B, 5, none⟩ u5).setCell ⟨B, 6, none⟩ u6) B t #[u0, u1, u2, u3, u4, u5, u6] :=
  (Bx.set6 h).set 6 u6
theorem heap_set6 {W : World} {B b : Nat} (u0 u1 u2 u3 u4 u5 : Value) (h : b ≠ B) :
    ((((((W.setCell ⟨B, 0, none⟩ u0).setCell ⟨B, 1, none⟩ u1).setCell ⟨B, 2, none⟩ u2).setCell ⟨B, 3, none⟩ u3).setCell ⟨B, 4, none⟩ u4).setCell ⟨B, 5, none⟩ u5).heap[b]? = W.heap[b]? := by
  rw [Below.heap_setCell _ _ _ b h, Below.heap_setCell _ _ _ b h, Below.heap_setCell _ _ _ b h, Below.heap_setCell _ _ _ b h, Below.heap_setCell _ _ _ b h, Below.heap_setCell _ _ _ b h]
theorem below_set6 {w W : World} {B n : Nat} (u0 u1 u2 u3 u4 u5 : Value) (h : Below n w W) (hB : n ≤ B) :
    Below n w ((((((W.setCell ⟨B, 0, none⟩ u0).setCell ⟨B, 1, none⟩ u1).setCell ⟨B, 2, none⟩ u2).setCell ⟨B, 3, none⟩ u3).setCell ⟨B, 4, none⟩ u4).setCell ⟨B, 5, none⟩ u5) :=
  (((((h.setCell (p := ⟨B, 0, none⟩) hB _).setCell (p := ⟨B, 1, none⟩) hB _).setCell (p := ⟨B, 2, none⟩) hB _).setCell (p := ⟨B, 3, none⟩) hB _).setCell (p := ⟨B, 4, none⟩) hB _).setCell (p := ⟨B, 5, none⟩) hB _
theorem heap_set7 {W : World} {B b : Nat} (u0 u1 u2 u3 u4 u5 u6 : Value) (h : b ≠ B) :
    (((((((W.setCell ⟨B, 0, none⟩ u0).setCell ⟨B, 1, none⟩ u1).setCell ⟨B, 2, none⟩ u2).setCell ⟨B, 3, none⟩ u3).setCell ⟨B, 4, none⟩ u4).setCell ⟨B, 5, none⟩ u5).setCell ⟨B, 6, none⟩ u6).heap[b]? = W.heap[b]? := by
  rw [Below.heap_setCell _ _ _ b h]
  exact heap_set6 u0 u1 u2 u3 u4 u5 h
theorem below_set7 {w W : World} {B n : Nat} (u0 u1 u2 u3 u4 u5 u6 : Value) (h : Below n w W) (hB : n ≤ B) :
    Below n w (((((((W.setCell ⟨B, 0, none⟩ u0).setCell ⟨B, 1, none⟩ u1).setCell ⟨B, 2, none⟩ u2).setCell ⟨B, 3, none⟩ u3).setCell ⟨B, 4, none⟩ u4).setCell ⟨B, 5, none⟩ u5).setCell ⟨B, 6, none⟩ u6) :=
  (below_set6 u0 u1 u2 u3 u4 u5 h hB).setCell (p := ⟨B, 6, none⟩) hB _
set_option maxHeartbeats 6400000 in
set_option maxRecDepth 100000 in
theorem to_stream {v : Value} {c : Sm} (w : World) (hc : BdSt c) (ha : SmR w v c) : Calls Try.prog 13 #[v] w (NewPost SmE c w) := by
  obtain ⟨va, vc, vr, vi, vp, rfl, h0, h1⟩ := ha
  have q1 := Lib.hid fun (W : World) (hw : Below w.heap.size w W) => to_strs W hc.pieces (strs_r.later h1 hw)
  obtain ⟨s0, hs0⟩ : ∃ s, s = c.checker.stack := ⟨_, rfl⟩
  obtain ⟨s1, hs1⟩ : ∃ s, s = c.checker.start := ⟨_, rfl⟩
  rw [← hs0, ← hs1] at h0 ⊢
  have q0 := Lib.hid fun (W : World) (hw : Below w.heap.size w W) => to_checker W hc.checker (ck_r.later h0 hw)
  have Hs := Lib.hid (And.intro hs0 hs1)
  clear hs0 hs1 h0 h1 hc
  obtain ⟨W0, hW0⟩ : ∃ W0, W0 = ((w.alloc (.cells #[.int .i64 s0, .int .i64 s1, va, vc, vr, vi, vp] 36)).alloc (.cells #[.int .i64 0, .int .i64 0, .slice none 0 0, .slice none 0 0, .slice none 0 0, .slice none 0 0, .slice none 0 0] 43)).alloc (.cells #[.int .i64 0, .int .i64 0, .slice none 0 0, .slice none 0 0, .slice none 0 0, .slice none 0 0, .slice none 0 0] 43) := ⟨_, rfl⟩
  have x1 : Bx W0 w.heap.size 36 #[.int .i64 s0, .int .i64 s1, va, vc, vr, vi, vp] := by rw [hW0]; exact ((Bx.new w _ _).alloc _).alloc _
  have x2 : Bx W0 (w.heap.size + 1) 43 #[.int .i64 0, .int .i64 0, .slice none 0 0, .slice none 0 0, .slice none 0 0, .slice none 0 0, .slice none 0 0] := by
    rw [hW0]
    have := (Bx.new (w.alloc (.cells #[.int .i64 s0, .int .i64 s1, va, vc, vr, vi, vp] 36)) 43 #[.int .i64 0, .int .i64 0, .slice none 0 0, .slice none 0 0, .slice none 0 0, .slice none 0 0, .slice none 0 0]).alloc (.cells #[.int .i64 0, .int .i64 0, .slice none 0 0, .slice none 0 0, .slice none 0 0, .slice none 0 0, .slice none 0 0] 43)
    rwa [World.size_alloc] at this
  have x3 : Bx W0 (w.heap.size + 1 + 1) 43 #[.int .i64 0, .int .i64 0, .slice none 0 0, .slice none 0 0, .slice none 0 0, .slice none 0 0, .slice none 0 0] := by
    rw [hW0]
    have := Bx.new ((w.alloc (.cells #[.int .i64 s0, .int .i64 s1, va, vc, vr, vi, vp] 36)).alloc (.cells #[.int .i64 0, .int .i64 0, .slice none 0 0, .slice none 0 0, .slice none 0 0, .slice none 0 0, .slice none 0 0] 43)) 43 #[.int .i64 0, .int .i64 0, .slice none 0 0, .slice none 0 0, .slice none 0 0, .slice none 0 0, .slice none 0 0]
    rwa [World.size_alloc, World.size_alloc] at this
  have hB0 : Below w.heap.size w W0 := by rw [hW0]; exact (((Below.refl _ _).alloc (Nat.le_refl _) _).alloc (by simp) _).alloc (by simp; omega) _
  have hz0 : W0.heap.size = w.heap.size + 1 + 1 + 1 := by rw [hW0]; simp
  have HW0 := Lib.hid hW0
  have Hz0 := Lib.hid hz0
  clear hW0 hz0
  obtain ⟨p0, p1, p2, p3, p4, p5, p6, pl⟩ := id x1.all7
  go_enter Try.func13, Try.ntmps13
  go_wp2_with fail
  rw [← HW0.out]
  refine (q0.out _ hB0).mono ?_
  rintro e w1 ⟨v1, bs1, rfl, E1, hb1⟩
  clear p0 p1 p2 p3 p4 p5 p6 pl
  have l1 := (ck_ok _).lt E1
  obtain ⟨ua, uc, ur, ui, e1, e2, e3, e4, rfl, F1, F2, F3, F4, hbs1, hn1⟩ := E1
  rw [← Hs.out.1, ← Hs.out.2]
  obtain ⟨A1, k1, rfl⟩ := RowE.slice F1
  obtain ⟨A2, k2, rfl⟩ := ManyE.slice F2
  obtain ⟨A3, k3, rfl⟩ := ManyE.slice F3
  obtain ⟨A4, k4, rfl⟩ := ManyE.slice F4
  have CK : CkE W0.heap.size w1 (.agg #[.int .i64 s0, .int .i64 s1, .slice A1 c.checker.accept.length k1, .slice A2 c.checker.call.length k2, .slice A3 c.checker.ret.length k3, .slice A4 c.checker.inner.length k4]) c.checker bs1 :=
    ⟨_, _, _, _, _, _, _, _, by rw [← Hs.out.1, ← Hs.out.2], F1, F2, F3, F4, hbs1, hn1⟩
  clear F1 F2 F3 F4 hbs1 hn1
  generalize c.checker.accept.length = n1 at *
  generalize c.checker.call.length = n2 at *
  generalize c.checker.ret.length = n3 at *
  generalize c.checker.inner.length = n4 at *
  have y1 := x1.later hb1
  have y2 := x2.later hb1
  have y3 := x3.later hb1
  have hB1 := hB0.trans (hb1.mono hB0.size)
  have HW1 := Lib.hid (Bx.set6 (u0 := .int .i64 s0) (u1 := .int .i64 s1) (u2 := .slice A1 n1 k1) (u3 := .slice A2 n2 k2) (u4 := .slice A3 n3 k3) (u5 := .slice A4 n4 k4) y3)
  obtain ⟨W1, hW1⟩ : ∃ W1, W1 = ((((((w1.setCell ⟨w.heap.size + 1 + 1, 0, none⟩ (.int .i64 s0)).setCell ⟨w.heap.size + 1 + 1, 1, none⟩ (.int .i64 s1)).setCell ⟨w.heap.size + 1 + 1, 2, none⟩ (.slice A1 n1 k1)).setCell ⟨w.heap.size + 1 + 1, 3, none⟩ (.slice A2 n2 k2)).setCell ⟨w.heap.size + 1 + 1, 4, none⟩ (.slice A3 n3 k3)).setCell ⟨w.heap.size + 1 + 1, 5, none⟩ (.slice A4 n4 k4)) := ⟨_, rfl⟩
  have z3 := HW1.out
  rw [← hW1] at z3
  have hk : ∀ b, b ≠ w.heap.size + 1 + 1 → W1.heap[b]? = w1.heap[b]? := fun b hb => by rw [hW1]; exact heap_set6 _ _ _ _ _ _ hb
  have z1 := y1.same (hk _ (by omega))
  have z2 := y2.same (hk _ (by omega))
  have hB2 : Below w.heap.size w W1 := by rw [hW1]; exact below_set6 _ _ _ _ _ _ hB1 (by omega)
  have CK1 := (ck_ok _).kept CK (fun b hb => hk b (by have := l1 b hb; have := Hz0.out; omega))
  have hsz1 : W1.heap.size = w1.heap.size := by rw [hW1]; simp
  have HW := Lib.hid hW1
  have f0 := y3.frozen 0
  have f1 := y3.frozen 1
  have f2 := y3.frozen 2
  have f3 := y3.frozen 3
  have f4 := y3.frozen 4
  have f5 := y3.frozen 5
  obtain ⟨d0, d1, d2, d3, d4, d5, d6, dl⟩ := id y3.all7
  obtain ⟨p0, p1, p2, p3, p4, p5, p6, pl⟩ := id y1.all7
  have H1 := Lib.hid (And.intro hsz1 (And.intro l1 CK1))
  clear hW1 hk hsz1 l1 CK CK1 HW1 y1 y2 x1 x2 x3
  go_wp2_with fail
  rw [← HW.out]
  clear f0 f1 f2 f3 f4 f5 d0 d1 d2 d3 d4 d5 d6 dl p0 p1 p2 p3 p4 p5 p6 pl y3
  refine (q1.out _ hB2).mono ?_
  rintro e w2 ⟨v2, bs2, rfl, E2, hb2⟩
  have l2 := (str_ok _).lt E2
  obtain ⟨A5, k5, rfl⟩ := RowE.slice E2
  generalize hnp : c.pieces.length = n5 at *
  have Hnp := Lib.hid hnp
  clear hnp
  have CK2 := (ck_ok _).later H1.out.2.2 hb2
  replace z2 := z2.later hb2
  replace z3 := z3.later hb2
  replace hB2 := hB2.trans (hb2.mono hB2.size)
  have l3 := (ck_ok _).lt CK2
  have hst : w.heap.size + 1 + 1 + 1 ≤ w1.heap.size := by have := hb1.size; have := Hz0.out; omega
  have zq := z2.other 6 (.slice A5 n5 k5) (b := w.heap.size + 1 + 1) (by omega)
  have pf := Bx.set7 (u0 := .int .i64 s0) (u1 := .int .i64 s1) (u2 := .slice A1 n1 k1) (u3 := .slice A2 n2 k2) (u4 := .slice A3 n3 k3) (u5 := .slice A4 n4 k4) (u6 := .slice A5 n5 k5) zq
  obtain ⟨g0, g1, g2, g3, g4, g5, g6, gl⟩ := id pf.all7
  have zf : Bx (w2.setCell ⟨w.heap.size + 1 + 1, 6, none⟩ (.slice A5 n5 k5)) (w.heap.size + 1 + 1) 43 #[.int .i64 s0, .int .i64 s1, .slice A1 n1 k1, .slice A2 n2 k2, .slice A3 n3 k3, .slice A4 n4 k4, .slice A5 n5 k5] := z3.set 6 (.slice A5 n5 k5)
  have f6 := z3.frozen 6
  obtain ⟨d0, d1, d2, d3, d4, d5, d6, dl⟩ := id z3.all7
  obtain ⟨m0, m1, m2, m3, m4, m5, m6, ml⟩ := id zf.all7
  obtain ⟨e0, e1, e2, e3, e4, e5, e6, el⟩ := id zq.all7
  have r0 := zq.frozen 0
  have r1 := zq.frozen 1
  have r2 := zq.frozen 2
  have r3 := zq.frozen 3
  have r4 := zq.frozen 4
  have r5 := zq.frozen 5
  have r6 := zq.frozen 6
  have HF := Lib.hid (And.intro hB2 (And.intro l2 (And.intro l3 (And.intro E2 CK2))))
  have Hl := Lib.hid H1.out.1
  have Hst := Lib.hid hst
  have Hzz := Lib.hid (And.intro hb1.size (And.intro H1.out.2.1 hb2.size))
  clear hB2 l2 l3 E2 CK2 hst hb1 hb2
  go_wp2
  refine bodyPost_ret (v := .agg #[.int .i64 s0, .int .i64 s1, .slice A1 n1 k1, .slice A2 n2 k2, .slice A3 n3 k3, .slice A4 n4 k4, .slice A5 n5 k5]) (by simp [results, Try.results13, go_sem, g0, g1, g2, g3, g4, g5, g6]) rfl ?_
  have hk : ∀ b, b ≠ w.heap.size + 1 → b ≠ w.heap.size + 1 + 1 → (((((((((w2.setCell ⟨w.heap.size + 1 + 1, 6, none⟩ (.slice A5 n5 k5)).setCell ⟨w.heap.size + 1, 0, none⟩ (.int .i64 s0)).setCell ⟨w.heap.size + 1, 1, none⟩ (.int .i64 s1)).setCell ⟨w.heap.size + 1, 2, none⟩ (.slice A1 n1 k1)).setCell ⟨w.heap.size + 1, 3, none⟩ (.slice A2 n2 k2)).setCell ⟨w.heap.size + 1, 4, none⟩ (.slice A3 n3 k3)).setCell ⟨w.heap.size + 1, 5, none⟩ (.slice A4 n4 k4)).setCell ⟨w.heap.size + 1, 6, none⟩ (.slice A5 n5 k5))).heap[b]? = w2.heap[b]? := fun b h1 h2 => by
    rw [heap_set7 _ _ _ _ _ _ _ h1, Below.heap_setCell _ _ _ b h2]
  have hz := Hz0.out
  have hl1 : ∀ b ∈ bs1, w.heap.size + 1 + 1 < b ∧ b < w1.heap.size := fun b hb => by have := H1.out.2.1 b hb; omega
  have hl2 : ∀ b ∈ bs2, w1.heap.size ≤ b := fun b hb => by have := HF.out.2.1 b hb; have := H1.out.1; omega
  have hw1 := Hst.out
  refine ⟨_, bs1 ++ bs2, rfl, ⟨_, _, _, _, _, bs1, bs2, by rw [← Hs.out.1, ← Hs.out.2], ?_, ?_, rfl, ?_⟩, ?_⟩
  · rw [← Hs.out.1, ← Hs.out.2]
    have CK3 := (ck_ok _).kept HF.out.2.2.2.2 (fun b hb => hk b (by have := hl1 b hb; omega) (by have := hl1 b hb; omega))
    obtain ⟨ta, tc, tr, ti, t1, t2, t3, t4, q1, q2, q3, q4, q5, q6, q7⟩ := CK3
    exact ⟨ta, tc, tr, ti, t1, t2, t3, t4, q1, bools_base (by omega) _ _ _ _ q2, pushes2_base (by omega) _ _ _ _ q3, ints3_base (by omega) _ _ _ _ q4, ints2_base (by omega) _ _ _ _ q5, q6, q7⟩
  · refine strs_base (by have := H1.out.1; omega) _ _ _ _ ((str_ok _).kept HF.out.2.2.2.1 (fun b hb => hk b (by have := hl2 b hb; omega) (by have := hl2 b hb; omega)))
  · rw [List.nodup_append]
    refine ⟨(ck_ok _).nodup HF.out.2.2.2.2, (str_ok _).nodup HF.out.2.2.2.1, fun a ha b hb e => ?_⟩
    subst e
    have := hl1 a ha
    have := hl2 a hb
    omega
  · exact below_set7 _ _ _ _ _ _ _ (HF.out.1.setCell (p := ⟨w.heap.size + 1 + 1, 6, none⟩) (by show w.heap.size ≤ w.heap.size + 1 + 1; omega) _) (by omega)
end Go.Proofs.Ytadifihblaalpaa
