/- l03Told, ChoicesOf of the model, and ChoicesOf of both. -/
import Derived.Test.YticmekdfdilcpaaOfS
import Derived.Test.YticmekdfdilcpaaOfI
import Derived.Test.YticmekdfdilcpaaOkH
import Derived.Test.YticmekdfdilcpaaSpecOk
import Derived.Test.YticmekdfdilcpaaCkRF
namespace Go.Proofs.Yticmekdfdilcpaa
open Go.RowKit
set_option linter.unusedVariables false
def TellH (v : Value) (code : Int) (w : World) (e : Ending) (w' : World) : Prop := e = .returned (.tuple #[v, .int .i64 code]) ∧ Below w.heap.size w w'
def nilHV : Value := .agg #[.int .i64 0, .slice none 0 0, .slice none 0 0, .slice none 0 0, .slice none 0 0, .slice none 0 0]
set_option maxHeartbeats 3200000 in
set_option maxRecDepth 100000 in
theorem toldH_yes {base : Nat} {v : Value} {c : Ch} {bs : List Nat} (w : World) (hbc : BdH c) (hck : ChE base w v c bs) (h : okH c = true) :
    Calls Try.prog 48 #[v] w (TellH v 0 w) := by
  obtain ⟨v0, v1, v2, v3, v4, _, _, _, _, _, rfl, h0, h1, h2, h3, h4, _, _⟩ := hck
  obtain ⟨A0, k0, rfl⟩ := RowE.slice h0
  obtain ⟨A1, k1, rfl⟩ := RowE.slice h1
  obtain ⟨A2, k2, rfl⟩ := ManyE.slice h2
  obtain ⟨A3, k3, rfl⟩ := ManyE.slice h3
  obtain ⟨A4, k4, rfl⟩ := ManyE.slice h4
  have hB := ((Below.refl w.heap.size w).alloc (Nat.le_refl _) (.cells #[.int .i64 c.stack, .slice A0 c.starts.length k0, .slice A1 c.accept.length k1, .slice A2 c.call.length k2, .slice A3 c.ret.length k3, .slice A4 c.inner.length k4] 33)).alloc (by simp) (.cells #[.int .i64 0, .slice none 0 0, .slice none 0 0, .slice none 0 0, .slice none 0 0, .slice none 0 0] 33)
  have t1 := (Bx.new w 33 #[.int .i64 c.stack, .slice A0 c.starts.length k0, .slice A1 c.accept.length k1, .slice A2 c.call.length k2, .slice A3 c.ret.length k3, .slice A4 c.inner.length k4]).alloc (.cells #[.int .i64 0, .slice none 0 0, .slice none 0 0, .slice none 0 0, .slice none 0 0, .slice none 0 0] 33)
  have t3 := Bx.new (w.alloc (.cells #[.int .i64 c.stack, .slice A0 c.starts.length k0, .slice A1 c.accept.length k1, .slice A2 c.call.length k2, .slice A3 c.ret.length k3, .slice A4 c.inner.length k4] 33)) 33 #[.int .i64 0, .slice none 0 0, .slice none 0 0, .slice none 0 0, .slice none 0 0, .slice none 0 0]
  simp only [World.size_alloc] at t3
  have hv := spec_l03Ok _ hbc t1 ((ints_ok _).later h0 hB) ((bools_ok _).later h1 hB) ((push3_ok _).later h2 hB) ((ints4_ok _).later h3 hB) ((ints3_ok _).later h4 hB)
  rw [h] at hv
  clear h h0 h1 h2 h3 h4 hbc
  generalize c.stack = s0 at *
  generalize c.starts.length = n0 at *
  generalize c.accept.length = n1 at *
  generalize c.call.length = n2 at *
  generalize c.ret.length = n3 at *
  generalize c.inner.length = n4 at *
  have Hv := Lib.hid hv
  have HT := Lib.hid (And.intro t1 (And.intro t3 hB))
  have hlo : w.heap.size ≤ w.heap.size + 1 := by omega
  clear hv t1 t3 hB
  go_enter Try.func48, Try.ntmps48
  go_wp2_with fail
  refine Hv.out.mono ?_
  rintro e w1 ⟨rfl, hb1⟩
  obtain ⟨t1, t3, hB⟩ := HT.out
  replace t1 := t1.later hb1
  replace t3 := t3.later hb1
  replace hB := hB.trans (hb1.mono hB.size)
  obtain ⟨z0, z1, z2, z3, z4, z5, zl⟩ := id t1.all6
  have u0 := t1.frozen 0
  have u1 := t1.frozen 1
  have u2 := t1.frozen 2
  have u3 := t1.frozen 3
  have u4 := t1.frozen 4
  have u5 := t1.frozen 5
  clear t1 hb1
  have q0 := t3.frozen 0
  have q1 := t3.frozen 1
  have q2 := t3.frozen 2
  have q3 := t3.frozen 3
  have q4 := t3.frozen 4
  have q5 := t3.frozen 5
  obtain ⟨c0, c1, c2, c3, c4, c5, cl⟩ := id t3.all6
  have HH := Lib.hid (And.intro t3 hB)
  clear t3 hB
  go_wp2
  clear c0 c1 c2 c3 c4 c5 cl q0 q1 q2 q3 q4 q5
  obtain ⟨t3, hB⟩ := HH.out
  have x0_ := t3.set 0 (.int .i64 s0)
  have x1_ := x0_.set 1 (.slice A0 n0 k0)
  have x2_ := x1_.set 2 (.slice A1 n1 k1)
  have x3_ := x2_.set 3 (.slice A2 n2 k2)
  have x4_ := x3_.set 4 (.slice A3 n3 k3)
  have x5_ := x4_.set 5 (.slice A4 n4 k4)
  have y0 := x5_.cell 0 (.int .i64 s0) rfl
  have y1 := x5_.cell 1 (.slice A0 n0 k0) rfl
  have y2 := x5_.cell 2 (.slice A1 n1 k1) rfl
  have y3 := x5_.cell 3 (.slice A2 n2 k2) rfl
  have y4 := x5_.cell 4 (.slice A3 n3 k3) rfl
  have y5 := x5_.cell 5 (.slice A4 n4 k4) rfl
  have hBf := ((((((hB.setCell (p := ⟨w.heap.size + 1, 0, none⟩) hlo (.int .i64 s0)).setCell (p := ⟨w.heap.size + 1, 1, none⟩) hlo (.slice A0 n0 k0)).setCell (p := ⟨w.heap.size + 1, 2, none⟩) hlo (.slice A1 n1 k1)).setCell (p := ⟨w.heap.size + 1, 3, none⟩) hlo (.slice A2 n2 k2)).setCell (p := ⟨w.heap.size + 1, 4, none⟩) hlo (.slice A3 n3 k3)).setCell (p := ⟨w.heap.size + 1, 5, none⟩) hlo (.slice A4 n4 k4))
  exact bodyPost_ret (v := .tuple #[.agg #[.int .i64 s0, .slice A0 n0 k0, .slice A1 n1 k1, .slice A2 n2 k2, .slice A3 n3 k3, .slice A4 n4 k4], .int .i64 0]) (by simp [results, Try.results48, go_sem, y0, y1, y2, y3, y4, y5]) rfl ⟨rfl, hBf⟩
set_option maxHeartbeats 3200000 in
set_option maxRecDepth 100000 in
theorem toldH_no {base : Nat} {v : Value} {c : Ch} {bs : List Nat} (w : World) (hbc : BdH c) (hck : ChE base w v c bs) (h : okH c = false) :
    Calls Try.prog 48 #[v] w (TellH nilHV 3 w) := by
  obtain ⟨v0, v1, v2, v3, v4, _, _, _, _, _, rfl, h0, h1, h2, h3, h4, _, _⟩ := hck
  obtain ⟨A0, k0, rfl⟩ := RowE.slice h0
  obtain ⟨A1, k1, rfl⟩ := RowE.slice h1
  obtain ⟨A2, k2, rfl⟩ := ManyE.slice h2
  obtain ⟨A3, k3, rfl⟩ := ManyE.slice h3
  obtain ⟨A4, k4, rfl⟩ := ManyE.slice h4
  have hB := ((Below.refl w.heap.size w).alloc (Nat.le_refl _) (.cells #[.int .i64 c.stack, .slice A0 c.starts.length k0, .slice A1 c.accept.length k1, .slice A2 c.call.length k2, .slice A3 c.ret.length k3, .slice A4 c.inner.length k4] 33)).alloc (by simp) (.cells #[.int .i64 0, .slice none 0 0, .slice none 0 0, .slice none 0 0, .slice none 0 0, .slice none 0 0] 33)
  have t1 := (Bx.new w 33 #[.int .i64 c.stack, .slice A0 c.starts.length k0, .slice A1 c.accept.length k1, .slice A2 c.call.length k2, .slice A3 c.ret.length k3, .slice A4 c.inner.length k4]).alloc (.cells #[.int .i64 0, .slice none 0 0, .slice none 0 0, .slice none 0 0, .slice none 0 0, .slice none 0 0] 33)
  have t3 := Bx.new (w.alloc (.cells #[.int .i64 c.stack, .slice A0 c.starts.length k0, .slice A1 c.accept.length k1, .slice A2 c.call.length k2, .slice A3 c.ret.length k3, .slice A4 c.inner.length k4] 33)) 33 #[.int .i64 0, .slice none 0 0, .slice none 0 0, .slice none 0 0, .slice none 0 0, .slice none 0 0]
  simp only [World.size_alloc] at t3
  have hv := spec_l03Ok _ hbc t1 ((ints_ok _).later h0 hB) ((bools_ok _).later h1 hB) ((push3_ok _).later h2 hB) ((ints4_ok _).later h3 hB) ((ints3_ok _).later h4 hB)
  rw [h] at hv
  clear h h0 h1 h2 h3 h4 hbc
  generalize c.stack = s0 at *
  generalize c.starts.length = n0 at *
  generalize c.accept.length = n1 at *
  generalize c.call.length = n2 at *
  generalize c.ret.length = n3 at *
  generalize c.inner.length = n4 at *
  have Hv := Lib.hid hv
  have HT := Lib.hid (And.intro t1 (And.intro t3 hB))
  have hlo : w.heap.size ≤ w.heap.size + 1 := by omega
  clear hv t1 t3 hB
  go_enter Try.func48, Try.ntmps48
  go_wp2_with fail
  refine Hv.out.mono ?_
  rintro e w1 ⟨rfl, hb1⟩
  obtain ⟨t1, t3, hB⟩ := HT.out
  replace t1 := t1.later hb1
  replace t3 := t3.later hb1
  replace hB := hB.trans (hb1.mono hB.size)
  obtain ⟨z0, z1, z2, z3, z4, z5, zl⟩ := id t1.all6
  have u0 := t1.frozen 0
  have u1 := t1.frozen 1
  have u2 := t1.frozen 2
  have u3 := t1.frozen 3
  have u4 := t1.frozen 4
  have u5 := t1.frozen 5
  clear t1 hb1
  have q0 := t3.frozen 0
  have q1 := t3.frozen 1
  have q2 := t3.frozen 2
  have q3 := t3.frozen 3
  have q4 := t3.frozen 4
  have q5 := t3.frozen 5
  obtain ⟨c0, c1, c2, c3, c4, c5, cl⟩ := id t3.all6
  have HH := Lib.hid (And.intro t3 hB)
  clear t3 hB
  go_wp2
  clear c0 c1 c2 c3 c4 c5 cl q0 q1 q2 q3 q4 q5
  obtain ⟨t3, hB⟩ := HH.out
  have x0_ := t3.set 0 (.int .i64 0)
  have x1_ := x0_.set 1 (.slice none 0 0)
  have x2_ := x1_.set 2 (.slice none 0 0)
  have x3_ := x2_.set 3 (.slice none 0 0)
  have x4_ := x3_.set 4 (.slice none 0 0)
  have x5_ := x4_.set 5 (.slice none 0 0)
  have y0 := x5_.cell 0 (.int .i64 0) rfl
  have y1 := x5_.cell 1 (.slice none 0 0) rfl
  have y2 := x5_.cell 2 (.slice none 0 0) rfl
  have y3 := x5_.cell 3 (.slice none 0 0) rfl
  have y4 := x5_.cell 4 (.slice none 0 0) rfl
  have y5 := x5_.cell 5 (.slice none 0 0) rfl
  have hBf := ((((((hB.setCell (p := ⟨w.heap.size + 1, 0, none⟩) hlo (.int .i64 0)).setCell (p := ⟨w.heap.size + 1, 1, none⟩) hlo (.slice none 0 0)).setCell (p := ⟨w.heap.size + 1, 2, none⟩) hlo (.slice none 0 0)).setCell (p := ⟨w.heap.size + 1, 3, none⟩) hlo (.slice none 0 0)).setCell (p := ⟨w.heap.size + 1, 4, none⟩) hlo (.slice none 0 0)).setCell (p := ⟨w.heap.size + 1, 5, none⟩) hlo (.slice none 0 0))
  exact bodyPost_ret (v := .tuple #[.agg #[.int .i64 0, .slice none 0 0, .slice none 0 0, .slice none 0 0, .slice none 0 0, .slice none 0 0], .int .i64 3]) (by simp [results, Try.results48, go_sem, y0, y1, y2, y3, y4, y5]) rfl ⟨rfl, hBf⟩
theorem ch_base {b b' : Nat} (hb : b' ≤ b) {w : World} {v : Value} {c : Ch} {bs : List Nat} (h : ChE b w v c bs) : ChE b' w v c bs := by
  obtain ⟨v0, v1, v2, v3, v4, b0, b1, b2, b3, b4, rfl, h0, h1, h2, h3, h4, e, hn⟩ := h
  exact ⟨v0, v1, v2, v3, v4, b0, b1, b2, b3, b4, rfl, ints_base hb _ _ _ _ h0, bools_base hb _ _ _ _ h1, pushes3_base hb _ _ _ _ h2, ints4_base hb _ _ _ _ h3, ints3_base hb _ _ _ _ h4, e, hn⟩
set_option maxHeartbeats 6400000 in
set_option maxRecDepth 100000 in
theorem spec_Of_no {base : Nat} {v : Value} {c : Ck} {bs : List Nat} (w : World) (hbc : BdC c) (hck : CkE base w v c bs) (hok : okM c = false) :
    Calls Try.prog 13 #[v] w (PostV ChE nilCh 1 w) := by
  obtain ⟨va, vc, vr, vi, _, _, _, _, rfl, h1, h2, h3, h4, _, _⟩ := hck
  obtain ⟨A1, k1, rfl⟩ := RowE.slice h1
  obtain ⟨A2, k2, rfl⟩ := ManyE.slice h2
  obtain ⟨A3, k3, rfl⟩ := ManyE.slice h3
  obtain ⟨A4, k4, rfl⟩ := ManyE.slice h4
  have hB := ((Below.refl w.heap.size w).alloc (Nat.le_refl _) (.cells #[.int .i64 c.stack, .int .i64 c.start, .slice A1 c.accept.length k1, .slice A2 c.call.length k2, .slice A3 c.ret.length k3, .slice A4 c.inner.length k4] 46)).alloc (by simp) (.cells #[.int .i64 0, .slice none 0 0, .slice none 0 0, .slice none 0 0, .slice none 0 0, .slice none 0 0] 33)
  have t1 := (Bx.new w 46 #[.int .i64 c.stack, .int .i64 c.start, .slice A1 c.accept.length k1, .slice A2 c.call.length k2, .slice A3 c.ret.length k3, .slice A4 c.inner.length k4]).alloc (.cells #[.int .i64 0, .slice none 0 0, .slice none 0 0, .slice none 0 0, .slice none 0 0, .slice none 0 0] 33)
  have t3 := Bx.new (w.alloc (.cells #[.int .i64 c.stack, .int .i64 c.start, .slice A1 c.accept.length k1, .slice A2 c.call.length k2, .slice A3 c.ret.length k3, .slice A4 c.inner.length k4] 46)) 33 #[.int .i64 0, .slice none 0 0, .slice none 0 0, .slice none 0 0, .slice none 0 0, .slice none 0 0]
  simp only [World.size_alloc] at t3
  have hv := spec_l02Ok _ hbc t1 ((bools_ok _).later h1 hB) ((push2_ok _).later h2 hB) ((ints3_ok _).later h3 hB) ((ints2_ok _).later h4 hB)
  rw [hok] at hv
  clear h1 h2 h3 h4 hbc hok
  generalize c.stack = s0 at *
  generalize c.start = s1 at *
  generalize c.accept.length = n1 at *
  generalize c.call.length = n2 at *
  generalize c.ret.length = n3 at *
  generalize c.inner.length = n4 at *
  have Hv := Lib.hid hv
  obtain ⟨W0, hW0⟩ : ∃ W0, W0 = (w.alloc (.cells #[.int .i64 s0, .int .i64 s1, .slice A1 n1 k1, .slice A2 n2 k2, .slice A3 n3 k3, .slice A4 n4 k4] 46)).alloc (.cells #[.int .i64 0, .slice none 0 0, .slice none 0 0, .slice none 0 0, .slice none 0 0, .slice none 0 0] 33) := ⟨_, rfl⟩
  have HW0 := Lib.hid hW0
  have hW0s : W0.heap.size = w.heap.size + 1 + 1 := by rw [hW0]; simp
  have hlo : w.heap.size ≤ w.heap.size + 1 := by omega
  rw [← hW0] at t1 t3 hB Hv
  have HT := Lib.hid (And.intro t1 (And.intro t3 hB))
  clear hv t1 t3 hB hW0
  go_enter Try.func13, Try.ntmps13
  go_upto_region 1 with fail
  rw [← HW0.out]
  clear HW0
  go_wp2_with fail
  refine Hv.out.mono ?_
  rintro e w1 ⟨rfl, hb1⟩
  obtain ⟨t1, t3, hB⟩ := HT.out
  replace t1 := t1.later hb1
  replace t3 := t3.later hb1
  replace hB := hB.trans (hb1.mono hB.size)
  clear t1 hb1
  have q0 := t3.frozen 0
  have q1 := t3.frozen 1
  have q2 := t3.frozen 2
  have q3 := t3.frozen 3
  have q4 := t3.frozen 4
  have q5 := t3.frozen 5
  obtain ⟨c0, c1, c2, c3, c4, c5, cl⟩ := id t3.all6
  have HH := Lib.hid (And.intro t3 hB)
  clear t3 hB
  go_wp2
  clear c0 c1 c2 c3 c4 c5 cl q0 q1 q2 q3 q4 q5
  obtain ⟨t3, hB⟩ := HH.out
  have x0_ := t3.set 0 (.int .i64 0)
  have x1_ := x0_.set 1 (.slice none 0 0)
  have x2_ := x1_.set 2 (.slice none 0 0)
  have x3_ := x2_.set 3 (.slice none 0 0)
  have x4_ := x3_.set 4 (.slice none 0 0)
  have x5_ := x4_.set 5 (.slice none 0 0)
  have y0 := x5_.cell 0 (.int .i64 0) rfl
  have y1 := x5_.cell 1 (.slice none 0 0) rfl
  have y2 := x5_.cell 2 (.slice none 0 0) rfl
  have y3 := x5_.cell 3 (.slice none 0 0) rfl
  have y4 := x5_.cell 4 (.slice none 0 0) rfl
  have y5 := x5_.cell 5 (.slice none 0 0) rfl
  have hBf := ((((((hB.setCell (p := ⟨w.heap.size + 1, 0, none⟩) hlo (.int .i64 0)).setCell (p := ⟨w.heap.size + 1, 1, none⟩) hlo (.slice none 0 0)).setCell (p := ⟨w.heap.size + 1, 2, none⟩) hlo (.slice none 0 0)).setCell (p := ⟨w.heap.size + 1, 3, none⟩) hlo (.slice none 0 0)).setCell (p := ⟨w.heap.size + 1, 4, none⟩) hlo (.slice none 0 0)).setCell (p := ⟨w.heap.size + 1, 5, none⟩) hlo (.slice none 0 0))
  have FIN := nilCh_e w.heap.size ((((((w1.setCell ⟨w.heap.size + 1, 0, none⟩ (.int .i64 0)).setCell ⟨w.heap.size + 1, 1, none⟩ (.slice none 0 0)).setCell ⟨w.heap.size + 1, 2, none⟩ (.slice none 0 0)).setCell ⟨w.heap.size + 1, 3, none⟩ (.slice none 0 0)).setCell ⟨w.heap.size + 1, 4, none⟩ (.slice none 0 0)).setCell ⟨w.heap.size + 1, 5, none⟩ (.slice none 0 0))
  exact bodyPost_ret (v := .tuple #[.agg #[.int .i64 0, .slice none 0 0, .slice none 0 0, .slice none 0 0, .slice none 0 0, .slice none 0 0], .int .i64 1]) (by simp [results, Try.results13, go_sem, y0, y1, y2, y3, y4, y5]) rfl ⟨_, _, rfl, FIN, hBf⟩
set_option maxHeartbeats 6400000 in
set_option maxRecDepth 100000 in
theorem spec_Of_big {base : Nat} {v : Value} {c : Ck} {bs : List Nat} (w : World) (hbc : BdC c) (hck : CkE base w v c bs) (hok : okM c = true) (hoh : okH (chOf c) = false) :
    Calls Try.prog 13 #[v] w (PostV ChE nilCh 3 w) := by
  obtain ⟨va, vc, vr, vi, _, _, _, _, rfl, h1, h2, h3, h4, _, _⟩ := hck
  obtain ⟨ga, ka, gc, kc, gr, kr, gi, ki, rfl, rfl, rfl, rfl⟩ := heads_of h1 h2 h3 h4 (okC_of hok)
  have hB := ((Below.refl w.heap.size w).alloc (Nat.le_refl _) (.cells #[.int .i64 c.stack, .int .i64 c.start, .slice (some ⟨ga, 0, none⟩) c.accept.length ka, .slice (some ⟨gc, 0, none⟩) c.accept.length kc, .slice (some ⟨gr, 0, none⟩) c.accept.length kr, .slice (some ⟨gi, 0, none⟩) c.accept.length ki] 46)).alloc (by simp) (.cells #[.int .i64 0, .slice none 0 0, .slice none 0 0, .slice none 0 0, .slice none 0 0, .slice none 0 0] 33)
  have t1 := (Bx.new w 46 #[.int .i64 c.stack, .int .i64 c.start, .slice (some ⟨ga, 0, none⟩) c.accept.length ka, .slice (some ⟨gc, 0, none⟩) c.accept.length kc, .slice (some ⟨gr, 0, none⟩) c.accept.length kr, .slice (some ⟨gi, 0, none⟩) c.accept.length ki]).alloc (.cells #[.int .i64 0, .slice none 0 0, .slice none 0 0, .slice none 0 0, .slice none 0 0, .slice none 0 0] 33)
  have t3 := Bx.new (w.alloc (.cells #[.int .i64 c.stack, .int .i64 c.start, .slice (some ⟨ga, 0, none⟩) c.accept.length ka, .slice (some ⟨gc, 0, none⟩) c.accept.length kc, .slice (some ⟨gr, 0, none⟩) c.accept.length kr, .slice (some ⟨gi, 0, none⟩) c.accept.length ki] 46)) 33 #[.int .i64 0, .slice none 0 0, .slice none 0 0, .slice none 0 0, .slice none 0 0, .slice none 0 0]
  simp only [World.size_alloc] at t3
  have hv := spec_l02Ok _ hbc t1 ((bools_ok _).later h1 hB) ((push2_ok _).later h2 hB) ((ints3_ok _).later h3 hB) ((ints2_ok _).later h4 hB)
  rw [hok] at hv
  have hokc := okC_of hok
  have HOf := Lib.hid (fun (W : World) (hW : Below w.heap.size w W) (hb : Bx W w.heap.size 46 #[.int .i64 c.stack, .int .i64 c.start, .slice (some ⟨ga, 0, none⟩) c.accept.length ka, .slice (some ⟨gc, 0, none⟩) c.accept.length kc, .slice (some ⟨gr, 0, none⟩) c.accept.length kr, .slice (some ⟨gi, 0, none⟩) c.accept.length ki]) => spec_of W hokc rfl rfl rfl hb ((bools_ok _).later h1 hW) ((push2_ok _).later h2 hW) ((ints3_ok _).later h3 hW) ((ints2_ok _).later h4 hW))
  have HTold := Lib.hid (fun (W : World) (base' : Nat) (v' : Value) (bs' : List Nat) (hE : ChE base' W v' (chOf c) bs') => toldH_no W (bdH_chOf hokc) hE hoh)
  obtain ⟨cc, hcc⟩ : ∃ x, x = chOf c := ⟨_, rfl⟩
  rw [← hcc] at HOf HTold
  clear h1 h2 h3 h4 hbc hok hokc hoh hcc
  generalize c.stack = s0 at *
  generalize c.start = s1 at *
  generalize c.accept.length = n at *
  have Hv := Lib.hid hv
  obtain ⟨W0, hW0⟩ : ∃ W0, W0 = (w.alloc (.cells #[.int .i64 s0, .int .i64 s1, .slice (some ⟨ga, 0, none⟩) n ka, .slice (some ⟨gc, 0, none⟩) n kc, .slice (some ⟨gr, 0, none⟩) n kr, .slice (some ⟨gi, 0, none⟩) n ki] 46)).alloc (.cells #[.int .i64 0, .slice none 0 0, .slice none 0 0, .slice none 0 0, .slice none 0 0, .slice none 0 0] 33) := ⟨_, rfl⟩
  have HW0 := Lib.hid hW0
  have hW0s : W0.heap.size = w.heap.size + 1 + 1 := by rw [hW0]; simp
  have hlo : w.heap.size ≤ w.heap.size + 1 := by omega
  rw [← hW0] at t1 t3 hB Hv
  have HT := Lib.hid (And.intro t1 (And.intro t3 hB))
  clear hv t1 t3 hB hW0
  go_enter Try.func13, Try.ntmps13
  go_upto_region 1 with fail
  rw [← HW0.out]
  clear HW0
  go_wp2_with fail
  refine Hv.out.mono ?_
  rintro e w1 ⟨rfl, hb1⟩
  obtain ⟨t1, t3, hB⟩ := HT.out
  replace t1 := t1.later hb1
  replace t3 := t3.later hb1
  replace hB := hB.trans (hb1.mono hB.size)
  have H1 := Lib.hid (And.intro t3 (And.intro hB hb1))
  have hQ := HOf.out w1 hB t1
  have HQ := Lib.hid hQ
  have hs1 := hb1.size
  clear t1 t3 hB hb1 HOf hQ HT
  go_wp2_with fail
  refine HQ.out.mono ?_
  rintro e w2 ⟨v2, bs2, rfl, hE2, hb2⟩
  have hT2 := HTold.out w2 _ _ _ hE2
  have hlt2 := (choices_ok _).lt hE2
  obtain ⟨B0, p0, j0, B1, p1, j1, B2, p2, j2, B3, p3, j3, B4, p4, j4, rfl⟩ := hE2.form
  have HT2 := Lib.hid hT2
  have HE2 := Lib.hid (And.intro hE2 (And.intro hb2 hlt2))
  clear hT2 hE2 hb2 hlt2 HTold HQ
  go_wp2_with fail
  refine HT2.out.mono ?_
  rintro e w3 ⟨rfl, hb3⟩
  obtain ⟨hE2, hb2, hlt2⟩ := HE2.out
  obtain ⟨t3, hB, hb1⟩ := H1.out
  have hs2 := hb2.size
  replace t3 := (t3.later hb2).later hb3
  replace hB := (hB.trans (hb2.mono hB.size)).trans (hb3.mono (by omega))
  have hE3 := (choices_ok _).later hE2 hb3
  have HF := Lib.hid (And.intro hE3 hlt2)
  clear hE2 hb2 hlt2 hb1 hE3 hb3 HE2 HT2 H1
  unfold nilHV
  have q0 := t3.frozen 0
  have q1 := t3.frozen 1
  have q2 := t3.frozen 2
  have q3 := t3.frozen 3
  have q4 := t3.frozen 4
  have q5 := t3.frozen 5
  obtain ⟨c0, c1, c2, c3, c4, c5, cl⟩ := id t3.all6
  have HH := Lib.hid (And.intro t3 hB)
  clear t3 hB
  go_wp2
  clear c0 c1 c2 c3 c4 c5 cl q0 q1 q2 q3 q4 q5
  obtain ⟨t3, hB⟩ := HH.out
  have x0_ := t3.set 0 (.int .i64 0)
  have x1_ := x0_.set 1 (.slice none 0 0)
  have x2_ := x1_.set 2 (.slice none 0 0)
  have x3_ := x2_.set 3 (.slice none 0 0)
  have x4_ := x3_.set 4 (.slice none 0 0)
  have x5_ := x4_.set 5 (.slice none 0 0)
  have y0 := x5_.cell 0 (.int .i64 0) rfl
  have y1 := x5_.cell 1 (.slice none 0 0) rfl
  have y2 := x5_.cell 2 (.slice none 0 0) rfl
  have y3 := x5_.cell 3 (.slice none 0 0) rfl
  have y4 := x5_.cell 4 (.slice none 0 0) rfl
  have y5 := x5_.cell 5 (.slice none 0 0) rfl
  have hBf := ((((((hB.setCell (p := ⟨w.heap.size + 1, 0, none⟩) hlo (.int .i64 0)).setCell (p := ⟨w.heap.size + 1, 1, none⟩) hlo (.slice none 0 0)).setCell (p := ⟨w.heap.size + 1, 2, none⟩) hlo (.slice none 0 0)).setCell (p := ⟨w.heap.size + 1, 3, none⟩) hlo (.slice none 0 0)).setCell (p := ⟨w.heap.size + 1, 4, none⟩) hlo (.slice none 0 0)).setCell (p := ⟨w.heap.size + 1, 5, none⟩) hlo (.slice none 0 0))
  have FIN := nilCh_e w.heap.size ((((((w3.setCell ⟨w.heap.size + 1, 0, none⟩ (.int .i64 0)).setCell ⟨w.heap.size + 1, 1, none⟩ (.slice none 0 0)).setCell ⟨w.heap.size + 1, 2, none⟩ (.slice none 0 0)).setCell ⟨w.heap.size + 1, 3, none⟩ (.slice none 0 0)).setCell ⟨w.heap.size + 1, 4, none⟩ (.slice none 0 0)).setCell ⟨w.heap.size + 1, 5, none⟩ (.slice none 0 0))
  exact bodyPost_ret (v := .tuple #[.agg #[.int .i64 0, .slice none 0 0, .slice none 0 0, .slice none 0 0, .slice none 0 0, .slice none 0 0], .int .i64 3]) (by simp [results, Try.results13, go_sem, y0, y1, y2, y3, y4, y5]) rfl ⟨_, _, rfl, FIN, hBf⟩
set_option maxHeartbeats 6400000 in
set_option maxRecDepth 100000 in
theorem spec_Of_yes {base : Nat} {v : Value} {c : Ck} {bs : List Nat} (w : World) (hbc : BdC c) (hck : CkE base w v c bs) (hok : okM c = true) (hoh : okH (chOf c) = true) :
    Calls Try.prog 13 #[v] w (PostV ChE (chOf c) 0 w) := by
  obtain ⟨va, vc, vr, vi, _, _, _, _, rfl, h1, h2, h3, h4, _, _⟩ := hck
  obtain ⟨ga, ka, gc, kc, gr, kr, gi, ki, rfl, rfl, rfl, rfl⟩ := heads_of h1 h2 h3 h4 (okC_of hok)
  have hB := ((Below.refl w.heap.size w).alloc (Nat.le_refl _) (.cells #[.int .i64 c.stack, .int .i64 c.start, .slice (some ⟨ga, 0, none⟩) c.accept.length ka, .slice (some ⟨gc, 0, none⟩) c.accept.length kc, .slice (some ⟨gr, 0, none⟩) c.accept.length kr, .slice (some ⟨gi, 0, none⟩) c.accept.length ki] 46)).alloc (by simp) (.cells #[.int .i64 0, .slice none 0 0, .slice none 0 0, .slice none 0 0, .slice none 0 0, .slice none 0 0] 33)
  have t1 := (Bx.new w 46 #[.int .i64 c.stack, .int .i64 c.start, .slice (some ⟨ga, 0, none⟩) c.accept.length ka, .slice (some ⟨gc, 0, none⟩) c.accept.length kc, .slice (some ⟨gr, 0, none⟩) c.accept.length kr, .slice (some ⟨gi, 0, none⟩) c.accept.length ki]).alloc (.cells #[.int .i64 0, .slice none 0 0, .slice none 0 0, .slice none 0 0, .slice none 0 0, .slice none 0 0] 33)
  have t3 := Bx.new (w.alloc (.cells #[.int .i64 c.stack, .int .i64 c.start, .slice (some ⟨ga, 0, none⟩) c.accept.length ka, .slice (some ⟨gc, 0, none⟩) c.accept.length kc, .slice (some ⟨gr, 0, none⟩) c.accept.length kr, .slice (some ⟨gi, 0, none⟩) c.accept.length ki] 46)) 33 #[.int .i64 0, .slice none 0 0, .slice none 0 0, .slice none 0 0, .slice none 0 0, .slice none 0 0]
  simp only [World.size_alloc] at t3
  have hv := spec_l02Ok _ hbc t1 ((bools_ok _).later h1 hB) ((push2_ok _).later h2 hB) ((ints3_ok _).later h3 hB) ((ints2_ok _).later h4 hB)
  rw [hok] at hv
  have hokc := okC_of hok
  have HOf := Lib.hid (fun (W : World) (hW : Below w.heap.size w W) (hb : Bx W w.heap.size 46 #[.int .i64 c.stack, .int .i64 c.start, .slice (some ⟨ga, 0, none⟩) c.accept.length ka, .slice (some ⟨gc, 0, none⟩) c.accept.length kc, .slice (some ⟨gr, 0, none⟩) c.accept.length kr, .slice (some ⟨gi, 0, none⟩) c.accept.length ki]) => spec_of W hokc rfl rfl rfl hb ((bools_ok _).later h1 hW) ((push2_ok _).later h2 hW) ((ints3_ok _).later h3 hW) ((ints2_ok _).later h4 hW))
  have HTold := Lib.hid (fun (W : World) (base' : Nat) (v' : Value) (bs' : List Nat) (hE : ChE base' W v' (chOf c) bs') => toldH_yes W (bdH_chOf hokc) hE hoh)
  obtain ⟨cc, hcc⟩ : ∃ x, x = chOf c := ⟨_, rfl⟩
  rw [← hcc] at HOf HTold ⊢
  clear h1 h2 h3 h4 hbc hok hokc hoh hcc
  generalize c.stack = s0 at *
  generalize c.start = s1 at *
  generalize c.accept.length = n at *
  have Hv := Lib.hid hv
  obtain ⟨W0, hW0⟩ : ∃ W0, W0 = (w.alloc (.cells #[.int .i64 s0, .int .i64 s1, .slice (some ⟨ga, 0, none⟩) n ka, .slice (some ⟨gc, 0, none⟩) n kc, .slice (some ⟨gr, 0, none⟩) n kr, .slice (some ⟨gi, 0, none⟩) n ki] 46)).alloc (.cells #[.int .i64 0, .slice none 0 0, .slice none 0 0, .slice none 0 0, .slice none 0 0, .slice none 0 0] 33) := ⟨_, rfl⟩
  have HW0 := Lib.hid hW0
  have hW0s : W0.heap.size = w.heap.size + 1 + 1 := by rw [hW0]; simp
  have hlo : w.heap.size ≤ w.heap.size + 1 := by omega
  rw [← hW0] at t1 t3 hB Hv
  have HT := Lib.hid (And.intro t1 (And.intro t3 hB))
  clear hv t1 t3 hB hW0
  go_enter Try.func13, Try.ntmps13
  go_upto_region 1 with fail
  rw [← HW0.out]
  clear HW0
  go_wp2_with fail
  refine Hv.out.mono ?_
  rintro e w1 ⟨rfl, hb1⟩
  obtain ⟨t1, t3, hB⟩ := HT.out
  replace t1 := t1.later hb1
  replace t3 := t3.later hb1
  replace hB := hB.trans (hb1.mono hB.size)
  have H1 := Lib.hid (And.intro t3 (And.intro hB hb1))
  have hQ := HOf.out w1 hB t1
  have HQ := Lib.hid hQ
  have hs1 := hb1.size
  clear t1 t3 hB hb1 HOf hQ HT
  go_wp2_with fail
  refine HQ.out.mono ?_
  rintro e w2 ⟨v2, bs2, rfl, hE2, hb2⟩
  have hT2 := HTold.out w2 _ _ _ hE2
  have hlt2 := (choices_ok _).lt hE2
  obtain ⟨B0, p0, j0, B1, p1, j1, B2, p2, j2, B3, p3, j3, B4, p4, j4, rfl⟩ := hE2.form
  have HT2 := Lib.hid hT2
  have HE2 := Lib.hid (And.intro hE2 (And.intro hb2 hlt2))
  clear hT2 hE2 hb2 hlt2 HTold HQ
  go_wp2_with fail
  refine HT2.out.mono ?_
  rintro e w3 ⟨rfl, hb3⟩
  obtain ⟨hE2, hb2, hlt2⟩ := HE2.out
  obtain ⟨t3, hB, hb1⟩ := H1.out
  have hs2 := hb2.size
  replace t3 := (t3.later hb2).later hb3
  replace hB := (hB.trans (hb2.mono hB.size)).trans (hb3.mono (by omega))
  have hE3 := (choices_ok _).later hE2 hb3
  have HF := Lib.hid (And.intro hE3 hlt2)
  clear hE2 hb2 hlt2 hb1 hE3 hb3 HE2 HT2 H1
  have q0 := t3.frozen 0
  have q1 := t3.frozen 1
  have q2 := t3.frozen 2
  have q3 := t3.frozen 3
  have q4 := t3.frozen 4
  have q5 := t3.frozen 5
  obtain ⟨c0, c1, c2, c3, c4, c5, cl⟩ := id t3.all6
  have HH := Lib.hid (And.intro t3 hB)
  clear t3 hB
  go_wp2
  clear c0 c1 c2 c3 c4 c5 cl q0 q1 q2 q3 q4 q5
  obtain ⟨t3, hB⟩ := HH.out
  have x0_ := t3.set 0 (.int .i64 cc.stack)
  have x1_ := x0_.set 1 (.slice B0 p0 j0)
  have x2_ := x1_.set 2 (.slice B1 p1 j1)
  have x3_ := x2_.set 3 (.slice B2 p2 j2)
  have x4_ := x3_.set 4 (.slice B3 p3 j3)
  have x5_ := x4_.set 5 (.slice B4 p4 j4)
  have y0 := x5_.cell 0 (.int .i64 cc.stack) rfl
  have y1 := x5_.cell 1 (.slice B0 p0 j0) rfl
  have y2 := x5_.cell 2 (.slice B1 p1 j1) rfl
  have y3 := x5_.cell 3 (.slice B2 p2 j2) rfl
  have y4 := x5_.cell 4 (.slice B3 p3 j3) rfl
  have y5 := x5_.cell 5 (.slice B4 p4 j4) rfl
  have hBf := ((((((hB.setCell (p := ⟨w.heap.size + 1, 0, none⟩) hlo (.int .i64 cc.stack)).setCell (p := ⟨w.heap.size + 1, 1, none⟩) hlo (.slice B0 p0 j0)).setCell (p := ⟨w.heap.size + 1, 2, none⟩) hlo (.slice B1 p1 j1)).setCell (p := ⟨w.heap.size + 1, 3, none⟩) hlo (.slice B2 p2 j2)).setCell (p := ⟨w.heap.size + 1, 4, none⟩) hlo (.slice B3 p3 j3)).setCell (p := ⟨w.heap.size + 1, 5, none⟩) hlo (.slice B4 p4 j4))
  obtain ⟨hE4, hPlt⟩ := HF.out
  have hE5 := keepE (choices_ok _) hE4 (Below.refl _ _) (B := w.heap.size + 1) (fun b hb => by have := hPlt b hb; omega) 0 (.int .i64 cc.stack)
  have hE6 := keepE (choices_ok _) hE5 (Below.refl _ _) (B := w.heap.size + 1) (fun b hb => by have := hPlt b hb; omega) 1 (.slice B0 p0 j0)
  have hE7 := keepE (choices_ok _) hE6 (Below.refl _ _) (B := w.heap.size + 1) (fun b hb => by have := hPlt b hb; omega) 2 (.slice B1 p1 j1)
  have hE8 := keepE (choices_ok _) hE7 (Below.refl _ _) (B := w.heap.size + 1) (fun b hb => by have := hPlt b hb; omega) 3 (.slice B2 p2 j2)
  have hE9 := keepE (choices_ok _) hE8 (Below.refl _ _) (B := w.heap.size + 1) (fun b hb => by have := hPlt b hb; omega) 4 (.slice B3 p3 j3)
  have hE10 := keepE (choices_ok _) hE9 (Below.refl _ _) (B := w.heap.size + 1) (fun b hb => by have := hPlt b hb; omega) 5 (.slice B4 p4 j4)
  have FIN := ch_base (by omega : w.heap.size ≤ w1.heap.size) hE10
  exact bodyPost_ret (v := .tuple #[.agg #[.int .i64 cc.stack, .slice B0 p0 j0, .slice B1 p1 j1, .slice B2 p2 j2, .slice B3 p3 j3, .slice B4 p4 j4], .int .i64 0]) (by simp [results, Try.results13, go_sem, y0, y1, y2, y3, y4, y5]) rfl ⟨_, _, rfl, FIN, hBf⟩
theorem spec_ChoicesOf (c : Ck) : ∀ base v bs w, BdC c → CkE base w v c bs → Calls Try.prog 13 #[v] w (PostV ChE (if okM c && okH (chOf c) then chOf c else nilCh) (if okM c then (if okH (chOf c) then 0 else 3) else 1) w) := by
  intro base v bs w hbc hck
  cases h : okM c with
  | false => exact spec_Of_no w hbc hck h
  | true =>
    cases h2 : okH (chOf c) with
    | true => exact spec_Of_yes w hbc hck h h2
    | false => exact spec_Of_big w hbc hck h h2
theorem both_ChoicesOf (c : Ck) : ∃ (x0 : Ch) (r1 : Int), BdH x0 ∧
    (∀ base v bs w, BdC c → CkE base w v c bs → Calls Try.prog 13 #[v] w (PostR ChE x0 r1 w)) ∧
    (∀ base v bs w, BdC c → CkE base w v c bs → Calls Try.prog 15 #[v] w (PostV ChE x0 r1 w)) := by
  refine ⟨_, _, ?_, fun base v bs w hbc hck => (spec_ChoicesOf c base v bs w hbc hck).mono ?_, impl_ChoicesOf c⟩
  · cases h : okM c && okH (chOf c) with
    | true =>
      rw [if_pos rfl]
      simp only [Bool.and_eq_true] at h
      exact bdH_chOf (okC_of h.1)
    | false =>
      rw [if_neg (by simp)]
      exact bdH_nil
  · rintro e w' ⟨v', bs', rfl, hE, hb⟩
    exact ⟨v', bs', rfl, ch_base (Nat.zero_le _) hE, hb⟩
end Go.Proofs.Yticmekdfdilcpaa
