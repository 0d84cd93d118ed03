/- GoOn, where nothing is wrong; the model's side. -/
import Derived.Test.YthdjoligopmepabGoOn
namespace Go.Proofs.Ythdjoligopmepab
open Go.RowKit
set_option linter.unusedVariables false

theorem set8_far {W : World} {B b : Nat} (h : b ≠ B) (u0 u1 u2 u3 u4 u5 u6 u7 : Value) :
    ((((((((W.setCell ⟨B, 0, none⟩ u0).setCell ⟨B, 1, none⟩ u1).setCell ⟨B, 2, none⟩ u2).setCell ⟨B, 3, none⟩ u3).setCell ⟨B, 4, none⟩ u4).setCell ⟨B, 5, none⟩ u5).setCell ⟨B, 6, none⟩ u6).setCell ⟨B, 7, none⟩ u7).heap[b]? = W.heap[b]? :=
  (((((((Below.heap_setCell _ _ _ b h).trans (Below.heap_setCell _ _ _ b h)).trans (Below.heap_setCell _ _ _ b h)).trans (Below.heap_setCell _ _ _ b h)).trans (Below.heap_setCell _ _ _ b h)).trans (Below.heap_setCell _ _ _ b h)).trans (Below.heap_setCell _ _ _ b h)).trans (Below.heap_setCell _ _ _ b h)
theorem set8_below {W a : World} {B B0 : Nat} (h : Below B0 a W) (hB : B0 ≤ B) (u0 u1 u2 u3 u4 u5 u6 u7 : Value) :
    Below B0 a ((((((((W.setCell ⟨B, 0, none⟩ u0).setCell ⟨B, 1, none⟩ u1).setCell ⟨B, 2, none⟩ u2).setCell ⟨B, 3, none⟩ u3).setCell ⟨B, 4, none⟩ u4).setCell ⟨B, 5, none⟩ u5).setCell ⟨B, 6, none⟩ u6).setCell ⟨B, 7, none⟩ u7) :=
  (((((((h.setCell (p := ⟨B, 0, none⟩) hB u0).setCell (p := ⟨B, 1, none⟩) hB u1).setCell (p := ⟨B, 2, none⟩) hB u2).setCell (p := ⟨B, 3, none⟩) hB u3).setCell (p := ⟨B, 4, none⟩) hB u4).setCell (p := ⟨B, 5, none⟩) hB u5).setCell (p := ⟨B, 6, none⟩) hB u6).setCell (p := ⟨B, 7, none⟩) hB u7
theorem set8_bx {W : World} {B : Nat} {t : TypeId} {z0 z1 z2 z3 z4 z5 z6 z7 : Value} (h : Bx W B t #[z0, z1, z2, z3, z4, z5, z6, z7]) (u0 u1 u2 u3 u4 u5 u6 u7 : Value) :
    Bx ((((((((W.setCell ⟨B, 0, none⟩ u0).setCell ⟨B, 1, none⟩ u1).setCell ⟨B, 2, none⟩ u2).setCell ⟨B, 3, none⟩ u3).setCell ⟨B, 4, none⟩ u4).setCell ⟨B, 5, none⟩ u5).setCell ⟨B, 6, none⟩ u6).setCell ⟨B, 7, none⟩ u7) B t #[u0, u1, u2, u3, u4, u5, u6, u7] := by
  have h0 : Bx (W.setCell ⟨B, 0, none⟩ u0) B t #[u0, z1, z2, z3, z4, z5, z6, z7] := h.set 0 u0
  have h1 : Bx ((W.setCell ⟨B, 0, none⟩ u0).setCell ⟨B, 1, none⟩ u1) B t #[u0, u1, z2, z3, z4, z5, z6, z7] := h0.set 1 u1
  have h2 : Bx (((W.setCell ⟨B, 0, none⟩ u0).setCell ⟨B, 1, none⟩ u1).setCell ⟨B, 2, none⟩ u2) B t #[u0, u1, u2, z3, z4, z5, z6, z7] := h1.set 2 u2
  have h3 : Bx ((((W.setCell ⟨B, 0, none⟩ u0).setCell ⟨B, 1, none⟩ u1).setCell ⟨B, 2, none⟩ u2).setCell ⟨B, 3, none⟩ u3) B t #[u0, u1, u2, u3, z4, z5, z6, z7] := h2.set 3 u3
  have h4 : Bx (((((W.setCell ⟨B, 0, none⟩ u0).setCell ⟨B, 1, none⟩ u1).setCell ⟨B, 2, none⟩ u2).setCell ⟨B, 3, none⟩ u3).setCell ⟨B, 4, none⟩ u4) B t #[u0, u1, u2, u3, u4, z5, z6, z7] := h3.set 4 u4
  have h5 : Bx ((((((W.setCell ⟨B, 0, none⟩ u0).setCell ⟨B, 1, none⟩ u1).setCell ⟨B, 2, none⟩ u2).setCell ⟨B, 3, none⟩ u3).setCell ⟨B, 4, none⟩ u4).setCell ⟨B, 5, none⟩ u5) B t #[u0, u1, u2, u3, u4, u5, z6, z7] := h4.set 5 u5
  have h6 : Bx (((((((W.setCell ⟨B, 0, none⟩ u0).setCell ⟨B, 1, none⟩ u1).setCell ⟨B, 2, none⟩ u2).setCell ⟨B, 3, none⟩ u3).setCell ⟨B, 4, none⟩ u4).setCell ⟨B, 5, none⟩ u5).setCell ⟨B, 6, none⟩ u6) B t #[u0, u1, u2, u3, u4, u5, u6, z7] := h5.set 6 u6
  have h7 : Bx ((((((((W.setCell ⟨B, 0, none⟩ u0).setCell ⟨B, 1, none⟩ u1).setCell ⟨B, 2, none⟩ u2).setCell ⟨B, 3, none⟩ u3).setCell ⟨B, 4, none⟩ u4).setCell ⟨B, 5, none⟩ u5).setCell ⟨B, 6, none⟩ u6).setCell ⟨B, 7, none⟩ u7) B t #[u0, u1, u2, u3, u4, u5, u6, u7] := h6.set 7 u7
  exact h7

section
variable {base base' : Nat} {va vc vr vi : Value} {c : Ck} {bsC : List Nat} {u : Value} {xs : List Int} {cs : List Nat}
set_option maxHeartbeats 6400000 in
set_option maxRecDepth 100000 in
theorem impl_GoOn_yes (st : Int) (s : ByteArray) (w : World) (hbd : BdC c) (hck : CkE base w (.agg #[.int .i64 c.stack, .int .i64 c.start, va, vc, vr, vi]) c bsC) (hE : IntsE base' w u xs cs) (hn : xs.length ≤ 1048576) (h : GivenM c s) (hr : rngM c st xs = true) :
    Calls Try.prog 13 #[.agg #[.int .i64 c.stack, .int .i64 c.start, va, vc, vr, vi], .int .i64 st, u, .string s] w (PostIV IntsE (goM c (st, xs) (symL s.data.toList)).1 (goM c (st, xs) (symL s.data.toList)).2 0 w) := by
  have hc := okC_of h.2
  have h40 := hc.n2
  have hw := h.1
  have h60 := h.1.1
  have hstm := rngM_st hc hr
  have hx60 := hstm.2
  have hB0 := (Below.refl w.heap.size w).alloc (Nat.le_refl _) (.cells #[.int .i64 c.stack, .int .i64 c.start, va, vc, vr, vi] 34)
  have hbx := Box6.new w (.int .i64 c.stack) (.int .i64 c.start) va vc vr vi 34
  have hfor := impl_for_yes s _ hbd ((ck_ok _).later hck hB0) h
  have hall := fun (W : World) (hW : Below w.heap.size w W) => impl_all c.stack W (show Bd1 xs from hn) ((ints_ok _).later hE hW)
  have hclo := fun (W : World) (hW : Below w.heap.size w W) => impl_clone W (show Bd1 xs from hn) ((ints_ok _).later hE hW)
  have hra := fun (W W2 : World) (B' g : Nat) (hW : Below w.heap.size w W) (b : Nat) (hsy : W.ownsRow b 91 1 (.slice (some ⟨g, 0, none⟩) s.size s.size) s.size (symsV (symL s.data.toList))) hr =>
    impl_readAll (B := B') (p := (st, xs)) W2 ((ck_ok _).later hck hW) hc hstm.1 (by simp only; omega) h60 hsy (symL_ok hw.2) hr
  obtain ⟨_, _, _, _, b1, b2, b3, b4, hv, g1, g2, g3, g4, _, _⟩ := id hck
  simp only [Value.agg.injEq, Array.mk.injEq, List.cons.injEq, and_true, true_and] at hv
  obtain ⟨rfl, rfl, rfl, rfl⟩ := hv
  obtain ⟨A, ka, rfl⟩ := RowE.slice g1
  obtain ⟨B, kb, rfl⟩ := ManyE.slice g2
  obtain ⟨R, kr, rfl⟩ := ManyE.slice g3
  obtain ⟨I, ki, rfl⟩ := ManyE.slice g4
  obtain ⟨S, ks, rfl⟩ := RowE.slice hE
  obtain ⟨n, hna⟩ : ∃ n, n = c.accept.length := ⟨_, rfl⟩
  obtain ⟨L, hL⟩ : ∃ L, L = xs.length := ⟨_, rfl⟩
  obtain ⟨nb, hnb⟩ : ∃ n, n = c.call.length := ⟨_, rfl⟩
  obtain ⟨nr, hnr⟩ : ∃ n, n = c.ret.length := ⟨_, rfl⟩
  obtain ⟨ni, hni⟩ : ∃ n, n = c.inner.length := ⟨_, rfl⟩
  obtain ⟨t0, ht0⟩ : ∃ t, t = c.stack := ⟨_, rfl⟩
  obtain ⟨t1, ht1⟩ : ∃ t, t = c.start := ⟨_, rfl⟩
  rw [rngM, ← hna, ← hL, Bool.and_eq_true, Bool.and_eq_true, decide_eq_true_eq] at hr
  obtain ⟨k1, k2, k3⟩ := hr
  rw [k3] at hall
  rw [← hna, ← hnb, ← hnr, ← hni, ← ht0, ← ht1] at hfor hB0 hbx ⊢
  rw [← hL, ← ht0] at hall
  rw [← hna, ← hnb, ← hnr, ← hni] at hra
  rw [← hL] at hclo ⊢
  have hin := fun W => impl_below (x := st) (n := (n : Int)) W
  rw [k1] at hin
  obtain ⟨Q, hQ⟩ : ∃ Q, Q = goM c (st, xs) (symL s.data.toList) := ⟨_, rfl⟩
  rw [← hQ] at hra ⊢
  have Hfor := Lib.hid hfor
  have HB0 := Lib.hid hB0
  have Hall := Lib.hid hall
  have Hclo := Lib.hid hclo
  have Hra := Lib.hid hra
  have Hin := Lib.hid hin
  have Ht := Lib.hid (And.intro ht0 ht1)
  clear hfor hB0 hall hclo hra hin hck hbd h hc g1 g2 g3 g4 hE hna hnb hnr hni hL ht0 ht1 hQ k1 k3 hstm hw
  obtain ⟨e0, e1, e2, e3, e4, e5, el⟩ := id hbx
  go_enter Try.func13, Try.ntmps13
  go_wp2_with fail
  refine Hfor.out.mono ?_
  rintro e w1 ⟨g, M, rfl, hsy, hps, hb1⟩
  have hA := HB0.out.trans (hb1.mono HB0.out.size)
  have hn1 := (Below.refl w1.heap.size w1).alloc (Nat.le_refl _) (.cells #[.slice (some ⟨g, 0, none⟩) s.size s.size, .slice (some ⟨M, 0, none⟩) s.size s.size] 69)
  have hA2 := hA.alloc hA.size (.cells #[.slice (some ⟨g, 0, none⟩) s.size s.size, .slice (some ⟨M, 0, none⟩) s.size s.size] 69)
  have hbx1 := (hbx.later hb1).later hn1
  have hN := Bx.new w1 69 #[.slice (some ⟨g, 0, none⟩) s.size s.size, .slice (some ⟨M, 0, none⟩) s.size s.size]
  have Hsy := Lib.hid (row_below hsy hn1)
  clear e0 e1 e2 e3 e4 e5 el hsy hps hn1
  obtain ⟨e0, e1, e2, e3, e4, e5, el⟩ := id hbx1
  go_wp2_with fail
  refine (impl_count _ _ _ _ _ _ _ _ _ _ _ _ _ _ _).mono ?_
  rintro e w2 ⟨rfl, hb2⟩
  have hA3 := hA2.trans (hb2.mono hA2.size)
  have hbx2 := hbx1.later hb2
  have hN2 := hN.later hb2
  have Hsy2 := Lib.hid (row_below Hsy.out hb2)
  clear e0 e1 e2 e3 e4 e5 el hbx1 hN Hsy
  obtain ⟨e0, e1, e2, e3, e4, e5, el⟩ := id hbx2
  go_wp2_with fail
  refine (Hin.out _).mono ?_
  rintro e w3 ⟨rfl, rfl⟩
  go_wp2_with fail
  refine (Hall.out _ hA3).mono ?_
  rintro e w3 ⟨rfl, rfl⟩
  have hR := Below.refl w2.heap.size w2
  have hz2 := hA3.size
  go_upto_region 6 with fail
  go_cut [13] (fun s13 wx => ∃ B', s13 = .pointer (some ⟨B', 0, none⟩) ∧ RunAt w2 B' c (.slice A n ka) (.slice B nb kb) (.slice R nr kr) (.slice I ni ki) (st, xs) wx)
  case first =>
    go_region_with (go_at_call 50
                    refine (Hclo.out _ (by first | exact hA3.drew | exact hA3 | exact (hA3.alloc hz2 _).drew | exact hA3.alloc hz2 _)).mono ?_
                    rintro e w4 ⟨v4, bs4, rfl, hE4, hb4⟩
                    have hw4 : Below w2.heap.size w2 w4 := by first | exact hb4 | exact hR.drew.trans (hb4.mono hR.drew.size) | exact ((hR.alloc hR.size _).drew).trans (hb4.mono (by simp)) | exact (hR.alloc hR.size _).trans (hb4.mono (by simp))
                    have hE5 : IntsE w2.heap.size w4 v4 xs bs4 := ⟨row_base hE4.1 (by first | exact Nat.le_refl _ | simp), hE4.2⟩
                    first
                      | (have hzz : Bx w4 w2.heap.size 76 #[.int .i64 0, .int .i64 0, .slice none 0 0, .slice none 0 0, .slice none 0 0, .slice none 0 0, .int .i64 0, .slice none 0 0] := (hb4.block w2.heap.size (by simp)).trans (Bx.new w2 _ _)
                         have q0 : w4.cell? ⟨w2.heap.size, 0, none⟩ = some (.int .i64 0) := hzz.cell 0 _ rfl
                         have q1 : w4.cell? ⟨w2.heap.size, 1, none⟩ = some (.int .i64 0) := hzz.cell 1 _ rfl
                         have q2 : w4.cell? ⟨w2.heap.size, 2, none⟩ = some (.slice none 0 0) := hzz.cell 2 _ rfl
                         have q3 : w4.cell? ⟨w2.heap.size, 3, none⟩ = some (.slice none 0 0) := hzz.cell 3 _ rfl
                         have q4 : w4.cell? ⟨w2.heap.size, 4, none⟩ = some (.slice none 0 0) := hzz.cell 4 _ rfl
                         have q5 : w4.cell? ⟨w2.heap.size, 5, none⟩ = some (.slice none 0 0) := hzz.cell 5 _ rfl
                         have q6 : w4.cell? ⟨w2.heap.size, 6, none⟩ = some (.int .i64 0) := hzz.cell 6 _ rfl
                         have q7 : w4.cell? ⟨w2.heap.size, 7, none⟩ = some (.slice none 0 0) := hzz.cell 7 _ rfl
                         have f0 := hzz.frozen 0
                         have f1 := hzz.frozen 1
                         have f2 := hzz.frozen 2
                         have f3 := hzz.frozen 3
                         have f4 := hzz.frozen 4
                         have f5 := hzz.frozen 5
                         have f6 := hzz.frozen 6
                         have f7 := hzz.frozen 7)
                      | skip
                    obtain ⟨A4, k4, rfl⟩ := RowE.slice hE5
                    obtain ⟨y0, y1, y2, y3, y4, y5, yl⟩ := id (hbx2.later hw4))
    all_goals
      go_wp2_with fail
      go_meet
      have HA : RunAt w2 w4.heap.size c (.slice A n ka) (.slice B nb kb) (.slice R nr kr) (.slice I ni ki) (st, xs) (w4.alloc (.cells #[.int .i64 t0, .int .i64 t1, .slice A n ka, .slice B nb kb, .slice R nr kr, .slice I ni ki, .int .i64 st, .slice A4 xs.length k4] 76)) := by
        refine ⟨.slice A4 xs.length k4, bs4, ?_, (ints_ok _).later hE5 ((Below.refl _ _).alloc (Nat.le_refl _) _), hw4.alloc hw4.size _, hw4.size⟩
        rw [← Ht.out.1, ← Ht.out.2]
        exact Bx.new w4 _ _
      first
        | (with_reducible exact ⟨w4.heap.size, rfl, HA⟩)
        | (have HB : RunAt w2 w2.heap.size c (.slice A n ka) (.slice B nb kb) (.slice R nr kr) (.slice I ni ki) (st, xs) ((((((((w4.setCell ⟨w2.heap.size, 0, none⟩ (.int .i64 t0)).setCell ⟨w2.heap.size, 1, none⟩ (.int .i64 t1)).setCell ⟨w2.heap.size, 2, none⟩ (.slice A n ka)).setCell ⟨w2.heap.size, 3, none⟩ (.slice B nb kb)).setCell ⟨w2.heap.size, 4, none⟩ (.slice R nr kr)).setCell ⟨w2.heap.size, 5, none⟩ (.slice I ni ki)).setCell ⟨w2.heap.size, 6, none⟩ (.int .i64 st)).setCell ⟨w2.heap.size, 7, none⟩ (.slice A4 xs.length k4)) := by
             refine ⟨.slice A4 xs.length k4, bs4, ?_, (ints_ok _).kept hE5 fun b hbb => set8_far (RowE.off_bx hE5 hzz (by decide) b hbb) _ _ _ _ _ _ _ _, set8_below hw4 (Nat.le_refl _) _ _ _ _ _ _ _ _, Nat.le_refl _⟩
             rw [← Ht.out.1, ← Ht.out.2]
             exact set8_bx hzz _ _ _ _ _ _ _ _
           with_reducible exact ⟨w2.heap.size, rfl, HB⟩)
  case rest =>
    obtain ⟨B', rfl, hRun⟩ := hcut
    have hb5 : Below w2.heap.size w2 wc := by obtain ⟨_, _, _, _, h, _⟩ := hRun; exact h
    have n0 : wc.cell? ⟨w1.heap.size, 0, none⟩ = some (.slice (some ⟨g, 0, none⟩) s.size s.size) := (hN2.later hb5).cell 0 _ rfl
    have Hq := Lib.hid (Hra.out w2 wc B' g hA3 _ Hsy2.out hRun)
    clear hRun e0 e1 e2 e3 e4 e5 el
    go_wp2_with fail
    refine Hq.out.mono ?_
    rintro e w6 ⟨rfl, vs6, bs6, hb6, hE6, hB6, _⟩
    have s6 : w6.cell? ⟨B', 6, none⟩ = some (.int .i64 Q.1) := hb6.cell 6 _ rfl
    have s7 : w6.cell? ⟨B', 7, none⟩ = some vs6 := hb6.cell 7 _ rfl
    have hA6 := hA3.trans (hB6.mono hA3.size)
    have He := Lib.hid hE6
    clear hb6 hE6 hB6
    go_wp2
    go_quiet (fail)
    go_wp2
    go_ret3
    exact ⟨vs6, bs6, rfl, (ints_ok _).drewN ⟨row_base He.out.1 hz2, He.out.2⟩ _, below_drewN hA6 _⟩

set_option maxHeartbeats 1600000 in
set_option maxRecDepth 100000 in
theorem spec_GoOn_no (st : Int) (s : ByteArray) (w : World) (hs : s.size ≤ 1048576) (hbd : BdC c) (hck : CkE base w (.agg #[.int .i64 c.stack, .int .i64 c.start, va, vc, vr, vi]) c bsC) (hE : IntsE base' w u xs cs) (h : ¬ GivenM c s) :
    Calls Try.prog 10 #[.agg #[.int .i64 c.stack, .int .i64 c.start, va, vc, vr, vi], .int .i64 st, u, .string s] w (PostIR IntsE 0 [] 1 w) := by
  have hB0 := (Below.refl w.heap.size w).alloc (Nat.le_refl _) (.cells #[.int .i64 c.stack, .int .i64 c.start, va, vc, vr, vi] 34)
  have hbx := Box6.new w (.int .i64 c.stack) (.int .i64 c.start) va vc vr vi 34
  have hck1 := (ck_ok _).later hck hB0
  have H1 := Lib.hid (spec_given_no _ s _ hs hbd hck1 hbx h)
  have HB0 := Lib.hid hB0
  obtain ⟨A, ca, rfl⟩ := RowE.slice hE
  clear hck hbd h hB0 hbx hck1 hE
  go_enter Try.func10, Try.ntmps10
  go_wp2_with fail
  refine H1.out.mono ?_
  rintro e w1 ⟨rfl, m, rfl⟩
  have hA := below_drewN HB0.out m
  obtain ⟨Wd, hWd⟩ : ∃ W, W = (w.alloc (.cells #[.int .i64 c.stack, .int .i64 c.start, va, vc, vr, vi] 34)).drewN m := ⟨_, rfl⟩
  rw [← hWd] at hA ⊢
  clear hWd
  have HN := Lib.hid (ints_new Wd).2
  go_wp2
  go_ret3
  exact ⟨.slice (some ⟨Wd.heap.size, 0, none⟩) 0 0, [Wd.heap.size], rfl, ⟨row_base HN.out (Nat.zero_le _), rfl⟩, hA.alloc hA.size _⟩

set_option maxHeartbeats 6400000 in
set_option maxRecDepth 100000 in
theorem spec_GoOn_in (st : Int) (s : ByteArray) (w : World) (hbd : BdC c) (hck : CkE base w (.agg #[.int .i64 c.stack, .int .i64 c.start, va, vc, vr, vi]) c bsC) (hE : IntsE base' w u xs cs) (hn : xs.length ≤ 1048576) (h : GivenM c s) :
    Calls Try.prog 10 #[.agg #[.int .i64 c.stack, .int .i64 c.start, va, vc, vr, vi], .int .i64 st, u, .string s] w
      (PostIR IntsE (if rngM c st xs then (goM c (st, xs) (symL s.data.toList)).1 else 0) (if rngM c st xs then (goM c (st, xs) (symL s.data.toList)).2 else []) (if rngM c st xs then 0 else 2) w) := by
  have hc := okC_of h.2
  have h40 := hc.n2
  have h80 := hc.st2
  have h1 := hc.st1
  have hB0 := (Below.refl w.heap.size w).alloc (Nat.le_refl _) (.cells #[.int .i64 c.stack, .int .i64 c.start, va, vc, vr, vi] 34)
  have hbx := Box6.new w (.int .i64 c.stack) (.int .i64 c.start) va vc vr vi 34
  have hck1 := (ck_ok _).later hck hB0
  have H1 := Lib.hid (spec_given_yes _ s _ hbd hck1 hbx h)
  have hlist := fun (W : World) (hW : Below w.heap.size w W) => spec_list (xs.length : Int) c.stack W (show Bd1 xs from hn) (by omega) ((ints_ok _).later hE hW)
  rw [show listB xs (xs.length : Int) c.stack = allB xs c.stack from by simp [listB]] at hlist
  have hown := fun (W : World) (hW : Below w.heap.size w W) => spec_own W (show Bd1 xs from hn) ((ints_ok _).later hE hW)
  have hin := fun W => spec_in (x := st) (n := (c.accept.length : Int)) W
  have hgo := fun (hr : rngM c st xs = true) (W : World) (hW : Below w.heap.size w W) (hb : Box6 W w.heap.size (.int .i64 c.stack) (.int .i64 c.start) va vc vr vi) (v : Value) (bs : List Nat) (b' : Nat) (hv : IntsE b' W v xs bs) =>
    spec_go (C := w.heap.size) (p := (st, xs)) (s := s) W ((ck_ok _).later hck hW) hb hc (rngM_st hc hr).1 (by have := (rngM_st hc hr).2; simp only; omega) h.1 hv
  obtain ⟨_, _, _, _, b1, b2, b3, b4, hv, g1, g2, g3, g4, _, _⟩ := id hck
  simp only [Value.agg.injEq, Array.mk.injEq, List.cons.injEq, and_true, true_and] at hv
  obtain ⟨rfl, rfl, rfl, rfl⟩ := hv
  obtain ⟨A, ka, rfl⟩ := RowE.slice g1
  obtain ⟨S, ks, rfl⟩ := RowE.slice hE
  have HB0 := Lib.hid hB0
  have Hbx := Lib.hid hbx
  have Hown := Lib.hid hown
  have Hgo := Lib.hid hgo
  have hrd : rngM c st xs = (inB st c.accept.length && (decide (xs.length ≤ 60) && allB xs c.stack)) := rfl
  obtain ⟨n, hna⟩ : ∃ n, n = c.accept.length := ⟨_, rfl⟩
  obtain ⟨L, hL⟩ : ∃ L, L = xs.length := ⟨_, rfl⟩
  obtain ⟨t0, ht0⟩ : ∃ t, t = c.stack := ⟨_, rfl⟩
  obtain ⟨t1, ht1⟩ : ∃ t, t = c.start := ⟨_, rfl⟩
  obtain ⟨Q, hQ⟩ : ∃ Q, Q = goM c (st, xs) (symL s.data.toList) := ⟨_, rfl⟩
  rw [← hna, ← hL, ← ht0] at hrd
  rw [← hna, ← ht0, ← ht1] at Hbx Hgo HB0 H1 ⊢
  rw [← hna] at hin h40
  rw [← hL, ← ht0] at hlist
  rw [← hL] at Hown hn ⊢
  rw [← hQ] at Hgo ⊢
  have h40' : n ≤ 40 := h40
  clear hB0 hck hbd h hc hbx hck1 hown hgo g1 g2 g3 g4 hE hna hL ht0 ht1 hQ h80 h1
  generalize rngM c st xs = r at hrd Hgo ⊢
  cases k1 : inB st (n : Int) with
  | false =>
    rw [k1, Bool.false_and] at hrd
    subst hrd
    rw [k1] at hin
    have Hin := Lib.hid hin
    clear hin k1 hlist
    go_enter Try.func10, Try.ntmps10
    go_wp2_with fail
    refine H1.out.mono ?_
    rintro e w1 ⟨rfl, m, rfl⟩
    have hA := below_drewN HB0.out m
    have e2 := (Hbx.out.same (W' := (w.alloc (.cells #[.int .i64 t0, .int .i64 t1, .slice A n ka, vc, vr, vi] 34)).drewN m) rfl).c2
    obtain ⟨Wd, hWd⟩ : ∃ W, W = (w.alloc (.cells #[.int .i64 t0, .int .i64 t1, .slice A n ka, vc, vr, vi] 34)).drewN m := ⟨_, rfl⟩
    rw [← hWd] at hA e2 ⊢
    clear hWd
    have HN := Lib.hid (ints_new Wd).2
    go_wp2_with fail
    refine (Hin.out _).mono ?_
    rintro e w3 ⟨rfl, rfl⟩
    go_wp2
    go_ret3
    exact ⟨.slice (some ⟨Wd.heap.size, 0, none⟩) 0 0, [Wd.heap.size], rfl, ⟨row_base HN.out (Nat.zero_le _), rfl⟩, hA.alloc hA.size _⟩
  | true =>
    rw [k1, Bool.true_and] at hrd
    rw [k1] at hin
    have Hin := Lib.hid hin
    clear hin k1
    by_cases k2 : L ≤ 60
    · rw [decide_eq_true k2, Bool.true_and] at hrd
      rw [← hrd] at hlist
      have Hlist := Lib.hid hlist
      clear hlist
      cases hr : r with
      | false =>
        subst hr
        clear hrd
        go_enter Try.func10, Try.ntmps10
        go_wp2_with fail
        refine H1.out.mono ?_
        rintro e w1 ⟨rfl, m, rfl⟩
        have hA := below_drewN HB0.out m
        have hbd := Hbx.out.same (W' := (w.alloc (.cells #[.int .i64 t0, .int .i64 t1, .slice A n ka, vc, vr, vi] 34)).drewN m) rfl
        obtain ⟨Wd, hWd⟩ : ∃ W, W = (w.alloc (.cells #[.int .i64 t0, .int .i64 t1, .slice A n ka, vc, vr, vi] 34)).drewN m := ⟨_, rfl⟩
        rw [← hWd] at hA hbd ⊢
        clear hWd
        have e2 := hbd.c2
        have e0 := hbd.c0
        have HN := Lib.hid (ints_new Wd).2
        go_wp2_with fail
        refine (Hin.out _).mono ?_
        rintro e w3 ⟨rfl, rfl⟩
        go_wp2_with fail
        refine (Hlist.out _ hA).mono ?_
        rintro e w3 ⟨rfl, rfl⟩
        go_wp2
        go_ret3
        exact ⟨.slice (some ⟨Wd.heap.size, 0, none⟩) 0 0, [Wd.heap.size], rfl, ⟨row_base HN.out (Nat.zero_le _), rfl⟩, hA.alloc hA.size _⟩
      | true =>
        subst hr
        clear hrd
        go_enter Try.func10, Try.ntmps10
        go_wp2_with fail
        refine H1.out.mono ?_
        rintro e w1 ⟨rfl, m, rfl⟩
        have hA := below_drewN HB0.out m
        have hbd := Hbx.out.same (W' := (w.alloc (.cells #[.int .i64 t0, .int .i64 t1, .slice A n ka, vc, vr, vi] 34)).drewN m) rfl
        obtain ⟨Wd, hWd⟩ : ∃ W, W = (w.alloc (.cells #[.int .i64 t0, .int .i64 t1, .slice A n ka, vc, vr, vi] 34)).drewN m := ⟨_, rfl⟩
        rw [← hWd] at hA hbd ⊢
        clear hWd
        have e2 := hbd.c2
        have e0 := hbd.c0
        go_wp2_with fail
        refine (Hin.out _).mono ?_
        rintro e w3 ⟨rfl, rfl⟩
        go_wp2_with fail
        refine (Hlist.out _ hA).mono ?_
        rintro e w3 ⟨rfl, rfl⟩
        go_wp2_with fail
        refine (Hown.out _ hA).mono ?_
        rintro e w4 ⟨v4, bs4, rfl, hE4, hb4⟩
        have hA4 := hA.trans (hb4.mono hA.size)
        have Hq := Lib.hid (Hgo.out (by first | rfl | trivial) w4 hA4 (hbd.later hb4) _ _ _ hE4)
        clear hE4
        go_wp2_with fail
        refine Hq.out.mono ?_
        rintro e w5 ⟨v5, bs5, rfl, hE5, hb5, _⟩
        have hA5 := hA4.trans (hb5.mono hA4.size)
        have He := Lib.hid hE5
        clear hE5
        go_wp2
        go_ret3
        exact ⟨v5, bs5, rfl, He.out, hA5⟩
    · have k3 : 60 < L := by omega
      rw [decide_eq_false k2, Bool.false_and] at hrd
      subst hrd
      clear k2 hlist
      go_enter Try.func10, Try.ntmps10
      go_wp2_with fail
      refine H1.out.mono ?_
      rintro e w1 ⟨rfl, m, rfl⟩
      have hA := below_drewN HB0.out m
      have e2 := (Hbx.out.same (W' := (w.alloc (.cells #[.int .i64 t0, .int .i64 t1, .slice A n ka, vc, vr, vi] 34)).drewN m) rfl).c2
      obtain ⟨Wd, hWd⟩ : ∃ W, W = (w.alloc (.cells #[.int .i64 t0, .int .i64 t1, .slice A n ka, vc, vr, vi] 34)).drewN m := ⟨_, rfl⟩
      rw [← hWd] at hA e2 ⊢
      clear hWd
      have HN := Lib.hid (ints_new Wd).2
      go_wp2_with fail
      refine (Hin.out _).mono ?_
      rintro e w3 ⟨rfl, rfl⟩
      go_wp2
      go_ret3
      exact ⟨.slice (some ⟨Wd.heap.size, 0, none⟩) 0 0, [Wd.heap.size], rfl, ⟨row_base HN.out (Nat.zero_le _), rfl⟩, hA.alloc hA.size _⟩
end
theorem both_GoOn (c : Ck) (st : Int) (xs : List Int) (s : ByteArray) (hn : xs.length ≤ 1048576) (hs : s.size ≤ 1048576) : ∃ (r0 : Int) (r1 : List Int) (r2 : Int), r1.length ≤ 100000 ∧
    (∀ base v bs base' u cs w, BdC c → CkE base w v c bs → IntsE base' w u xs cs → Calls Try.prog 10 #[v, .int .i64 st, u, .string s] w (PostIR IntsE r0 r1 r2 w)) ∧
    (∀ base v bs base' u cs w, BdC c → CkE base w v c bs → IntsE base' w u xs cs → Calls Try.prog 13 #[v, .int .i64 st, u, .string s] w (PostIV IntsE r0 r1 r2 w)) := by
  by_cases h : GivenM c s
  · cases hr : rngM c st xs with
    | true =>
      refine ⟨(goM c (st, xs) (symL s.data.toList)).1, (goM c (st, xs) (symL s.data.toList)).2, 0, ?_, fun base v bs base' u cs w hbd hck hE => ?_, fun base v bs base' u cs w hbd hck hE => ?_⟩
      · have h1 := go_len c (symL s.data.toList) (st, xs)
        rw [symL_len] at h1
        have h2 : s.data.toList.length = s.size := by simp
        have h3 := h.1.1
        have h4 := (rngM_st (okC_of h.2) hr).2
        simp only at h1
        omega
      · obtain ⟨va, vc, vr, vi, rfl⟩ := hck.agg
        have := spec_GoOn_in st s w hbd hck hE hn h
        simp only [hr, if_true] at this
        exact this
      · obtain ⟨va, vc, vr, vi, rfl⟩ := hck.agg
        exact impl_GoOn_yes st s w hbd hck hE hn h hr
    | false =>
      refine ⟨0, [], 2, by simp, fun base v bs base' u cs w hbd hck hE => ?_, fun base v bs base' u cs w hbd hck hE => ?_⟩
      · obtain ⟨va, vc, vr, vi, rfl⟩ := hck.agg
        have := spec_GoOn_in st s w hbd hck hE hn h
        simp only [hr, Bool.false_eq_true, if_false] at this
        exact this
      · obtain ⟨va, vc, vr, vi, rfl⟩ := hck.agg
        exact impl_GoOn_rng st s w hbd hck hE hn h hr
  · refine ⟨0, [], 1, by simp, fun base v bs base' u cs w hbd hck hE => ?_, fun base v bs base' u cs w hbd hck hE => ?_⟩
    · obtain ⟨va, vc, vr, vi, rfl⟩ := hck.agg
      exact spec_GoOn_no st s w hs hbd hck hE h
    · obtain ⟨va, vc, vr, vi, rfl⟩ := hck.agg
      exact impl_GoOn_no st s w hs hbd hck hE h
end Go.Proofs.Ythdjoligopmepab
