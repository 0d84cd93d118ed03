/- Streams that own their memory, and the laws' own functions on them. -/
import Derived.Test.YtadifihblaalpaaStrs
namespace Go.Proofs.Ytadifihblaalpaa
open Go.RowKit Go.ChangeShapes Go.WideShapes Go.Deep
set_option linter.unusedVariables false

structure Sm where
  checker : Ck
  pieces : List ByteArray
def SmE (base : Nat) : EP Sm := fun w v c bs => ∃ va vc vr vi vp b0 b1, v = .agg #[.int .i64 c.checker.stack, .int .i64 c.checker.start, va, vc, vr, vi, vp] ∧
  CkE base w (.agg #[.int .i64 c.checker.stack, .int .i64 c.checker.start, va, vc, vr, vi]) c.checker b0 ∧ StrE base w vp c.pieces b1 ∧ bs = b0 ++ b1 ∧ bs.Nodup
theorem stream_ok (base : Nat) : EP.Ok base (SmE base) where
  kept := by
    rintro w w' v c bs ⟨va, vc, vr, vi, vp, b0, b1, rfl, h0, h1, rfl, hn⟩ hs
    exact ⟨va, vc, vr, vi, vp, b0, b1, rfl, (ck_ok base).kept h0 (fun b hb => hs b (by simp [hb])), (str_ok base).kept h1 (fun b hb => hs b (by simp [hb])), rfl, hn⟩
  lt := by
    rintro w v c bs ⟨va, vc, vr, vi, vp, b0, b1, rfl, h0, h1, rfl, hn⟩ b hb
    rcases List.mem_append.1 hb with hb | hb
    · exact (ck_ok base).lt h0 b hb
    · exact (str_ok base).lt h1 b hb
  nodup := by rintro w v c bs ⟨va, vc, vr, vi, vp, b0, b1, rfl, h0, h1, rfl, hn⟩; exact hn
theorem SmE.form {base : Nat} {w : World} {v : Value} {c : Sm} {bs : List Nat} (h : SmE base w v c bs) : ∃ (A0 : Option Addr) (n0 k0 : Nat) (A1 : Option Addr) (n1 k1 : Nat) (A2 : Option Addr) (n2 k2 : Nat) (A3 : Option Addr) (n3 k3 : Nat) (A4 : Option Addr) (n4 k4 : Nat),
    v = .agg #[.int .i64 c.checker.stack, .int .i64 c.checker.start, .slice A0 n0 k0, .slice A1 n1 k1, .slice A2 n2 k2, .slice A3 n3 k3, .slice A4 n4 k4] := by
  obtain ⟨va, vc, vr, vi, vp, b0, b1, rfl, h0, h1, rfl, hn⟩ := h
  obtain ⟨a, na, ca, b, nb, cb, r, nr, cr, i, ni, ci, e⟩ := h0.form
  obtain ⟨A4, k4, rfl⟩ := RowE.slice h1
  simp only [Value.agg.injEq, Array.mk.injEq, List.cons.injEq, and_true, true_and] at e
  obtain ⟨rfl, rfl, rfl, rfl⟩ := e
  exact ⟨_, _, _, _, _, _, _, _, _, _, _, _, _, _, _, rfl⟩
structure BdSt (c : Sm) : Prop where
  checker : BdC c.checker
  pieces : Bd1 c.pieces
  sizes : ∀ x ∈ c.pieces, x.size ≤ 1048576
set_option maxHeartbeats 3200000 in
set_option maxRecDepth 100000 in
theorem eq_stream {base base' : Nat} {v v' : Value} {c : Sm} {bs bs' : List Nat} (w : World) (hc : BdSt c) (ha : SmE base w v c bs) (hb : SmE base' w v' c bs') :
    Calls Try.prog 15 #[v, v'] w (SeenPost (.bool true) w) := by
  obtain ⟨va, vc, vr, vi, vp, b0, b1, rfl, h0, h1, _, _⟩ := ha
  obtain ⟨ua, uc, ur, ui, up, d0, d1, rfl, g0, g1, _, _⟩ := hb
  have q0 := Lib.hid fun (W : World) (hw : Below w.heap.size w W) => eq_checker W hc.checker ((ck_ok base).later h0 hw) ((ck_ok base').later g0 hw)
  have q1 := Lib.hid fun (W : World) (hw : Below w.heap.size w W) => eq_strs W hc.pieces ((str_ok base).later h1 hw) ((str_ok base').later g1 hw)
  generalize c.checker.stack = s0 at *
  generalize c.checker.start = s1 at *
  have x1 := (Bx.new w 43 #[.int .i64 s0, .int .i64 s1, va, vc, vr, vi, vp]).alloc (.cells #[.int .i64 s0, .int .i64 s1, ua, uc, ur, ui, up] 43)
  have x2 := Bx.new (w.alloc (.cells #[.int .i64 s0, .int .i64 s1, va, vc, vr, vi, vp] 43)) 43 #[.int .i64 s0, .int .i64 s1, ua, uc, ur, ui, up]
  rw [World.size_alloc] at x2
  have hB : Below w.heap.size w ((w.alloc (.cells #[.int .i64 s0, .int .i64 s1, va, vc, vr, vi, vp] 43)).alloc (.cells #[.int .i64 s0, .int .i64 s1, ua, uc, ur, ui, up] 43)) := ((Below.refl _ _).alloc (Nat.le_refl _) _).alloc (by simp) _
  clear h0 h1 g0 g1 hc
  obtain ⟨p0, p1, p2, p3, p4, p5, p6, pl⟩ := x1.all7
  obtain ⟨r0, r1, r2, r3, r4, r5, r6, rl⟩ := x2.all7
  go_enter Try.func15, Try.ntmps15
  go_wp2_with fail
  refine (q0.out _ hB).mono ?_
  rintro e w0 ⟨rfl, hb0⟩
  replace x1 := x1.later hb0
  replace x2 := x2.later hb0
  replace hB := hB.trans (hb0.mono hB.size)
  clear p0 p1 p2 p3 p4 p5 p6 pl r0 r1 r2 r3 r4 r5 r6 rl
  obtain ⟨p0, p1, p2, p3, p4, p5, p6, pl⟩ := x1.all7
  obtain ⟨r0, r1, r2, r3, r4, r5, r6, rl⟩ := x2.all7
  go_wp2_with fail
  refine (q1.out _ hB).mono ?_
  rintro e w1 ⟨rfl, hb1⟩
  replace hB := hB.trans (hb1.mono hB.size)
  go_wp2
  go_ret
  exact ⟨rfl, hB⟩

/-- A laws.Stream that came in. -/
structure WfSt (c : Sm) : Prop where
  checker : WfC c.checker
  pieces : WfT c.pieces
def SmR : RP Sm := fun w v c => ∃ va vc vr vi vp, v = .agg #[.int .i64 c.checker.stack, .int .i64 c.checker.start, va, vc, vr, vi, vp] ∧ CkR w (.agg #[.int .i64 c.checker.stack, .int .i64 c.checker.start, va, vc, vr, vi]) c.checker ∧ StrR w vp c.pieces
theorem stream_r : RP.Ok SmR where
  later := by
    rintro w w' v c ⟨va, vc, vr, vi, vp, rfl, h0, h1⟩ hb
    exact ⟨va, vc, vr, vi, vp, rfl, ck_r.later h0 hb, strs_r.later h1 hb⟩
theorem CkR.form4 {w : World} {s0 s1 : Int} {va vc vr vi : Value} {c : Ck} (h : CkR w (.agg #[.int .i64 s0, .int .i64 s1, va, vc, vr, vi]) c) :
    ∃ (A0 : Option Addr) (n0 k0 : Nat) (A1 : Option Addr) (n1 k1 : Nat) (A2 : Option Addr) (n2 k2 : Nat) (A3 : Option Addr) (n3 k3 : Nat), va = .slice A0 n0 k0 ∧ vc = .slice A1 n1 k1 ∧ vr = .slice A2 n2 k2 ∧ vi = .slice A3 n3 k3 := by
  obtain ⟨ua, uc, ur, ui, e, h0, h1, h2, h3⟩ := h
  simp only [Value.agg.injEq, Array.mk.injEq, List.cons.injEq, and_true] at e
  obtain ⟨_, _, rfl, rfl, rfl, rfl⟩ := e
  obtain ⟨A0, k0, rfl, _⟩ := h0
  obtain ⟨A1, k1, rfl, _⟩ := h1
  obtain ⟨A2, k2, rfl, _⟩ := h2
  obtain ⟨A3, k3, rfl, _⟩ := h3
  exact ⟨_, _, _, _, _, _, _, _, _, _, _, _, rfl, rfl, rfl, rfl⟩
theorem SmR.form {w : World} {v : Value} {c : Sm} (h : SmR w v c) : ∃ (A0 : Option Addr) (n0 k0 : Nat) (A1 : Option Addr) (n1 k1 : Nat) (A2 : Option Addr) (n2 k2 : Nat) (A3 : Option Addr) (n3 k3 : Nat) (A4 : Option Addr) (n4 k4 : Nat),
    v = .agg #[.int .i64 c.checker.stack, .int .i64 c.checker.start, .slice A0 n0 k0, .slice A1 n1 k1, .slice A2 n2 k2, .slice A3 n3 k3, .slice A4 n4 k4] := by
  obtain ⟨va, vc, vr, vi, vp, rfl, h0, ⟨A4, k4, rfl, _⟩, _⟩ := h
  obtain ⟨A0, n0, k0, A1, n1, k1, A2, n2, k2, A3, n3, k3, rfl, rfl, rfl, rfl⟩ := h0.form4
  exact ⟨_, _, _, _, _, _, _, _, _, _, _, _, _, _, _, rfl⟩
def cntSt (c : Sm) : Nat := cntC c.checker + cntT c.pieces
theorem bd_of_stream {c : Sm} (h : cntSt c ≤ 1048576) : BdSt c := by
  unfold cntSt at h
  refine ⟨bd_of_cnt (by omega), bdt_of (by omega), fun x hx => ?_⟩
  have m := szL_mem (sz := szB) _ _ hx
  have e : szB x = x.size := rfl
  have e2 : cntT c.pieces = c.pieces.length + szL szB c.pieces := rfl
  omega
set_option maxHeartbeats 3200000 in
set_option maxRecDepth 100000 in
theorem sz_stream {v : Value} {c : Sm} (left : Nat) (w : World) (hl : left ≤ 1048576) (ha : SmR w v c) : Calls Try.prog 11 #[v, .int .i64 (left : Int)] w fun e w' => e = .returned (.int .i64 (dec left (cntSt c))) ∧ Below w.heap.size w w' := by
  obtain ⟨va, vc, vr, vi, vp, rfl, h0, h1⟩ := ha
  have hB : Below w.heap.size w (w.alloc (.cells #[.int .i64 c.checker.stack, .int .i64 c.checker.start, va, vc, vr, vi, vp] 36)) := (Below.refl _ _).alloc (Nat.le_refl _) _
  have x1 := Bx.new w 36 #[.int .i64 c.checker.stack, .int .i64 c.checker.start, va, vc, vr, vi, vp]
  have q0 := Lib.hid fun (l : Nat) (hl : l ≤ 1048576) (W : World) (hw : Below w.heap.size w W) => sz_checker l W hl (ck_r.later h0 hw)
  have q1 := Lib.hid fun (l : Nat) (hl : l ≤ 1048576) (W : World) (hw : Below w.heap.size w W) => sz_strs l W hl (strs_r.later h1 hw)
  rw [cntSt]
  generalize cntC c.checker = a0 at *
  generalize cntT c.pieces = a1 at *
  generalize c.checker.stack = s0 at *
  generalize c.checker.start = s1 at *
  clear h0 h1
  obtain ⟨p0, p1, p2, p3, p4, p5, p6, pl⟩ := id x1.all7
  by_cases t0 : a0 ≤ left
  case' pos =>
    obtain ⟨l1, k1⟩ : ∃ l1, left = l1 + a0 := ⟨left - a0, by omega⟩
    have g0 := q0.out left hl
    rw [dec_yes t0, show left - a0 = l1 from by omega] at g0
    have G0 := Lib.hid g0
    have m1 : l1 ≤ 1048576 := by omega
    clear g0 t0
    by_cases t1 : a1 ≤ l1
    case' pos =>
      have g1 := q1.out l1 m1
      rw [dec_yes t1] at g1
      rw [dec_yes (by omega), show left - (a0 + a1) = l1 - a1 from by omega]
      obtain ⟨l2, hl2⟩ : ∃ l2, l2 = l1 - a1 := ⟨_, rfl⟩
      rw [← hl2] at g1 ⊢
      have G1 := Lib.hid g1
      clear g1 t1 hl2 k1
      go_enter Try.func11, Try.ntmps11
      go_wp2_with fail
      refine (G0.out _ hB).mono ?_
      rintro e w1 ⟨rfl, hb1⟩
      replace x1 := x1.later hb1
      replace hB := hB.trans (hb1.mono hB.size)
      clear p0 p1 p2 p3 p4 p5 p6 pl
      obtain ⟨p0, p1, p2, p3, p4, p5, p6, pl⟩ := id x1.all7
      go_wp2_with fail
      refine (G1.out _ hB).mono ?_
      rintro e w2 ⟨rfl, hb2⟩
      replace hB := hB.trans (hb2.mono hB.size)
      go_wp2
      go_ret
      exact ⟨rfl, hB⟩
    case neg =>
      have g1 := q1.out l1 m1
      rw [dec_no t1] at g1
      rw [dec_no (by omega)]
      have G1 := Lib.hid g1
      clear g1 t1 k1
      go_enter Try.func11, Try.ntmps11
      go_wp2_with fail
      refine (G0.out _ hB).mono ?_
      rintro e w1 ⟨rfl, hb1⟩
      replace x1 := x1.later hb1
      replace hB := hB.trans (hb1.mono hB.size)
      clear p0 p1 p2 p3 p4 p5 p6 pl
      obtain ⟨p0, p1, p2, p3, p4, p5, p6, pl⟩ := id x1.all7
      go_wp2_with fail
      refine (G1.out _ hB).mono ?_
      rintro e w2 ⟨rfl, hb2⟩
      replace hB := hB.trans (hb2.mono hB.size)
      go_wp2
      go_ret
      exact ⟨rfl, hB⟩
  case neg =>
    have g0 := q0.out left hl
    rw [dec_no t0] at g0
    rw [dec_no (by omega)]
    have G0 := Lib.hid g0
    clear g0 t0
    go_enter Try.func11, Try.ntmps11
    go_wp2_with fail
    refine (G0.out _ hB).mono ?_
    rintro e w1 ⟨rfl, hb1⟩
    replace hB := hB.trans (hb1.mono hB.size)
    go_wp2
    go_ret
    exact ⟨rfl, hB⟩

end Go.Proofs.Ytadifihblaalpaa
