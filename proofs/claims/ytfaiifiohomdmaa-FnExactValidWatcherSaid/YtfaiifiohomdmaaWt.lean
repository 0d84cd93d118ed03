/- Watcher that own their memory, and the laws' own functions on them. -/
import Derived.Test.YtfaiifiohomdmaaQf
import Derived.Test.YtfaiifiohomdmaaBox
import Derived.Test.YtfaiifiohomdmaaConv
import Derived.Test.YtfaiifiohomdmaaRows3
namespace Go.Proofs.Ytfaiifiohomdmaa
open Go.RowKit Go.ChangeShapes Go.WideShapes Go.Deep
set_option linter.unusedVariables false

structure Wt where
  seen : Int
  query : Qr
  now : List Int
  stack : List (List Int)

def WtE (base : Nat) : EP Wt := fun w v c bs => ∃ v0 v1 v2 b0 b1 b2, v = .agg #[v0, .int .i64 c.seen, v1, v2] ∧
  QfE base w v0 c.query b0 ∧ IntsE base w v1 c.now b1 ∧ Ints2E base w v2 c.stack b2 ∧ bs = b0 ++ (b1 ++ (b2)) ∧ bs.Nodup

theorem watcher_ok (base : Nat) : EP.Ok base (WtE base) where
  kept := by
    rintro w w' v c bs ⟨v0, v1, v2, b0, b1, b2, rfl, h0, h1, h2, rfl, hn⟩ hs
    exact ⟨v0, v1, v2, b0, b1, b2, rfl, (qf_ok base).kept h0 (fun b hb => hs b (by simp [hb])), (ints_ok base).kept h1 (fun b hb => hs b (by simp [hb])), (ints2_ok base).kept h2 (fun b hb => hs b (by simp [hb])), rfl, hn⟩
  lt := by
    rintro w v c bs ⟨v0, v1, v2, b0, b1, b2, rfl, h0, h1, h2, rfl, hn⟩ b hb
    simp only [List.mem_append] at hb
    rcases hb with hb | hb | hb
    · exact (qf_ok base).lt h0 b hb
    · exact (ints_ok base).lt h1 b hb
    · exact (ints2_ok base).lt h2 b hb
  nodup := by rintro w v c bs ⟨v0, v1, v2, b0, b1, b2, rfl, h0, h1, h2, rfl, hn⟩; exact hn

theorem WtE.form {base : Nat} {w : World} {v : Value} {c : Wt} {bs : List Nat} (h : WtE base w v c bs) : ∃ (A0 : Option Addr) (n0 k0 : Nat) (A1 : Option Addr) (n1 k1 : Nat) (A2 : Option Addr) (n2 k2 : Nat),
    v = .agg #[.slice A0 n0 k0, .int .i64 c.seen, .slice A1 n1 k1, .slice A2 n2 k2] := by
  obtain ⟨v0, v1, v2, _, _, _, rfl, h0, h1, h2, _⟩ := h
  obtain ⟨A0, k0, rfl⟩ := QfE.slice h0
  obtain ⟨A1, k1, rfl⟩ := RowE.slice h1
  obtain ⟨A2, k2, rfl⟩ := ManyE.slice h2
  exact ⟨A0, _, k0, A1, _, k1, A2, _, k2, rfl⟩
def szW (c : Wt) : Nat := szQ c.query + (lenI c.now + ((szL lenI) c.stack))
structure BdW (c : Wt) : Prop where
  query : BdQ c.query
  now : Bd1 c.now
  stack : Bd2 c.stack
  sum : szW c ≤ 2100000

set_option maxHeartbeats 3200000 in
set_option maxRecDepth 100000 in
theorem eq_watcher {base base' : Nat} {v v' : Value} {c : Wt} {bs bs' : List Nat} (w : World) (hc : BdW c) (ha : WtE base w v c bs) (hb : WtE base' w v' c bs') :
    Calls Try.prog 42 #[v, v'] w (SeenPost (.bool true) w) := by
  obtain ⟨v0, v1, v2, b0, b1, b2, rfl, h0, h1, h2, _, _⟩ := ha
  obtain ⟨u0, u1, u2, _, _, _, rfl, g0, g1, g2, _, _⟩ := hb
  have q0 := Lib.hid fun (W : World) (hw : Below w.heap.size w W) => eq_qf W hc.query ((qf_ok base).later h0 hw) ((qf_ok base').later g0 hw)
  have q1 := Lib.hid fun (W : World) (hw : Below w.heap.size w W) => eq_ints W hc.now ((ints_ok base).later h1 hw) ((ints_ok base').later g1 hw)
  have q2 := Lib.hid fun (W : World) (hw : Below w.heap.size w W) => eq_ints2 W hc.stack ((ints2_ok base).later h2 hw) ((ints2_ok base').later g2 hw)
  generalize c.seen = s0
  have x1 := (Bx.new w 73 #[v0, .int .i64 s0, v1, v2]).alloc (.cells #[u0, .int .i64 s0, u1, u2] 73)
  have x2 := Bx.new (w.alloc (.cells #[v0, .int .i64 s0, v1, v2] 73)) 73 #[u0, .int .i64 s0, u1, u2]
  rw [World.size_alloc] at x2
  have hB : Below w.heap.size w ((w.alloc (.cells #[v0, .int .i64 s0, v1, v2] 73)).alloc (.cells #[u0, .int .i64 s0, u1, u2] 73)) := ((Below.refl _ _).alloc (Nat.le_refl _) _).alloc (by simp) _
  clear h0 h1 h2 g0 g1 g2 hc
  obtain ⟨p0, p1, p2, p3, pl⟩ := x1.all4
  obtain ⟨d0, d1, d2, d3, dl⟩ := x2.all4
  go_enter Try.func42, Try.ntmps42
  go_wp2_with fail
  refine (q0.out _ hB).mono ?_
  rintro e w0 ⟨rfl, hb0⟩
  replace x1 := x1.later hb0
  replace x2 := x2.later hb0
  replace hB := hB.trans (hb0.mono hB.size)
  clear p0 p1 p2 p3 pl d0 d1 d2 d3 dl
  obtain ⟨p0, p1, p2, p3, pl⟩ := x1.all4
  obtain ⟨d0, d1, d2, d3, dl⟩ := x2.all4
  go_wp2_with fail
  refine (q1.out _ hB).mono ?_
  rintro e w1 ⟨rfl, hb1⟩
  replace x1 := x1.later hb1
  replace x2 := x2.later hb1
  replace hB := hB.trans (hb1.mono hB.size)
  clear p0 p1 p2 p3 pl d0 d1 d2 d3 dl
  obtain ⟨p0, p1, p2, p3, pl⟩ := x1.all4
  obtain ⟨d0, d1, d2, d3, dl⟩ := x2.all4
  go_wp2_with fail
  refine (q2.out _ hB).mono ?_
  rintro e w2 ⟨rfl, hb2⟩
  replace x1 := x1.later hb2
  replace x2 := x2.later hb2
  replace hB := hB.trans (hb2.mono hB.size)
  go_wp2
  go_ret
  exact ⟨rfl, hB⟩

def mkW (k : Nat) (c : Wt) : Wt :=
  { seen := c.seen, query := mkQ (k) c.query, now := mkI (k + szQ c.query) c.now, stack := mkI2 (k + szQ c.query + lenI c.now) c.stack }
structure WfW (c : Wt) : Prop where
  seen : I64 c.seen
  query : WfQ c.query
  now : WfI c.now
  stack : ∀ x ∈ c.stack, WfI x
/-- A laws.Watcher that came in. -/
def WtR : RP Wt := fun w v c => ∃ v0 v1 v2, v = .agg #[v0, .int .i64 c.seen, v1, v2] ∧ QfR w v0 c.query ∧ IntsR w v1 c.now ∧ Ints2R w v2 c.stack
theorem watcher_r : RP.Ok WtR where
  later := by
    rintro w w' v c ⟨v0, v1, v2, rfl, h0, h1, h2⟩ hb
    exact ⟨v0, v1, v2, rfl, qf_r.later h0 hb, ints_r.later h1 hb, ints2_r.later h2 hb⟩
theorem WtR.form {w : World} {v : Value} {c : Wt} (h : WtR w v c) : ∃ (A0 : Option Addr) (n0 k0 : Nat) (A1 : Option Addr) (n1 k1 : Nat) (A2 : Option Addr) (n2 k2 : Nat),
    v = .agg #[.slice A0 n0 k0, .int .i64 c.seen, .slice A1 n1 k1, .slice A2 n2 k2] := by
  obtain ⟨v0, v1, v2, rfl, h0, h1, h2⟩ := h
  obtain ⟨⟨A0, k0, rfl, _⟩, _⟩ := h0
  obtain ⟨A1, k1, rfl, _⟩ := h1
  obtain ⟨A2, k2, rfl, _⟩ := h2
  exact ⟨A0, _, k0, A1, _, k1, A2, _, k2, rfl⟩

theorem cells_Watcher : Try.prog.cellsOf 66 = 4 := by kernel_rfl
theorem cells_Watcher_i : Try.prog.cellsOf 2 = 1 := by kernel_rfl
theorem cells_Watcher_0 : Try.prog.cellsOf 64 = 1 := by kernel_rfl
theorem cells_Watcher_1 : Try.prog.cellsOf 38 = 1 := by kernel_rfl
theorem cells_Watcher_2 : Try.prog.cellsOf 25 = 1 := by kernel_rfl
section
variable {H : Type} {enc : TypeId × Value → H} {w : World} {held : Bool}
set_option maxRecDepth 100000 in
theorem open_watcher {r : Reach} {b0 : Nat} {v : Value} {d : DataW H} {p : List MemPlace} (hv : Value.okWide Try.prog w r b0 66 v) (h : DataW.Trod enc Try.prog w 0 (fun _ => true) held 66 v d p) : ∃ c, WtR w v c ∧ WfW c := by
  obtain ⟨cs, rfl, hsz⟩ := okWide_struct Try.underlying66 hv
  rw [cells_Watcher] at hsz
  obtain ⟨fuel, hf⟩ := h
  obtain ⟨xs, n, _, _, _, hxl, hg⟩ := DataW.trod_struct Try.underlying66 hf
  obtain ⟨l⟩ := cs
  match l, hsz with
  | [c0, c1, c2, c3], _ =>
    have hx : ∀ i, i < 4 → ∃ y, xs[i]? = some y := fun i hi => ⟨xs[i]'(by rw [hxl]; exact hi), List.getElem?_eq_getElem _⟩
    obtain ⟨y0, e0⟩ := hx 0 (by decide)
    obtain ⟨y1, e1⟩ := hx 1 (by decide)
    obtain ⟨y2, e2⟩ := hx 2 (by decide)
    obtain ⟨y3, e3⟩ := hx 3 (by decide)
    have g0 : DataW.trod enc Try.prog w 0 (fun _ => true) held n 64 (([c0, c1, c2, c3].drop 0).take (Try.prog.cellsOf 64)) = some y0 := (hg 0 _ rfl).trans e0
    have g1 : DataW.trod enc Try.prog w 0 (fun _ => true) held n 2 (([c0, c1, c2, c3].drop 1).take (Try.prog.cellsOf 2)) = some y1 := (hg 1 _ rfl).trans e1
    have g2 : DataW.trod enc Try.prog w 0 (fun _ => true) held n 38 (([c0, c1, c2, c3].drop 2).take (Try.prog.cellsOf 38)) = some y2 := (hg 2 _ rfl).trans e2
    have g3 : DataW.trod enc Try.prog w 0 (fun _ => true) held n 25 (([c0, c1, c2, c3].drop 3).take (Try.prog.cellsOf 25)) = some y3 := (hg 3 _ rfl).trans e3
    rw [cells_Watcher_0] at g0
    rw [cells_Watcher_i] at g1
    rw [cells_Watcher_1] at g2
    rw [cells_Watcher_2] at g3
    simp only [List.drop_zero, List.drop_succ_cons, List.take_succ_cons, List.take_zero] at g0 g1 g2 g3
    obtain ⟨a0, ha0, wa0⟩ := read_int g1
    obtain ⟨x0, r0, w0⟩ := read_qf g0
    obtain ⟨x1, r1, w1⟩ := read_ints g2
    obtain ⟨x2, r2, w2⟩ := read_ints2 g3
    simp only [List.cons.injEq, and_true] at ha0
    exact ⟨⟨a0, x0, x1, x2⟩, ⟨c0, c2, c3, by rw [ha0], r0, r1, r2⟩, ⟨wa0, w0, w1, w2⟩⟩
end

/-- While toWatcher runs: the argument's box, the result's, and that of what is made. -/
structure StgWt (w W : World) (c1 c2 c3 : Array Value) : Prop where
  b1 : Bx W w.heap.size 66 c1
  b2 : Bx W (w.heap.size + 1) 73 c2
  b3 : Bx W (w.heap.size + 1 + 1) 73 c3
  below : Below w.heap.size w W
theorem StgWt.size {w W : World} {c1 c2 c3 : Array Value} (h : StgWt w W c1 c2 c3) : w.heap.size + 1 + 1 + 1 ≤ W.heap.size := h.b3.lt
theorem StgWt.next {w W W' : World} {c1 c2 c3 : Array Value} (h : StgWt w W c1 c2 c3) (hb : Below W.heap.size W W') (i : Nat) (u : Value) : StgWt w (W'.setCell ⟨w.heap.size + 1 + 1, i, none⟩ u) c1 c2 (c3.setIfInBounds i u) :=
  ⟨(h.b1.later hb).other i u (by omega), (h.b2.later hb).other i u (by omega), (h.b3.later hb).set i u, (h.below.trans (hb.mono h.below.size)).setCell (p := ⟨w.heap.size + 1 + 1, i, none⟩) (by simp; omega) u⟩
set_option maxHeartbeats 3200000 in
set_option maxRecDepth 100000 in
theorem to_watcher {v : Value} {c : Wt} (w : World) (hc : BdW c) (ha : WtR w v c) : Calls Try.prog 40 #[v] w (NewPost WtE c w) := by
  obtain ⟨v0, v1, v2, rfl, h0, h1, h2⟩ := ha
  have q0 := Lib.hid fun (W : World) (hw : Below w.heap.size w W) => to_qf W hc.query (qf_r.later h0 hw)
  have q1 := Lib.hid fun (W : World) (hw : Below w.heap.size w W) => to_ints W hc.now (ints_r.later h1 hw)
  have q2 := Lib.hid fun (W : World) (hw : Below w.heap.size w W) => to_ints2 W hc.stack (ints2_r.later h2 hw)
  clear h0 h1 h2 hc
  obtain ⟨s0, x0, x1, x2⟩ := c
  dsimp only at q0 q1 q2 ⊢
  obtain ⟨W0, hW0⟩ : ∃ W0, W0 = ((w.alloc (.cells #[v0, .int .i64 s0, v1, v2] 66)).alloc (.cells #[.slice none 0 0, .int .i64 0, .slice none 0 0, .slice none 0 0] 73)).alloc (.cells #[.slice none 0 0, .int .i64 0, .slice none 0 0, .slice none 0 0] 73) := ⟨_, rfl⟩
  have y1 : Bx W0 w.heap.size 66 #[v0, .int .i64 s0, v1, v2] := by rw [hW0]; exact ((Bx.new w _ _).alloc _).alloc _
  have y2 : Bx W0 (w.heap.size + 1) 73 #[.slice none 0 0, .int .i64 0, .slice none 0 0, .slice none 0 0] := by
    rw [hW0]
    have := (Bx.new (w.alloc (.cells #[v0, .int .i64 s0, v1, v2] 66)) 73 #[.slice none 0 0, .int .i64 0, .slice none 0 0, .slice none 0 0]).alloc (.cells #[.slice none 0 0, .int .i64 0, .slice none 0 0, .slice none 0 0] 73)
    rwa [World.size_alloc] at this
  have y3 : Bx W0 (w.heap.size + 1 + 1) 73 #[.slice none 0 0, .int .i64 0, .slice none 0 0, .slice none 0 0] := by
    rw [hW0]
    have := Bx.new ((w.alloc (.cells #[v0, .int .i64 s0, v1, v2] 66)).alloc (.cells #[.slice none 0 0, .int .i64 0, .slice none 0 0, .slice none 0 0] 73)) 73 #[.slice none 0 0, .int .i64 0, .slice none 0 0, .slice none 0 0]
    rwa [World.size_alloc, World.size_alloc] at this
  have hB0 : Below w.heap.size w W0 := by rw [hW0]; exact (((Below.refl _ _).alloc (Nat.le_refl _) _).alloc (by simp) _).alloc (by simp; omega) _
  have hz0 : W0.heap.size = w.heap.size + 1 + 1 + 1 := by rw [hW0]; simp
  have S0 : StgWt w W0 #[v0, .int .i64 s0, v1, v2] #[.slice none 0 0, .int .i64 0, .slice none 0 0, .slice none 0 0] #[.slice none 0 0, .int .i64 0, .slice none 0 0, .slice none 0 0] := ⟨y1, y2, y3, hB0⟩
  have HW0 := Lib.hid hW0
  have hS := S0.size
  clear hW0 y1 y2 y3
  go_enter Try.func40, Try.ntmps40
  go_wp2_with fail
  rw [← HW0.out]
  refine (q0.out _ hB0).mono ?_
  rintro e w0 ⟨r0, bs0, rfl, E0, hb0⟩
  obtain ⟨A0, k0, rfl⟩ := QfE.slice E0
  have S1 := S0.next hb0 0 (.slice A0 x0.steps.length k0)
  have l0 := (qf_ok _).lt E0
  have t0 := S1.size
  have F0 := E0
  replace E0 := keepE (qf_ok _) E0 (Below.refl _ _) (B := w.heap.size + 1 + 1) (fun b hb => by have := l0 b hb; omega) 0 (.slice A0 x0.steps.length k0)
  have c0 := (S0.b1.later hb0).cell 2 (v1) rfl
  have c1 := (S0.b3.later hb0).cell 0 (.slice none 0 0) rfl
  have c2 := (S0.b3.later hb0).frozen 0
  have ci0 := (S0.b1.later hb0).cell 1 (.int .i64 s0) rfl
  have cj0 := (S0.b3.later hb0).cell 1 (.int .i64 0) rfl
  have ck0 := (S0.b3.later hb0).frozen 1
  have S2 := S1.next (Below.refl _ _) 1 (.int .i64 s0)
  replace E0 := keepE (qf_ok _) E0 (Below.refl _ _) (B := w.heap.size + 1 + 1) (fun b hb => by have := l0 b hb; omega) 1 (.int .i64 s0)
  go_wp2_with fail
  refine (q1.out _ S2.below).mono ?_
  clear c0 c1 c2 ci0 cj0 ck0
  rintro e w1 ⟨r1, bs1, rfl, E1, hb1⟩
  obtain ⟨A1, k1, rfl⟩ := RowE.slice E1
  have S3 := S2.next hb1 2 (.slice A1 x1.length k1)
  have l1 := (ints_ok _).lt E1
  have t1 := S3.size
  simp only [size_set] at l1
  simp only [size_set] at t0
  replace E0 := keepE (qf_ok _) E0 hb1 (B := w.heap.size + 1 + 1) (fun b hb => by have := l0 b hb; omega) 2 (.slice A1 x1.length k1)
  have F1 := E1
  replace E1 := keepE (ints_ok _) E1 (Below.refl _ _) (B := w.heap.size + 1 + 1) (fun b hb => by have := l1 b hb; omega) 2 (.slice A1 x1.length k1)
  have c0 := (S2.b1.later hb1).cell 3 (v2) rfl
  have c1 := (S2.b3.later hb1).cell 2 (.slice none 0 0) rfl
  have c2 := (S2.b3.later hb1).frozen 2
  go_wp2_with fail
  refine (q2.out _ S3.below).mono ?_
  clear c0 c1 c2
  rintro e w2 ⟨r2, bs2, rfl, E2, hb2⟩
  obtain ⟨A2, k2, rfl⟩ := ManyE.slice E2
  have S4 := S3.next hb2 3 (.slice A2 x2.length k2)
  have l2 := (ints2_ok _).lt E2
  have t2 := S4.size
  simp only [size_set] at l2
  simp only [size_set] at t1
  replace E0 := keepE (qf_ok _) E0 hb2 (B := w.heap.size + 1 + 1) (fun b hb => by have := l0 b hb; omega) 3 (.slice A2 x2.length k2)
  replace E1 := keepE (ints_ok _) E1 hb2 (B := w.heap.size + 1 + 1) (fun b hb => by have := l1 b hb; omega) 3 (.slice A2 x2.length k2)
  have F2 := E2
  replace E2 := keepE (ints2_ok _) E2 (Below.refl _ _) (B := w.heap.size + 1 + 1) (fun b hb => by have := l2 b hb; omega) 3 (.slice A2 x2.length k2)
  have c1 := (S3.b3.later hb2).cell 3 (.slice none 0 0) rfl
  have c2 := (S3.b3.later hb2).frozen 3
  simp only [size_set] at t2
  have d0 := S4.b3.cell 0 (.slice A0 x0.steps.length k0) rfl
  have d1 := S4.b3.cell 1 (.int .i64 s0) rfl
  have d2 := S4.b3.cell 2 (.slice A1 x1.length k1) rfl
  have d3 := S4.b3.cell 3 (.slice A2 x2.length k2) rfl
  have p1 := S4.b2
  have e0 := p1.cell 0 (.slice none 0 0) rfl
  have f0 := p1.frozen 0
  have e1 := p1.cell 1 (.int .i64 0) rfl
  have f1 := p1.frozen 1
  have e2 := p1.cell 2 (.slice none 0 0) rfl
  have f2 := p1.frozen 2
  have e3 := p1.cell 3 (.slice none 0 0) rfl
  have f3 := p1.frozen 3
  have pf := ((((p1.set 0 (.slice A0 x0.steps.length k0)).set 1 (.int .i64 s0)).set 2 (.slice A1 x1.length k1)).set 3 (.slice A2 x2.length k2))
  have g0 := pf.cell 0 (.slice A0 x0.steps.length k0) rfl
  have g1 := pf.cell 1 (.int .i64 s0) rfl
  have g2 := pf.cell 2 (.slice A1 x1.length k1) rfl
  have g3 := pf.cell 3 (.slice A2 x2.length k2) rfl
  replace E0 := keepE (qf_ok _) E0 (Below.refl _ _) (B := w.heap.size + 1) (fun b hb => by have := l0 b hb; omega) 0 (.slice A0 x0.steps.length k0)
  replace E0 := keepE (qf_ok _) E0 (Below.refl _ _) (B := w.heap.size + 1) (fun b hb => by have := l0 b hb; omega) 1 (.int .i64 s0)
  replace E0 := keepE (qf_ok _) E0 (Below.refl _ _) (B := w.heap.size + 1) (fun b hb => by have := l0 b hb; omega) 2 (.slice A1 x1.length k1)
  replace E0 := keepE (qf_ok _) E0 (Below.refl _ _) (B := w.heap.size + 1) (fun b hb => by have := l0 b hb; omega) 3 (.slice A2 x2.length k2)
  replace E1 := keepE (ints_ok _) E1 (Below.refl _ _) (B := w.heap.size + 1) (fun b hb => by have := l1 b hb; omega) 0 (.slice A0 x0.steps.length k0)
  replace E1 := keepE (ints_ok _) E1 (Below.refl _ _) (B := w.heap.size + 1) (fun b hb => by have := l1 b hb; omega) 1 (.int .i64 s0)
  replace E1 := keepE (ints_ok _) E1 (Below.refl _ _) (B := w.heap.size + 1) (fun b hb => by have := l1 b hb; omega) 2 (.slice A1 x1.length k1)
  replace E1 := keepE (ints_ok _) E1 (Below.refl _ _) (B := w.heap.size + 1) (fun b hb => by have := l1 b hb; omega) 3 (.slice A2 x2.length k2)
  replace E2 := keepE (ints2_ok _) E2 (Below.refl _ _) (B := w.heap.size + 1) (fun b hb => by have := l2 b hb; omega) 0 (.slice A0 x0.steps.length k0)
  replace E2 := keepE (ints2_ok _) E2 (Below.refl _ _) (B := w.heap.size + 1) (fun b hb => by have := l2 b hb; omega) 1 (.int .i64 s0)
  replace E2 := keepE (ints2_ok _) E2 (Below.refl _ _) (B := w.heap.size + 1) (fun b hb => by have := l2 b hb; omega) 2 (.slice A1 x1.length k1)
  replace E2 := keepE (ints2_ok _) E2 (Below.refl _ _) (B := w.heap.size + 1) (fun b hb => by have := l2 b hb; omega) 3 (.slice A2 x2.length k2)
  have hBf := ((((S4.below.setCell (p := ⟨w.heap.size + 1, 0, none⟩) (by simp) (.slice A0 x0.steps.length k0)).setCell (p := ⟨w.heap.size + 1, 1, none⟩) (by simp) (.int .i64 s0)).setCell (p := ⟨w.heap.size + 1, 2, none⟩) (by simp) (.slice A1 x1.length k1)).setCell (p := ⟨w.heap.size + 1, 3, none⟩) (by simp) (.slice A2 x2.length k2))
  have m1 := hb1.size
  have m2 := hb2.size
  simp only [size_set] at m1 m2
  have hn : (bs0 ++ (bs1 ++ (bs2))).Nodup := by
    have dis : ∀ (x y : List Nat), x.Nodup → y.Nodup → (∀ b ∈ y, b ∉ x) → (x ++ y).Nodup := fun x y h1 h2 h3 => List.nodup_append.2 ⟨h1, h2, fun b hb b' hb' e => h3 b' hb' (e ▸ hb)⟩
    have n0 := (qf_ok _).nodup F0
    have n1 := (ints_ok _).nodup F1
    have n2 := (ints2_ok _).nodup F2
    have z1 := dis _ _ n1 n2 (fun b hb hb' => by
      have := l1 b hb'
      try simp only [List.mem_append] at hb
      · have := l2 b hb; omega)
    have z0 := dis _ _ n0 z1 (fun b hb hb' => by
      have := l0 b hb'
      try simp only [List.mem_append] at hb
      rcases hb with hb | hb
      · have := l1 b hb; omega
      · have := l2 b hb; omega)
    exact z0
  have Hn := Lib.hid hn
  clear hn
  go_wp2
  have hz1 : w.heap.size ≤ W0.heap.size := by omega
  have hz2 : w.heap.size ≤ w0.heap.size := by omega
  have hz3 : w.heap.size ≤ w1.heap.size := by omega
  refine bodyPost_ret (v := .agg #[.slice A0 x0.steps.length k0, .int .i64 s0, .slice A1 x1.length k1, .slice A2 x2.length k2]) (by simp [results, Try.results40, go_sem, g0, g1, g2, g3]) rfl ?_
  exact ⟨_, _, rfl, ⟨_, _, _, bs0, bs1, bs2, rfl, qf_base hz1 _ _ _ _ E0, ints_base (by simp only [size_set]; exact hz2) _ _ _ _ E1, ints2_base (by simp only [size_set]; exact hz3) _ _ _ _ E2, rfl, Hn.out⟩, hBf⟩

def cntW (c : Wt) : Nat := cntQ c.query + (lenA c.now + (cnt2 c.stack))
set_option maxHeartbeats 3200000 in
set_option maxRecDepth 100000 in
theorem sz_watcher {v : Value} {c : Wt} (left : Nat) (w : World) (hl : left ≤ 1048576) (ha : WtR w v c) : Calls Try.prog 38 #[v, .int .i64 (left : Int)] w fun e w' => e = .returned (.int .i64 (dec left (cntW c))) ∧ Below w.heap.size w w' := by
  obtain ⟨v0, v1, v2, rfl, h0, h1, h2⟩ := ha
  obtain ⟨s0, x0, x1, x2⟩ := c
  dsimp only at h0 h1 h2 ⊢
  have hB : Below w.heap.size w (w.alloc (.cells #[v0, .int .i64 s0, v1, v2] 66)) := (Below.refl _ _).alloc (Nat.le_refl _) _
  have bx := Bx.new w 66 #[v0, .int .i64 s0, v1, v2]
  have q0 := Lib.hid fun (l : Nat) (hl : l ≤ 1048576) (W : World) (hW : Below w.heap.size w W) => sz_qf l W hl (qf_r.later h0 hW)
  have q1 := Lib.hid fun (l : Nat) (hl : l ≤ 1048576) (W : World) (hW : Below w.heap.size w W) => sz_ints l W hl (ints_r.later h1 hW)
  have q2 := Lib.hid fun (l : Nat) (hl : l ≤ 1048576) (W : World) (hW : Below w.heap.size w W) => sz_ints2 l W hl (ints2_r.later h2 hW)
  obtain ⟨a0, ha0⟩ : ∃ a, a = cntQ x0 := ⟨_, rfl⟩
  obtain ⟨a1, ha1⟩ : ∃ a, a = lenA x1 := ⟨_, rfl⟩
  obtain ⟨a2, ha2⟩ : ∃ a, a = cnt2 x2 := ⟨_, rfl⟩
  rw [← ha0] at q0
  rw [← ha1] at q1
  rw [← ha2] at q2
  have ht : cntW ⟨s0, x0, x1, x2⟩ = a0 + (a1 + (a2)) := by rw [cntW, ha0, ha1, ha2]
  rw [ht]
  clear ha0 ha1 ha2 ht h0 h1 h2
  by_cases t0 : a0 ≤ left
  case' pos =>
    obtain ⟨l0, k0⟩ : ∃ x, left = x + a0 := ⟨left - a0, by omega⟩
    have g0 := q0.out left hl
    simp only [dec_yes t0, show left - a0 = l0 from by omega] at g0
    have G0 := Lib.hid g0
    have m0 : l0 ≤ 1048576 := by omega
    clear g0 t0
    by_cases t1 : a1 ≤ l0
    case' pos =>
      obtain ⟨l1, k1⟩ : ∃ x, l0 = x + a1 := ⟨l0 - a1, by omega⟩
      have g1 := q1.out l0 m0
      simp only [dec_yes t1, show l0 - a1 = l1 from by omega] at g1
      have G1 := Lib.hid g1
      have m1 : l1 ≤ 1048576 := by omega
      clear g1 t1
      by_cases t2 : a2 ≤ l1
      case' pos =>
        obtain ⟨l2, k2⟩ : ∃ x, l1 = x + a2 := ⟨l1 - a2, by omega⟩
        have g2 := q2.out l1 m1
        simp only [dec_yes t2, show l1 - a2 = l2 from by omega] at g2
        have G2 := Lib.hid g2
        have m2 : l2 ≤ 1048576 := by omega
        rw [dec_yes (by omega), show left - (a0 + (a1 + (a2))) = l2 from by omega]
        clear g2 t2 k0 k1 k2
        go_enter Try.func38, Try.ntmps38
        go_wp2_with fail
        refine (G0.out _ hB).mono ?_
        rintro e w0 ⟨rfl, hb0⟩
        replace bx := bx.later hb0
        replace hB := hB.trans (hb0.mono hB.size)
        obtain ⟨p0, p1, p2, p3, pl⟩ := id bx.all4
        go_wp2_with fail
        refine (G1.out _ hB).mono ?_
        rintro e w' ⟨rfl, rfl⟩
        go_wp2_with fail
        refine (G2.out _ hB).mono ?_
        rintro e w' ⟨rfl, rfl⟩
        go_wp2
        go_ret
        exact ⟨rfl, hB⟩
      case neg =>
        have g2 := q2.out l1 m1
        simp only [dec_no t2] at g2
        have G2 := Lib.hid g2
        rw [dec_no (by omega)]
        clear g2 t2 k0 k1
        go_enter Try.func38, Try.ntmps38
        go_wp2_with fail
        refine (G0.out _ hB).mono ?_
        rintro e w0 ⟨rfl, hb0⟩
        replace bx := bx.later hb0
        replace hB := hB.trans (hb0.mono hB.size)
        obtain ⟨p0, p1, p2, p3, pl⟩ := id bx.all4
        go_wp2_with fail
        refine (G1.out _ hB).mono ?_
        rintro e w' ⟨rfl, rfl⟩
        go_wp2_with fail
        refine (G2.out _ hB).mono ?_
        rintro e w' ⟨rfl, rfl⟩
        go_wp2
        go_ret
        exact ⟨rfl, hB⟩
    case neg =>
      have g1 := q1.out l0 m0
      simp only [dec_no t1] at g1
      have G1 := Lib.hid g1
      rw [dec_no (by omega)]
      clear g1 t1 k0
      go_enter Try.func38, Try.ntmps38
      go_wp2_with fail
      refine (G0.out _ hB).mono ?_
      rintro e w0 ⟨rfl, hb0⟩
      replace bx := bx.later hb0
      replace hB := hB.trans (hb0.mono hB.size)
      obtain ⟨p0, p1, p2, p3, pl⟩ := id bx.all4
      go_wp2_with fail
      refine (G1.out _ hB).mono ?_
      rintro e w' ⟨rfl, rfl⟩
      go_wp2
      go_ret
      exact ⟨rfl, hB⟩
  case neg =>
    have g0 := q0.out left hl
    simp only [dec_no t0] at g0
    have G0 := Lib.hid g0
    rw [dec_no (by omega)]
    clear g0 t0 
    go_enter Try.func38, Try.ntmps38
    go_wp2_with fail
    refine (G0.out _ hB).mono ?_
    rintro e w0 ⟨rfl, hb0⟩
    replace bx := bx.later hb0
    replace hB := hB.trans (hb0.mono hB.size)
    obtain ⟨p0, p1, p2, p3, pl⟩ := id bx.all4
    go_wp2
    go_ret
    exact ⟨rfl, hB⟩

theorem bd_of_watcher {c : Wt} (h : cntW c ≤ 1048576) : BdW c := by
  unfold cntW at h
  have g0 : cntQ c.query ≤ 1048576 := by omega
  have g1 : lenA c.now ≤ 1048576 := by omega
  have g2 : cnt2 c.stack ≤ 1048576 := by omega
  refine ⟨bd_of_query g0, bd1_of g1, bd2_of g2, ?_⟩
  have z0 := le_qf c.query
  have z1 := le_ints c.now
  have z2 := le_ints2 c.stack
  unfold szW
  omega
end Go.Proofs.Ytfaiifiohomdmaa
