/- Algebra that own their memory, and the laws' own functions on them. -/
import Derived.Test.YtennjggeimeieaaChk
import Derived.Test.YtennjggeimeieaaBox
import Derived.Test.YtennjggeimeieaaConv
import Derived.Test.YtennjggeimeieaaRows3
namespace Go.Proofs.Ytennjggeimeieaa
open Go.RowKit Go.ChangeShapes Go.WideShapes Go.Deep
set_option linter.unusedVariables false

structure Al where
  prod : List (List Int)
  wrap : List (List Int)
  inner : List Int
  accept : List Bool

def AlE (base : Nat) : EP Al := fun w v c bs => ∃ v0 v1 v2 v3 b0 b1 b2 b3, v = .agg #[v0, v1, v2, v3] ∧
  Ints2E base w v0 c.prod b0 ∧ Ints2E base w v1 c.wrap b1 ∧ IntsE base w v2 c.inner b2 ∧ BoolsE base w v3 c.accept b3 ∧ bs = b0 ++ (b1 ++ (b2 ++ (b3))) ∧ bs.Nodup

theorem algebra_ok (base : Nat) : EP.Ok base (AlE base) where
  kept := by
    rintro w w' v c bs ⟨v0, v1, v2, v3, b0, b1, b2, b3, rfl, h0, h1, h2, h3, rfl, hn⟩ hs
    exact ⟨v0, v1, v2, v3, b0, b1, b2, b3, rfl, (ints2_ok base).kept h0 (fun b hb => hs b (by simp [hb])), (ints2_ok base).kept h1 (fun b hb => hs b (by simp [hb])), (ints_ok base).kept h2 (fun b hb => hs b (by simp [hb])), (bools_ok base).kept h3 (fun b hb => hs b (by simp [hb])), rfl, hn⟩
  lt := by
    rintro w v c bs ⟨v0, v1, v2, v3, b0, b1, b2, b3, rfl, h0, h1, h2, h3, rfl, hn⟩ b hb
    simp only [List.mem_append] at hb
    rcases hb with hb | hb | hb | hb
    · exact (ints2_ok base).lt h0 b hb
    · exact (ints2_ok base).lt h1 b hb
    · exact (ints_ok base).lt h2 b hb
    · exact (bools_ok base).lt h3 b hb
  nodup := by rintro w v c bs ⟨v0, v1, v2, v3, b0, b1, b2, b3, rfl, h0, h1, h2, h3, rfl, hn⟩; exact hn

theorem AlE.form {base : Nat} {w : World} {v : Value} {c : Al} {bs : List Nat} (h : AlE base w v c bs) : ∃ (A0 : Option Addr) (n0 k0 : Nat) (A1 : Option Addr) (n1 k1 : Nat) (A2 : Option Addr) (n2 k2 : Nat) (A3 : Option Addr) (n3 k3 : Nat),
    v = .agg #[.slice A0 n0 k0, .slice A1 n1 k1, .slice A2 n2 k2, .slice A3 n3 k3] := by
  obtain ⟨v0, v1, v2, v3, _, _, _, _, rfl, h0, h1, h2, h3, _⟩ := h
  obtain ⟨A0, k0, rfl⟩ := ManyE.slice h0
  obtain ⟨A1, k1, rfl⟩ := ManyE.slice h1
  obtain ⟨A2, k2, rfl⟩ := RowE.slice h2
  obtain ⟨A3, k3, rfl⟩ := RowE.slice h3
  exact ⟨A0, _, k0, A1, _, k1, A2, _, k2, A3, _, k3, rfl⟩
def szA (c : Al) : Nat := (szL lenI) c.prod + ((szL lenI) c.wrap + (lenI c.inner + (List.length c.accept)))
structure BdA (c : Al) : Prop where
  prod : Bd2 c.prod
  wrap : Bd2 c.wrap
  inner : Bd1 c.inner
  accept : Bd1 c.accept
  sum : szA c ≤ 2100000

set_option maxHeartbeats 3200000 in
set_option maxRecDepth 100000 in
theorem eq_algebra {base base' : Nat} {v v' : Value} {c : Al} {bs bs' : List Nat} (w : World) (hc : BdA c) (ha : AlE base w v c bs) (hb : AlE base' w v' c bs') :
    Calls Try.prog 17 #[v, v'] w (SeenPost (.bool true) w) := by
  obtain ⟨v0, v1, v2, v3, b0, b1, b2, b3, rfl, h0, h1, h2, h3, _, _⟩ := ha
  obtain ⟨u0, u1, u2, u3, _, _, _, _, rfl, g0, g1, g2, g3, _, _⟩ := hb
  have q0 := Lib.hid fun (W : World) (hw : Below w.heap.size w W) => eq_ints2 W hc.prod ((ints2_ok base).later h0 hw) ((ints2_ok base').later g0 hw)
  have q1 := Lib.hid fun (W : World) (hw : Below w.heap.size w W) => eq_ints2 W hc.wrap ((ints2_ok base).later h1 hw) ((ints2_ok base').later g1 hw)
  have q2 := Lib.hid fun (W : World) (hw : Below w.heap.size w W) => eq_ints W hc.inner ((ints_ok base).later h2 hw) ((ints_ok base').later g2 hw)
  have q3 := Lib.hid fun (W : World) (hw : Below w.heap.size w W) => eq_bools W hc.accept ((bools_ok base).later h3 hw) ((bools_ok base').later g3 hw)
  have x1 := (Bx.new w 42 #[v0, v1, v2, v3]).alloc (.cells #[u0, u1, u2, u3] 42)
  have x2 := Bx.new (w.alloc (.cells #[v0, v1, v2, v3] 42)) 42 #[u0, u1, u2, u3]
  rw [World.size_alloc] at x2
  have hB : Below w.heap.size w ((w.alloc (.cells #[v0, v1, v2, v3] 42)).alloc (.cells #[u0, u1, u2, u3] 42)) := ((Below.refl _ _).alloc (Nat.le_refl _) _).alloc (by simp) _
  clear h0 h1 h2 h3 g0 g1 g2 g3 hc
  obtain ⟨p0, p1, p2, p3, pl⟩ := x1.all4
  obtain ⟨d0, d1, d2, d3, dl⟩ := x2.all4
  go_enter Try.func17, Try.ntmps17
  go_wp2_with fail
  refine (q0.out _ hB).mono ?_
  rintro e w0 ⟨rfl, hb0⟩
  replace x1 := x1.later hb0
  replace x2 := x2.later hb0
  replace hB := hB.trans (hb0.mono hB.size)
  clear p0 p1 p2 p3 pl d0 d1 d2 d3 dl
  obtain ⟨p0, p1, p2, p3, pl⟩ := x1.all4
  obtain ⟨d0, d1, d2, d3, dl⟩ := x2.all4
  go_wp2_with fail
  refine (q1.out _ hB).mono ?_
  rintro e w1 ⟨rfl, hb1⟩
  replace x1 := x1.later hb1
  replace x2 := x2.later hb1
  replace hB := hB.trans (hb1.mono hB.size)
  clear p0 p1 p2 p3 pl d0 d1 d2 d3 dl
  obtain ⟨p0, p1, p2, p3, pl⟩ := x1.all4
  obtain ⟨d0, d1, d2, d3, dl⟩ := x2.all4
  go_wp2_with fail
  refine (q2.out _ hB).mono ?_
  rintro e w2 ⟨rfl, hb2⟩
  replace x1 := x1.later hb2
  replace x2 := x2.later hb2
  replace hB := hB.trans (hb2.mono hB.size)
  clear p0 p1 p2 p3 pl d0 d1 d2 d3 dl
  obtain ⟨p0, p1, p2, p3, pl⟩ := x1.all4
  obtain ⟨d0, d1, d2, d3, dl⟩ := x2.all4
  go_wp2_with fail
  refine (q3.out _ hB).mono ?_
  rintro e w3 ⟨rfl, hb3⟩
  replace x1 := x1.later hb3
  replace x2 := x2.later hb3
  replace hB := hB.trans (hb3.mono hB.size)
  go_wp2
  go_ret
  exact ⟨rfl, hB⟩

def mkA (k : Nat) (c : Al) : Al :=
  { prod := mkI2 (k) c.prod, wrap := mkI2 (k + (szL lenI) c.prod) c.wrap, inner := mkI (k + (szL lenI) c.prod + (szL lenI) c.wrap) c.inner, accept := mkB (k + (szL lenI) c.prod + (szL lenI) c.wrap + lenI c.inner) c.accept }
structure WfA (c : Al) : Prop where
  prod : ∀ x ∈ c.prod, WfI x
  wrap : ∀ x ∈ c.wrap, WfI x
  inner : WfI c.inner
  accept : True
/-- A laws.Algebra that came in. -/
def AlR : RP Al := fun w v c => ∃ v0 v1 v2 v3, v = .agg #[v0, v1, v2, v3] ∧ Ints2R w v0 c.prod ∧ Ints2R w v1 c.wrap ∧ IntsR w v2 c.inner ∧ BoolsR w v3 c.accept
theorem algebra_r : RP.Ok AlR where
  later := by
    rintro w w' v c ⟨v0, v1, v2, v3, rfl, h0, h1, h2, h3⟩ hb
    exact ⟨v0, v1, v2, v3, rfl, ints2_r.later h0 hb, ints2_r.later h1 hb, ints_r.later h2 hb, bools_r.later h3 hb⟩
theorem AlR.form {w : World} {v : Value} {c : Al} (h : AlR w v c) : ∃ (A0 : Option Addr) (n0 k0 : Nat) (A1 : Option Addr) (n1 k1 : Nat) (A2 : Option Addr) (n2 k2 : Nat) (A3 : Option Addr) (n3 k3 : Nat),
    v = .agg #[.slice A0 n0 k0, .slice A1 n1 k1, .slice A2 n2 k2, .slice A3 n3 k3] := by
  obtain ⟨v0, v1, v2, v3, rfl, h0, h1, h2, h3⟩ := h
  obtain ⟨A0, k0, rfl, _⟩ := h0
  obtain ⟨A1, k1, rfl, _⟩ := h1
  obtain ⟨A2, k2, rfl, _⟩ := h2
  obtain ⟨A3, k3, rfl, _⟩ := h3
  exact ⟨A0, _, k0, A1, _, k1, A2, _, k2, A3, _, k3, rfl⟩

theorem cells_Algebra : Try.prog.cellsOf 39 = 4 := by kernel_rfl
theorem cells_Algebra_i : Try.prog.cellsOf 2 = 1 := by kernel_rfl
theorem cells_Algebra_0 : Try.prog.cellsOf 25 = 1 := by kernel_rfl
theorem cells_Algebra_1 : Try.prog.cellsOf 25 = 1 := by kernel_rfl
theorem cells_Algebra_2 : Try.prog.cellsOf 37 = 1 := by kernel_rfl
theorem cells_Algebra_3 : Try.prog.cellsOf 22 = 1 := by kernel_rfl
section
variable {H : Type} {enc : TypeId × Value → H} {w : World} {held : Bool}
set_option maxRecDepth 100000 in
theorem open_algebra {r : Reach} {b0 : Nat} {v : Value} {d : DataW H} {p : List MemPlace} (hv : Value.okWide Try.prog w r b0 39 v) (h : DataW.Trod enc Try.prog w 0 (fun _ => true) held 39 v d p) : ∃ c, AlR w v c ∧ WfA c := by
  obtain ⟨cs, rfl, hsz⟩ := okWide_struct Try.underlying39 hv
  rw [cells_Algebra] at hsz
  obtain ⟨fuel, hf⟩ := h
  obtain ⟨xs, n, _, _, _, hxl, hg⟩ := DataW.trod_struct Try.underlying39 hf
  obtain ⟨l⟩ := cs
  match l, hsz with
  | [c0, c1, c2, c3], _ =>
    have hx : ∀ i, i < 4 → ∃ y, xs[i]? = some y := fun i hi => ⟨xs[i]'(by rw [hxl]; exact hi), List.getElem?_eq_getElem _⟩
    obtain ⟨y0, e0⟩ := hx 0 (by decide)
    obtain ⟨y1, e1⟩ := hx 1 (by decide)
    obtain ⟨y2, e2⟩ := hx 2 (by decide)
    obtain ⟨y3, e3⟩ := hx 3 (by decide)
    have g0 : DataW.trod enc Try.prog w 0 (fun _ => true) held n 25 (([c0, c1, c2, c3].drop 0).take (Try.prog.cellsOf 25)) = some y0 := (hg 0 _ rfl).trans e0
    have g1 : DataW.trod enc Try.prog w 0 (fun _ => true) held n 25 (([c0, c1, c2, c3].drop 1).take (Try.prog.cellsOf 25)) = some y1 := (hg 1 _ rfl).trans e1
    have g2 : DataW.trod enc Try.prog w 0 (fun _ => true) held n 37 (([c0, c1, c2, c3].drop 2).take (Try.prog.cellsOf 37)) = some y2 := (hg 2 _ rfl).trans e2
    have g3 : DataW.trod enc Try.prog w 0 (fun _ => true) held n 22 (([c0, c1, c2, c3].drop 3).take (Try.prog.cellsOf 22)) = some y3 := (hg 3 _ rfl).trans e3
    rw [cells_Algebra_0] at g0
    rw [cells_Algebra_1] at g1
    rw [cells_Algebra_2] at g2
    rw [cells_Algebra_3] at g3
    simp only [List.drop_zero, List.drop_succ_cons, List.take_succ_cons, List.take_zero] at g0 g1 g2 g3
    obtain ⟨x0, r0, w0⟩ := read_ints2 g0
    obtain ⟨x1, r1, w1⟩ := read_ints2 g1
    obtain ⟨x2, r2, w2⟩ := read_ints g2
    obtain ⟨x3, r3, w3⟩ := read_bools g3
    exact ⟨⟨x0, x1, x2, x3⟩, ⟨c0, c1, c2, c3, rfl, r0, r1, r2, r3⟩, ⟨w0, w1, w2, trivial⟩⟩
end

/-- While toAlgebra runs: the argument's box, the result's, and that of what is made. -/
structure StgAl (w W : World) (c1 c2 c3 : Array Value) : Prop where
  b1 : Bx W w.heap.size 39 c1
  b2 : Bx W (w.heap.size + 1) 42 c2
  b3 : Bx W (w.heap.size + 1 + 1) 42 c3
  below : Below w.heap.size w W
theorem StgAl.size {w W : World} {c1 c2 c3 : Array Value} (h : StgAl w W c1 c2 c3) : w.heap.size + 1 + 1 + 1 ≤ W.heap.size := h.b3.lt
theorem StgAl.next {w W W' : World} {c1 c2 c3 : Array Value} (h : StgAl w W c1 c2 c3) (hb : Below W.heap.size W W') (i : Nat) (u : Value) : StgAl w (W'.setCell ⟨w.heap.size + 1 + 1, i, none⟩ u) c1 c2 (c3.setIfInBounds i u) :=
  ⟨(h.b1.later hb).other i u (by omega), (h.b2.later hb).other i u (by omega), (h.b3.later hb).set i u, (h.below.trans (hb.mono h.below.size)).setCell (p := ⟨w.heap.size + 1 + 1, i, none⟩) (by simp; omega) u⟩
set_option maxHeartbeats 3200000 in
set_option maxRecDepth 100000 in
theorem to_algebra {v : Value} {c : Al} (w : World) (hc : BdA c) (ha : AlR w v c) : Calls Try.prog 15 #[v] w (NewPost AlE c w) := by
  obtain ⟨v0, v1, v2, v3, rfl, h0, h1, h2, h3⟩ := ha
  have q0 := Lib.hid fun (W : World) (hw : Below w.heap.size w W) => to_ints2 W hc.prod (ints2_r.later h0 hw)
  have q1 := Lib.hid fun (W : World) (hw : Below w.heap.size w W) => to_ints2 W hc.wrap (ints2_r.later h1 hw)
  have q2 := Lib.hid fun (W : World) (hw : Below w.heap.size w W) => to_ints W hc.inner (ints_r.later h2 hw)
  have q3 := Lib.hid fun (W : World) (hw : Below w.heap.size w W) => to_bools W hc.accept (bools_r.later h3 hw)
  clear h0 h1 h2 h3 hc
  obtain ⟨x0, x1, x2, x3⟩ := c
  dsimp only at q0 q1 q2 q3 ⊢
  obtain ⟨W0, hW0⟩ : ∃ W0, W0 = ((w.alloc (.cells #[v0, v1, v2, v3] 39)).alloc (.cells #[.slice none 0 0, .slice none 0 0, .slice none 0 0, .slice none 0 0] 42)).alloc (.cells #[.slice none 0 0, .slice none 0 0, .slice none 0 0, .slice none 0 0] 42) := ⟨_, rfl⟩
  have y1 : Bx W0 w.heap.size 39 #[v0, v1, v2, v3] := by rw [hW0]; exact ((Bx.new w _ _).alloc _).alloc _
  have y2 : Bx W0 (w.heap.size + 1) 42 #[.slice none 0 0, .slice none 0 0, .slice none 0 0, .slice none 0 0] := by
    rw [hW0]
    have := (Bx.new (w.alloc (.cells #[v0, v1, v2, v3] 39)) 42 #[.slice none 0 0, .slice none 0 0, .slice none 0 0, .slice none 0 0]).alloc (.cells #[.slice none 0 0, .slice none 0 0, .slice none 0 0, .slice none 0 0] 42)
    rwa [World.size_alloc] at this
  have y3 : Bx W0 (w.heap.size + 1 + 1) 42 #[.slice none 0 0, .slice none 0 0, .slice none 0 0, .slice none 0 0] := by
    rw [hW0]
    have := Bx.new ((w.alloc (.cells #[v0, v1, v2, v3] 39)).alloc (.cells #[.slice none 0 0, .slice none 0 0, .slice none 0 0, .slice none 0 0] 42)) 42 #[.slice none 0 0, .slice none 0 0, .slice none 0 0, .slice none 0 0]
    rwa [World.size_alloc, World.size_alloc] at this
  have hB0 : Below w.heap.size w W0 := by rw [hW0]; exact (((Below.refl _ _).alloc (Nat.le_refl _) _).alloc (by simp) _).alloc (by simp; omega) _
  have hz0 : W0.heap.size = w.heap.size + 1 + 1 + 1 := by rw [hW0]; simp
  have S0 : StgAl w W0 #[v0, v1, v2, v3] #[.slice none 0 0, .slice none 0 0, .slice none 0 0, .slice none 0 0] #[.slice none 0 0, .slice none 0 0, .slice none 0 0, .slice none 0 0] := ⟨y1, y2, y3, hB0⟩
  have HW0 := Lib.hid hW0
  have hS := S0.size
  clear hW0 y1 y2 y3
  go_enter Try.func15, Try.ntmps15
  go_wp2_with fail
  rw [← HW0.out]
  refine (q0.out _ hB0).mono ?_
  rintro e w0 ⟨r0, bs0, rfl, E0, hb0⟩
  obtain ⟨A0, k0, rfl⟩ := ManyE.slice E0
  have S1 := S0.next hb0 0 (.slice A0 x0.length k0)
  have l0 := (ints2_ok _).lt E0
  have t0 := S1.size
  have F0 := E0
  replace E0 := keepE (ints2_ok _) E0 (Below.refl _ _) (B := w.heap.size + 1 + 1) (fun b hb => by have := l0 b hb; omega) 0 (.slice A0 x0.length k0)
  have c0 := (S0.b1.later hb0).cell 1 (v1) rfl
  have c1 := (S0.b3.later hb0).cell 0 (.slice none 0 0) rfl
  have c2 := (S0.b3.later hb0).frozen 0
  go_wp2_with fail
  refine (q1.out _ S1.below).mono ?_
  clear c0 c1 c2
  rintro e w1 ⟨r1, bs1, rfl, E1, hb1⟩
  obtain ⟨A1, k1, rfl⟩ := ManyE.slice E1
  have S2 := S1.next hb1 1 (.slice A1 x1.length k1)
  have l1 := (ints2_ok _).lt E1
  have t1 := S2.size
  rw [size_set] at l1 t0
  replace E0 := keepE (ints2_ok _) E0 hb1 (B := w.heap.size + 1 + 1) (fun b hb => by have := l0 b hb; omega) 1 (.slice A1 x1.length k1)
  have F1 := E1
  replace E1 := keepE (ints2_ok _) E1 (Below.refl _ _) (B := w.heap.size + 1 + 1) (fun b hb => by have := l1 b hb; omega) 1 (.slice A1 x1.length k1)
  have c0 := (S1.b1.later hb1).cell 2 (v2) rfl
  have c1 := (S1.b3.later hb1).cell 1 (.slice none 0 0) rfl
  have c2 := (S1.b3.later hb1).frozen 1
  go_wp2_with fail
  refine (q2.out _ S2.below).mono ?_
  clear c0 c1 c2
  rintro e w2 ⟨r2, bs2, rfl, E2, hb2⟩
  obtain ⟨A2, k2, rfl⟩ := RowE.slice E2
  have S3 := S2.next hb2 2 (.slice A2 x2.length k2)
  have l2 := (ints_ok _).lt E2
  have t2 := S3.size
  rw [size_set] at l2 t1
  replace E0 := keepE (ints2_ok _) E0 hb2 (B := w.heap.size + 1 + 1) (fun b hb => by have := l0 b hb; omega) 2 (.slice A2 x2.length k2)
  replace E1 := keepE (ints2_ok _) E1 hb2 (B := w.heap.size + 1 + 1) (fun b hb => by have := l1 b hb; omega) 2 (.slice A2 x2.length k2)
  have F2 := E2
  replace E2 := keepE (ints_ok _) E2 (Below.refl _ _) (B := w.heap.size + 1 + 1) (fun b hb => by have := l2 b hb; omega) 2 (.slice A2 x2.length k2)
  have c0 := (S2.b1.later hb2).cell 3 (v3) rfl
  have c1 := (S2.b3.later hb2).cell 2 (.slice none 0 0) rfl
  have c2 := (S2.b3.later hb2).frozen 2
  go_wp2_with fail
  refine (q3.out _ S3.below).mono ?_
  clear c0 c1 c2
  rintro e w3 ⟨r3, bs3, rfl, E3, hb3⟩
  obtain ⟨A3, k3, rfl⟩ := RowE.slice E3
  have S4 := S3.next hb3 3 (.slice A3 x3.length k3)
  have l3 := (bools_ok _).lt E3
  have t3 := S4.size
  rw [size_set] at l3 t2
  replace E0 := keepE (ints2_ok _) E0 hb3 (B := w.heap.size + 1 + 1) (fun b hb => by have := l0 b hb; omega) 3 (.slice A3 x3.length k3)
  replace E1 := keepE (ints2_ok _) E1 hb3 (B := w.heap.size + 1 + 1) (fun b hb => by have := l1 b hb; omega) 3 (.slice A3 x3.length k3)
  replace E2 := keepE (ints_ok _) E2 hb3 (B := w.heap.size + 1 + 1) (fun b hb => by have := l2 b hb; omega) 3 (.slice A3 x3.length k3)
  have F3 := E3
  replace E3 := keepE (bools_ok _) E3 (Below.refl _ _) (B := w.heap.size + 1 + 1) (fun b hb => by have := l3 b hb; omega) 3 (.slice A3 x3.length k3)
  have c1 := (S3.b3.later hb3).cell 3 (.slice none 0 0) rfl
  have c2 := (S3.b3.later hb3).frozen 3
  rw [size_set] at t3
  have d0 := S4.b3.cell 0 (.slice A0 x0.length k0) rfl
  have d1 := S4.b3.cell 1 (.slice A1 x1.length k1) rfl
  have d2 := S4.b3.cell 2 (.slice A2 x2.length k2) rfl
  have d3 := S4.b3.cell 3 (.slice A3 x3.length k3) rfl
  have p1 := S4.b2
  have e0 := p1.cell 0 (.slice none 0 0) rfl
  have f0 := p1.frozen 0
  have e1 := p1.cell 1 (.slice none 0 0) rfl
  have f1 := p1.frozen 1
  have e2 := p1.cell 2 (.slice none 0 0) rfl
  have f2 := p1.frozen 2
  have e3 := p1.cell 3 (.slice none 0 0) rfl
  have f3 := p1.frozen 3
  have pf := ((((p1.set 0 (.slice A0 x0.length k0)).set 1 (.slice A1 x1.length k1)).set 2 (.slice A2 x2.length k2)).set 3 (.slice A3 x3.length k3))
  have g0 := pf.cell 0 (.slice A0 x0.length k0) rfl
  have g1 := pf.cell 1 (.slice A1 x1.length k1) rfl
  have g2 := pf.cell 2 (.slice A2 x2.length k2) rfl
  have g3 := pf.cell 3 (.slice A3 x3.length k3) rfl
  replace E0 := keepE (ints2_ok _) E0 (Below.refl _ _) (B := w.heap.size + 1) (fun b hb => by have := l0 b hb; omega) 0 (.slice A0 x0.length k0)
  replace E0 := keepE (ints2_ok _) E0 (Below.refl _ _) (B := w.heap.size + 1) (fun b hb => by have := l0 b hb; omega) 1 (.slice A1 x1.length k1)
  replace E0 := keepE (ints2_ok _) E0 (Below.refl _ _) (B := w.heap.size + 1) (fun b hb => by have := l0 b hb; omega) 2 (.slice A2 x2.length k2)
  replace E0 := keepE (ints2_ok _) E0 (Below.refl _ _) (B := w.heap.size + 1) (fun b hb => by have := l0 b hb; omega) 3 (.slice A3 x3.length k3)
  replace E1 := keepE (ints2_ok _) E1 (Below.refl _ _) (B := w.heap.size + 1) (fun b hb => by have := l1 b hb; omega) 0 (.slice A0 x0.length k0)
  replace E1 := keepE (ints2_ok _) E1 (Below.refl _ _) (B := w.heap.size + 1) (fun b hb => by have := l1 b hb; omega) 1 (.slice A1 x1.length k1)
  replace E1 := keepE (ints2_ok _) E1 (Below.refl _ _) (B := w.heap.size + 1) (fun b hb => by have := l1 b hb; omega) 2 (.slice A2 x2.length k2)
  replace E1 := keepE (ints2_ok _) E1 (Below.refl _ _) (B := w.heap.size + 1) (fun b hb => by have := l1 b hb; omega) 3 (.slice A3 x3.length k3)
  replace E2 := keepE (ints_ok _) E2 (Below.refl _ _) (B := w.heap.size + 1) (fun b hb => by have := l2 b hb; omega) 0 (.slice A0 x0.length k0)
  replace E2 := keepE (ints_ok _) E2 (Below.refl _ _) (B := w.heap.size + 1) (fun b hb => by have := l2 b hb; omega) 1 (.slice A1 x1.length k1)
  replace E2 := keepE (ints_ok _) E2 (Below.refl _ _) (B := w.heap.size + 1) (fun b hb => by have := l2 b hb; omega) 2 (.slice A2 x2.length k2)
  replace E2 := keepE (ints_ok _) E2 (Below.refl _ _) (B := w.heap.size + 1) (fun b hb => by have := l2 b hb; omega) 3 (.slice A3 x3.length k3)
  replace E3 := keepE (bools_ok _) E3 (Below.refl _ _) (B := w.heap.size + 1) (fun b hb => by have := l3 b hb; omega) 0 (.slice A0 x0.length k0)
  replace E3 := keepE (bools_ok _) E3 (Below.refl _ _) (B := w.heap.size + 1) (fun b hb => by have := l3 b hb; omega) 1 (.slice A1 x1.length k1)
  replace E3 := keepE (bools_ok _) E3 (Below.refl _ _) (B := w.heap.size + 1) (fun b hb => by have := l3 b hb; omega) 2 (.slice A2 x2.length k2)
  replace E3 := keepE (bools_ok _) E3 (Below.refl _ _) (B := w.heap.size + 1) (fun b hb => by have := l3 b hb; omega) 3 (.slice A3 x3.length k3)
  have hBf := ((((S4.below.setCell (p := ⟨w.heap.size + 1, 0, none⟩) (by simp) (.slice A0 x0.length k0)).setCell (p := ⟨w.heap.size + 1, 1, none⟩) (by simp) (.slice A1 x1.length k1)).setCell (p := ⟨w.heap.size + 1, 2, none⟩) (by simp) (.slice A2 x2.length k2)).setCell (p := ⟨w.heap.size + 1, 3, none⟩) (by simp) (.slice A3 x3.length k3))
  have m1 := hb1.size
  have m2 := hb2.size
  have m3 := hb3.size
  rw [size_set] at m1 m2 m3
  have hn : (bs0 ++ (bs1 ++ (bs2 ++ (bs3)))).Nodup := by
    have dis : ∀ (x y : List Nat), x.Nodup → y.Nodup → (∀ b ∈ y, b ∉ x) → (x ++ y).Nodup := fun x y h1 h2 h3 => List.nodup_append.2 ⟨h1, h2, fun b hb b' hb' e => h3 b' hb' (e ▸ hb)⟩
    have n0 := (ints2_ok _).nodup F0
    have n1 := (ints2_ok _).nodup F1
    have n2 := (ints_ok _).nodup F2
    have n3 := (bools_ok _).nodup F3
    have z2 := dis _ _ n2 n3 (fun b hb hb' => by
      have := l2 b hb'
      try simp only [List.mem_append] at hb
      · have := l3 b hb; omega)
    have z1 := dis _ _ n1 z2 (fun b hb hb' => by
      have := l1 b hb'
      try simp only [List.mem_append] at hb
      rcases hb with hb | hb
      · have := l2 b hb; omega
      · have := l3 b hb; omega)
    have z0 := dis _ _ n0 z1 (fun b hb hb' => by
      have := l0 b hb'
      try simp only [List.mem_append] at hb
      rcases hb with hb | hb | hb
      · have := l1 b hb; omega
      · have := l2 b hb; omega
      · have := l3 b hb; omega)
    exact z0
  have Hn := Lib.hid hn
  clear hn
  go_wp2
  have hz1 : w.heap.size ≤ W0.heap.size := by omega
  have hz2 : w.heap.size ≤ w0.heap.size := by omega
  have hz3 : w.heap.size ≤ w1.heap.size := by omega
  have hz4 : w.heap.size ≤ w2.heap.size := by omega
  refine bodyPost_ret (v := .agg #[.slice A0 x0.length k0, .slice A1 x1.length k1, .slice A2 x2.length k2, .slice A3 x3.length k3]) (by simp [results, Try.results15, go_sem, g0, g1, g2, g3]) rfl ?_
  exact ⟨_, _, rfl, ⟨_, _, _, _, bs0, bs1, bs2, bs3, rfl, ints2_base hz1 _ _ _ _ E0, ints2_base (by rw [size_set]; exact hz2) _ _ _ _ E1, ints_base (by rw [size_set]; exact hz3) _ _ _ _ E2, bools_base (by rw [size_set]; exact hz4) _ _ _ _ E3, rfl, Hn.out⟩, hBf⟩

def cntA (c : Al) : Nat := cnt2 c.prod + (cnt2 c.wrap + (lenA c.inner + (lenA c.accept)))
set_option maxHeartbeats 3200000 in
set_option maxRecDepth 100000 in
theorem sz_algebra {v : Value} {c : Al} (left : Nat) (w : World) (hl : left ≤ 1048576) (ha : AlR w v c) : Calls Try.prog 13 #[v, .int .i64 (left : Int)] w fun e w' => e = .returned (.int .i64 (dec left (cntA c))) ∧ Below w.heap.size w w' := by
  obtain ⟨v0, v1, v2, v3, rfl, h0, h1, h2, h3⟩ := ha
  obtain ⟨x0, x1, x2, x3⟩ := c
  dsimp only at h0 h1 h2 h3 ⊢
  have hB : Below w.heap.size w (w.alloc (.cells #[v0, v1, v2, v3] 39)) := (Below.refl _ _).alloc (Nat.le_refl _) _
  have q0 := Lib.hid fun (l : Nat) (hl : l ≤ 1048576) => sz_ints2 l _ hl (ints2_r.later h0 hB)
  have q1 := Lib.hid fun (l : Nat) (hl : l ≤ 1048576) => sz_ints2 l _ hl (ints2_r.later h1 hB)
  have q2 := Lib.hid fun (l : Nat) (hl : l ≤ 1048576) => sz_ints l _ hl (ints_r.later h2 hB)
  have q3 := Lib.hid fun (l : Nat) (hl : l ≤ 1048576) => sz_bools l _ hl (bools_r.later h3 hB)
  obtain ⟨a0, ha0⟩ : ∃ a, a = cnt2 x0 := ⟨_, rfl⟩
  obtain ⟨a1, ha1⟩ : ∃ a, a = cnt2 x1 := ⟨_, rfl⟩
  obtain ⟨a2, ha2⟩ : ∃ a, a = lenA x2 := ⟨_, rfl⟩
  obtain ⟨a3, ha3⟩ : ∃ a, a = lenA x3 := ⟨_, rfl⟩
  rw [← ha0] at q0
  rw [← ha1] at q1
  rw [← ha2] at q2
  rw [← ha3] at q3
  have ht : cntA ⟨x0, x1, x2, x3⟩ = a0 + (a1 + (a2 + (a3))) := by rw [cntA, ha0, ha1, ha2, ha3]
  rw [ht]
  clear ha0 ha1 ha2 ha3 ht h0 h1 h2 h3
  by_cases t0 : a0 ≤ left
  case' pos =>
    obtain ⟨l0, k0⟩ : ∃ x, left = x + a0 := ⟨left - a0, by omega⟩
    have g0 := q0.out left hl
    rw [dec_yes t0, show left - a0 = l0 from by omega] at g0
    have G0 := Lib.hid g0
    have m0 : l0 ≤ 1048576 := by omega
    clear g0 t0
    by_cases t1 : a1 ≤ l0
    case' pos =>
      obtain ⟨l1, k1⟩ : ∃ x, l0 = x + a1 := ⟨l0 - a1, by omega⟩
      have g1 := q1.out l0 m0
      rw [dec_yes t1, show l0 - a1 = l1 from by omega] at g1
      have G1 := Lib.hid g1
      have m1 : l1 ≤ 1048576 := by omega
      clear g1 t1
      by_cases t2 : a2 ≤ l1
      case' pos =>
        obtain ⟨l2, k2⟩ : ∃ x, l1 = x + a2 := ⟨l1 - a2, by omega⟩
        have g2 := q2.out l1 m1
        rw [dec_yes t2, show l1 - a2 = l2 from by omega] at g2
        have G2 := Lib.hid g2
        have m2 : l2 ≤ 1048576 := by omega
        clear g2 t2
        by_cases t3 : a3 ≤ l2
        case' pos =>
          obtain ⟨l3, k3⟩ : ∃ x, l2 = x + a3 := ⟨l2 - a3, by omega⟩
          have g3 := q3.out l2 m2
          rw [dec_yes t3, show l2 - a3 = l3 from by omega] at g3
          have G3 := Lib.hid g3
          have m3 : l3 ≤ 1048576 := by omega
          rw [dec_yes (by omega), show left - (a0 + (a1 + (a2 + (a3)))) = l3 from by omega]
          clear g3 t3 k0 k1 k2 k3
          go_enter Try.func13, Try.ntmps13
          go_wp2_with fail
          refine G0.out.mono ?_
          rintro e w' ⟨rfl, rfl⟩
          go_wp2_with fail
          refine G1.out.mono ?_
          rintro e w' ⟨rfl, rfl⟩
          go_wp2_with fail
          refine G2.out.mono ?_
          rintro e w' ⟨rfl, rfl⟩
          go_wp2_with fail
          refine G3.out.mono ?_
          rintro e w' ⟨rfl, rfl⟩
          go_wp2
          go_ret
          exact ⟨rfl, hB⟩
        case neg =>
          have g3 := q3.out l2 m2
          rw [dec_no t3] at g3
          have G3 := Lib.hid g3
          rw [dec_no (by omega)]
          clear g3 t3 k0 k1 k2
          go_enter Try.func13, Try.ntmps13
          go_wp2_with fail
          refine G0.out.mono ?_
          rintro e w' ⟨rfl, rfl⟩
          go_wp2_with fail
          refine G1.out.mono ?_
          rintro e w' ⟨rfl, rfl⟩
          go_wp2_with fail
          refine G2.out.mono ?_
          rintro e w' ⟨rfl, rfl⟩
          go_wp2_with fail
          refine G3.out.mono ?_
          rintro e w' ⟨rfl, rfl⟩
          go_wp2
          go_ret
          exact ⟨rfl, hB⟩
      case neg =>
        have g2 := q2.out l1 m1
        rw [dec_no t2] at g2
        have G2 := Lib.hid g2
        rw [dec_no (by omega)]
        clear g2 t2 k0 k1
        go_enter Try.func13, Try.ntmps13
        go_wp2_with fail
        refine G0.out.mono ?_
        rintro e w' ⟨rfl, rfl⟩
        go_wp2_with fail
        refine G1.out.mono ?_
        rintro e w' ⟨rfl, rfl⟩
        go_wp2_with fail
        refine G2.out.mono ?_
        rintro e w' ⟨rfl, rfl⟩
        go_wp2
        go_ret
        exact ⟨rfl, hB⟩
    case neg =>
      have g1 := q1.out l0 m0
      rw [dec_no t1] at g1
      have G1 := Lib.hid g1
      rw [dec_no (by omega)]
      clear g1 t1 k0
      go_enter Try.func13, Try.ntmps13
      go_wp2_with fail
      refine G0.out.mono ?_
      rintro e w' ⟨rfl, rfl⟩
      go_wp2_with fail
      refine G1.out.mono ?_
      rintro e w' ⟨rfl, rfl⟩
      go_wp2
      go_ret
      exact ⟨rfl, hB⟩
  case neg =>
    have g0 := q0.out left hl
    rw [dec_no t0] at g0
    have G0 := Lib.hid g0
    rw [dec_no (by omega)]
    clear g0 t0 
    go_enter Try.func13, Try.ntmps13
    go_wp2_with fail
    refine G0.out.mono ?_
    rintro e w' ⟨rfl, rfl⟩
    go_wp2
    go_ret
    exact ⟨rfl, hB⟩

theorem bd_of_algebra {c : Al} (h : cntA c ≤ 1048576) : BdA c := by
  unfold cntA at h
  have g0 : cnt2 c.prod ≤ 1048576 := by omega
  have g1 : cnt2 c.wrap ≤ 1048576 := by omega
  have g2 : lenA c.inner ≤ 1048576 := by omega
  have g3 : lenA c.accept ≤ 1048576 := by omega
  refine ⟨bd2_of g0, bd2_of g1, bd1_of g2, bd1_of g3, ?_⟩
  have z0 := le_ints2 c.prod
  have z1 := le_ints2 c.wrap
  have z2 := le_ints c.inner
  have z3 := le_bools c.accept
  unfold szA
  omega
end Go.Proofs.Ytennjggeimeieaa
