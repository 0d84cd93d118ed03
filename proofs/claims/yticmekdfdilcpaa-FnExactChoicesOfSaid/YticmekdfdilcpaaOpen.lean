/- Arguments opened: what a laws.Checker that came in reads as. -/
import Derived.Test.YticmekdfdilcpaaTo
import Derived.Test.YticmekdfdilcpaaChk
import Derived.Deep.Slices
import Derived.Deep.Fields
import Derived.Lib.SmallJoins
namespace Go.Proofs.Yticmekdfdilcpaa
open Go.RowKit Go.ChangeShapes Go.WideShapes Go.Deep
set_option linter.unusedVariables false

section
variable {H : Type} {enc : TypeId × Value → H} {P : Program} {w : World} {base : Nat} {held : Bool}
theorem open_row {α : Type} [Inhabited α] {t e : TypeId} {size : Nat} {en : α → List Value} {wf : α → Prop} (ht : P.underlying t = some (.slice e)) (hc : P.cellsOf e = size)
    (elem : ∀ (n : Nat) (cs : List Value) (x : DataW H × List MemPlace), DataW.trod enc P w base (fun _ => true) held n e cs = some x → ∃ y : α, cs = en y ∧ wf y) {fuel : Nat} {v : Value} {x : DataW H × List MemPlace}
    (h : DataW.trod enc P w base (fun _ => true) held fuel t [v] = some x) : ∃ xs : List α, RowR size en w v xs ∧ ∀ y ∈ xs, wf y := by
  rcases open_slice ht h with ⟨h0, _⟩ | ⟨a, len, cap, m, n, D, Pl, hcs, hb, hl, hm, hmm, hx, hi⟩
  · simp only [List.cons.injEq, and_true] at h0
    exact ⟨[], ⟨none, 0, h0, Nat.zero_le _, fun j x i u hj => by simp at hj⟩, fun y hy => by cases hy⟩
  · simp only [if_true] at hmm
    simp only [List.cons.injEq, and_true] at hcs
    have each : ∀ i, i < len → ∃ y : α, (∀ k u, (en y)[k]? = some u → w.cell? ((a.add (i * size)).add k) = some u) ∧ wf y := fun i him => by
      obtain ⟨cs', h1, h2⟩ := hi i (by omega)
      rw [hc] at h1
      obtain ⟨_, hlen, hat⟩ := World.cells?_some h1
      obtain ⟨y, rfl, hw⟩ := elem n _ _ h2
      exact ⟨y, fun k u hu => (hat k (by rw [← hlen]; exact (List.getElem?_eq_some_iff.1 hu).1)).trans hu, hw⟩
    obtain ⟨f, hf⟩ := choose_lt each
    refine ⟨(List.range len).map f, ⟨some a, cap, by rw [hcs]; simp, by simp; omega, fun j x i u hj hu => ?_⟩, fun y hy => ?_⟩
    · have hjl := (List.getElem?_eq_some_iff.1 hj).1
      simp at hjl
      rw [List.getElem?_map, List.getElem?_range hjl] at hj
      cases hj
      have := (hf j hjl).1 i u hu
      have hbl := World.block_lt_of_cell? w _ this
      rw [add_block, add_block] at hbl
      exact ⟨a, rfl, hbl, this⟩
    · obtain ⟨i, hi, rfl⟩ := List.mem_map.1 hy
      exact (hf i (List.mem_range.1 hi)).2
theorem open_many {α : Type} [Inhabited α] {t e : TypeId} {R : RP α} {wf : α → Prop} (ht : P.underlying t = some (.slice e)) (hc : P.cellsOf e = 1)
    (elem : ∀ (n : Nat) (v : Value) (x : DataW H × List MemPlace), DataW.trod enc P w base (fun _ => true) held n e [v] = some x → ∃ y : α, R w v y ∧ wf y) {fuel : Nat} {v : Value} {x : DataW H × List MemPlace}
    (h : DataW.trod enc P w base (fun _ => true) held fuel t [v] = some x) : ∃ xs : List α, ManyR R w v xs ∧ ∀ y ∈ xs, wf y := by
  rcases open_slice1 ht hc h with ⟨h0, _⟩ | ⟨a, len, cap, m, n, V, D, Pl, hcs, hb, hl, hm, hmm, hx, hi⟩
  · simp only [List.cons.injEq, and_true] at h0
    exact ⟨[], ⟨none, 0, h0, Nat.zero_le _, fun j x hj => by simp at hj⟩, fun y hy => by cases hy⟩
  · simp only [if_true] at hmm
    simp only [List.cons.injEq, and_true] at hcs
    have each : ∀ i, i < len → ∃ y : α, R w (V i) y ∧ wf y := fun i him => elem n _ _ (hi i (by omega)).2
    obtain ⟨f, hf⟩ := choose_lt each
    refine ⟨(List.range len).map f, ⟨some a, cap, by rw [hcs]; simp, by simp; omega, fun j x hj => ?_⟩, fun y hy => ?_⟩
    · have hjl := (List.getElem?_eq_some_iff.1 hj).1
      simp at hjl
      rw [List.getElem?_map, List.getElem?_range hjl] at hj
      cases hj
      have := (hi j (by omega)).1
      have hbl := World.block_lt_of_cell? w _ this
      rw [add_block] at hbl
      exact ⟨a, V j, rfl, hbl, this, (hf j hjl).1⟩
    · obtain ⟨i, hi, rfl⟩ := List.mem_map.1 hy
      exact (hf i (List.mem_range.1 hi)).2
end

def I64 (n : Int) : Prop := (Lit.int .i64 n).wf = true
section
variable {H : Type} {enc : TypeId × Value → H} {w : World} {held : Bool}
theorem read_int {n : Nat} {cs : List Value} {x : DataW H × List MemPlace} (h : DataW.trod enc Try.prog w 0 (fun _ => true) held n 2 cs = some x) : ∃ y : Int, cs = [.int .i64 y] ∧ I64 y := by
  obtain ⟨y, rfl, _, hw⟩ := DataW.trod_int Try.underlying2 h
  exact ⟨y, rfl, hw⟩
theorem read_bool {n : Nat} {cs : List Value} {x : DataW H × List MemPlace} (h : DataW.trod enc Try.prog w 0 (fun _ => true) held n 4 cs = some x) : ∃ y : Bool, cs = [.bool y] ∧ True := by
  obtain ⟨y, rfl, _⟩ := DataW.trod_bool Try.underlying4 h
  exact ⟨y, rfl, trivial⟩
end

theorem cells_i64 : Try.prog.cellsOf 2 = 1 := by kernel_rfl
theorem cells_bool : Try.prog.cellsOf 4 = 1 := by kernel_rfl
theorem cells_push : Try.prog.cellsOf 176 = 2 := by kernel_rfl
theorem cells_ints : Try.prog.cellsOf 22 = 1 := by kernel_rfl
theorem cells_bools : Try.prog.cellsOf 23 = 1 := by kernel_rfl
theorem cells_ints2 : Try.prog.cellsOf 38 = 1 := by kernel_rfl
theorem cells_ints3 : Try.prog.cellsOf 26 = 1 := by kernel_rfl
theorem cells_pushes : Try.prog.cellsOf 129 = 1 := by kernel_rfl
theorem cells_pushes2 : Try.prog.cellsOf 37 = 1 := by kernel_rfl
theorem cells_ck : Try.prog.cellsOf 40 = 6 := by kernel_rfl

section
variable {H : Type} {enc : TypeId × Value → H} {w : World} {held : Bool}
set_option maxRecDepth 100000 in
theorem read_push {n : Nat} {cs : List Value} {x : DataW H × List MemPlace} (h : DataW.trod enc Try.prog w 0 (fun _ => true) held n 176 cs = some x) : ∃ y : Int × Int, cs = [.int .i64 y.1, .int .i64 y.2] ∧ (I64 y.1 ∧ I64 y.2) := by
  obtain ⟨xs, m, _, _, hl, hxl, hf⟩ := DataW.trod_struct Try.underlying176 h
  rw [cells_push] at hl
  have h0 : DataW.trod enc Try.prog w 0 (fun _ => true) held m 2 ((cs.drop 0).take (Try.prog.cellsOf 2)) = xs[0]? := hf 0 _ rfl
  have h1 : DataW.trod enc Try.prog w 0 (fun _ => true) held m 2 ((cs.drop 1).take (Try.prog.cellsOf 2)) = xs[1]? := hf 1 _ rfl
  rw [cells_i64] at h0 h1
  match cs, hl with
  | [c0, c1], _ =>
    have hx0 : xs[0]? = some (xs[0]'(by rw [hxl]; decide)) := List.getElem?_eq_getElem _
    have hx1 : xs[1]? = some (xs[1]'(by rw [hxl]; decide)) := List.getElem?_eq_getElem _
    rw [hx0] at h0
    rw [hx1] at h1
    obtain ⟨a, ha, wa⟩ := read_int h0
    obtain ⟨b, hb, wb⟩ := read_int h1
    simp only [List.drop_zero, List.take_succ_cons, List.take_zero, List.cons.injEq, and_true] at ha
    simp only [List.drop_succ_cons, List.drop_zero, List.take_succ_cons, List.take_zero, List.cons.injEq, and_true] at hb
    exact ⟨(a, b), by rw [ha, hb], wa, wb⟩

def WfI (xs : List Int) : Prop := ∀ y ∈ xs, I64 y
def WfP (xs : List (Int × Int)) : Prop := ∀ y ∈ xs, I64 y.1 ∧ I64 y.2
structure WfC (c : Ck) : Prop where
  stack : I64 c.stack
  start : I64 c.start
  call : ∀ x ∈ c.call, WfP x
  ret : ∀ x ∈ c.ret, ∀ y ∈ x, WfI y
  inner : ∀ x ∈ c.inner, WfI x

/-- A laws.Checker that came in. -/
def CkR : RP Ck := fun w v c => ∃ va vc vr vi, v = .agg #[.int .i64 c.stack, .int .i64 c.start, va, vc, vr, vi] ∧ BoolsR w va c.accept ∧ Push2R w vc c.call ∧ Ints3R w vr c.ret ∧ Ints2R w vi c.inner
theorem ck_r : RP.Ok CkR where
  later := by
    rintro w w' v c ⟨va, vc, vr, vi, rfl, h1, h2, h3, h4⟩ hb
    exact ⟨va, vc, vr, vi, rfl, bools_r.later h1 hb, pushes2_r.later h2 hb, ints3_r.later h3 hb, ints2_r.later h4 hb⟩

theorem read_ints {n : Nat} {v : Value} {x : DataW H × List MemPlace} (h : DataW.trod enc Try.prog w 0 (fun _ => true) held n 22 [v] = some x) : ∃ y, IntsR w v y ∧ WfI y :=
  open_row Try.underlying22 cells_i64 (fun _ _ _ h => read_int h) h
theorem read_bools {n : Nat} {v : Value} {x : DataW H × List MemPlace} (h : DataW.trod enc Try.prog w 0 (fun _ => true) held n 23 [v] = some x) : ∃ y, BoolsR w v y ∧ ∀ z ∈ y, True :=
  open_row Try.underlying23 cells_bool (fun _ _ _ h => read_bool h) h
theorem read_pushes {n : Nat} {v : Value} {x : DataW H × List MemPlace} (h : DataW.trod enc Try.prog w 0 (fun _ => true) held n 129 [v] = some x) : ∃ y, PushR w v y ∧ WfP y :=
  open_row Try.underlying129 cells_push (fun _ _ _ h => read_push h) h
theorem read_ints2 {n : Nat} {v : Value} {x : DataW H × List MemPlace} (h : DataW.trod enc Try.prog w 0 (fun _ => true) held n 38 [v] = some x) : ∃ y, Ints2R w v y ∧ ∀ z ∈ y, WfI z :=
  open_many Try.underlying38 cells_ints (fun _ _ _ h => read_ints h) h
theorem read_ints3 {n : Nat} {v : Value} {x : DataW H × List MemPlace} (h : DataW.trod enc Try.prog w 0 (fun _ => true) held n 26 [v] = some x) : ∃ y, Ints3R w v y ∧ ∀ z ∈ y, ∀ u ∈ z, WfI u :=
  open_many Try.underlying26 cells_ints2 (fun _ _ _ h => read_ints2 h) h
theorem read_pushes2 {n : Nat} {v : Value} {x : DataW H × List MemPlace} (h : DataW.trod enc Try.prog w 0 (fun _ => true) held n 37 [v] = some x) : ∃ y, Push2R w v y ∧ ∀ z ∈ y, WfP z :=
  open_many Try.underlying37 cells_pushes (fun _ _ _ h => read_pushes h) h

set_option maxRecDepth 100000 in
theorem open_ck {r : Reach} {b0 : Nat} {v : Value} {d : DataW H} {p : List MemPlace} (hv : Value.okWide Try.prog w r b0 40 v) (h : DataW.Trod enc Try.prog w 0 (fun _ => true) held 40 v d p) : ∃ c, CkR w v c ∧ WfC c := by
  obtain ⟨cs, rfl, hsz⟩ := okWide_struct Try.underlying40 hv
  rw [cells_ck] at hsz
  obtain ⟨fuel, hf⟩ := h
  obtain ⟨xs, n, _, _, _, hxl, hg⟩ := DataW.trod_struct Try.underlying40 hf
  obtain ⟨l⟩ := cs
  match l, hsz with
  | [c0, c1, c2, c3, c4, c5], _ =>
    have hx : ∀ i, i < 6 → ∃ y, xs[i]? = some y := fun i hi => ⟨xs[i]'(by rw [hxl]; exact hi), List.getElem?_eq_getElem _⟩
    obtain ⟨y0, e0⟩ := hx 0 (by decide)
    obtain ⟨y1, e1⟩ := hx 1 (by decide)
    obtain ⟨y2, e2⟩ := hx 2 (by decide)
    obtain ⟨y3, e3⟩ := hx 3 (by decide)
    obtain ⟨y4, e4⟩ := hx 4 (by decide)
    obtain ⟨y5, e5⟩ := hx 5 (by decide)
    have g0 : DataW.trod enc Try.prog w 0 (fun _ => true) held n 2 (([c0, c1, c2, c3, c4, c5].drop 0).take (Try.prog.cellsOf 2)) = some y0 := (hg 0 _ rfl).trans e0
    have g1 : DataW.trod enc Try.prog w 0 (fun _ => true) held n 2 (([c0, c1, c2, c3, c4, c5].drop 1).take (Try.prog.cellsOf 2)) = some y1 := (hg 1 _ rfl).trans e1
    have g2 : DataW.trod enc Try.prog w 0 (fun _ => true) held n 23 (([c0, c1, c2, c3, c4, c5].drop 2).take (Try.prog.cellsOf 23)) = some y2 := (hg 2 _ rfl).trans e2
    have g3 : DataW.trod enc Try.prog w 0 (fun _ => true) held n 37 (([c0, c1, c2, c3, c4, c5].drop 3).take (Try.prog.cellsOf 37)) = some y3 := (hg 3 _ rfl).trans e3
    have g4 : DataW.trod enc Try.prog w 0 (fun _ => true) held n 26 (([c0, c1, c2, c3, c4, c5].drop 4).take (Try.prog.cellsOf 26)) = some y4 := (hg 4 _ rfl).trans e4
    have g5 : DataW.trod enc Try.prog w 0 (fun _ => true) held n 38 (([c0, c1, c2, c3, c4, c5].drop 5).take (Try.prog.cellsOf 38)) = some y5 := (hg 5 _ rfl).trans e5
    rw [cells_i64] at g0 g1
    rw [cells_bools] at g2
    rw [cells_pushes2] at g3
    rw [cells_ints3] at g4
    rw [cells_ints2] at g5
    simp only [List.drop_zero, List.drop_succ_cons, List.take_succ_cons, List.take_zero] at g0 g1 g2 g3 g4 g5
    obtain ⟨a, ha, wa⟩ := read_int g0
    obtain ⟨b, hb, wb⟩ := read_int g1
    obtain ⟨ac, r2, _⟩ := read_bools g2
    obtain ⟨ca, r3, w3⟩ := read_pushes2 g3
    obtain ⟨re, r4, w4⟩ := read_ints3 g4
    obtain ⟨inn, r5, w5⟩ := read_ints2 g5
    simp only [List.cons.injEq, and_true] at ha hb
    exact ⟨⟨a, b, ac, ca, re, inn⟩, ⟨c2, c3, c4, c5, by rw [ha, hb], r2, r3, r4, r5⟩, ⟨wa, wb, w3, w4, w5⟩⟩
end
end Go.Proofs.Yticmekdfdilcpaa
