/- A deed that comes in. -/
import Derived.Test.YtadifihblaalpaaDoorOpen
import Derived.Test.YtadifihblaalpaaDoorBox
import Derived.Test.YtadifihblaalpaaDoorConv
namespace Go.Proofs.YtadifihblaalpaaDoor
open Go.RowKit Go.ChangeShapes Go.WideShapes Go.Deep
set_option linter.unusedVariables false

theorem to_deed (k a b : Int) (w : World) :
    Calls Tryd.prog 6 #[.agg #[.int .i64 k, .int .i64 a, .int .i64 b]] w (TupPost (.agg #[.int .i64 k, .int .i64 a, .int .i64 b]) w) := by
  have hx := Bx.new w 23 #[.int .i64 k, .int .i64 a, .int .i64 b]
  obtain ⟨c0, c1, c2, cl⟩ := id hx.all3
  go_enter Tryd.func6, Tryd.ntmps6
  have x2 := (Bx.new (w.alloc (.cells #[.int .i64 k, .int .i64 a, .int .i64 b] 23)) 25 #[.int .i64 k, .int .i64 a, .int .i64 b]).alloc (.cells #[.int .i64 k, .int .i64 a, .int .i64 b] 25)
  rw [World.size_alloc] at x2
  obtain ⟨e0, e1, e2, el⟩ := id x2.all3
  have hB := (((Below.refl w.heap.size w).alloc (Nat.le_refl _) (.cells #[.int .i64 k, .int .i64 a, .int .i64 b] 23)).alloc (by simp) (.cells #[.int .i64 k, .int .i64 a, .int .i64 b] 25)).alloc (by simp only [World.size_alloc]; omega) (.cells #[.int .i64 k, .int .i64 a, .int .i64 b] 25)
  go_wp2
  exact bodyPost_ret (v := .agg #[.int .i64 k, .int .i64 a, .int .i64 b]) (by simp [results, Tryd.results6, go_sem, e0, e1, e2]) rfl ⟨rfl, hB⟩
theorem cells_dd : Tryd.prog.cellsOf 23 = 3 := by kernel_rfl
theorem cells_ddi : Tryd.prog.cellsOf 2 = 1 := by kernel_rfl
section
variable {H : Type} {enc : TypeId × Value → H} {w : World} {held : Bool}
set_option maxRecDepth 100000 in
theorem read_deed {n : Nat} {cs : List Value} {x : DataW H × List MemPlace} (h : DataW.trod enc Tryd.prog w 0 (fun _ => true) held n 23 cs = some x) : ∃ (k a b : Int), cs = [.int .i64 k, .int .i64 a, .int .i64 b] ∧ (I64 k ∧ I64 a ∧ I64 b) := by
  obtain ⟨xs, m, _, _, hl, hxl, hf⟩ := DataW.trod_struct Tryd.underlying23 h
  rw [cells_dd] at hl
  have g0 : DataW.trod enc Tryd.prog w 0 (fun _ => true) held m 2 ((cs.drop 0).take (Tryd.prog.cellsOf 2)) = xs[0]? := hf 0 _ rfl
  have g1 : DataW.trod enc Tryd.prog w 0 (fun _ => true) held m 2 ((cs.drop 1).take (Tryd.prog.cellsOf 2)) = xs[1]? := hf 1 _ rfl
  have g2 : DataW.trod enc Tryd.prog w 0 (fun _ => true) held m 2 ((cs.drop 2).take (Tryd.prog.cellsOf 2)) = xs[2]? := hf 2 _ rfl
  rw [cells_ddi] at g0 g1 g2
  match cs, hl with
  | [c0, c1, c2], _ =>
    have hx : ∀ i, i < 3 → ∃ y, xs[i]? = some y := fun i hi => ⟨xs[i]'(by rw [hxl]; exact hi), List.getElem?_eq_getElem _⟩
    obtain ⟨y0, e0⟩ := hx 0 (by decide)
    obtain ⟨y1, e1⟩ := hx 1 (by decide)
    obtain ⟨y2, e2⟩ := hx 2 (by decide)
    rw [e0] at g0
    rw [e1] at g1
    rw [e2] at g2
    simp only [List.drop_zero, List.drop_succ_cons, List.take_succ_cons, List.take_zero] at g0 g1 g2
    obtain ⟨k, hk, wk⟩ := read_int g0
    obtain ⟨a, ha, wa⟩ := read_int g1
    obtain ⟨b, hb, wb⟩ := read_int g2
    simp only [List.cons.injEq, and_true] at hk ha hb
    exact ⟨k, a, b, by rw [hk, ha, hb], ⟨wk, wa, wb⟩⟩
set_option maxRecDepth 100000 in
theorem open_deed {r : Reach} {b0 : Nat} {v : Value} {d : DataW H} {p : List MemPlace} (hv : Value.okWide Tryd.prog w r b0 23 v) (h : DataW.Trod enc Tryd.prog w 0 (fun _ => true) held 23 v d p) : ∃ (k a b : Int), v = .agg #[.int .i64 k, .int .i64 a, .int .i64 b] ∧ (I64 k ∧ I64 a ∧ I64 b) := by
  obtain ⟨cs, rfl, hsz⟩ := okWide_struct Tryd.underlying23 hv
  rw [cells_dd] at hsz
  obtain ⟨fuel, hf⟩ := h
  obtain ⟨xs, n, _, _, _, hxl, hg⟩ := DataW.trod_struct Tryd.underlying23 hf
  obtain ⟨l⟩ := cs
  match l, hsz with
  | [c0, c1, c2], _ =>
    have hx : ∀ i, i < 3 → ∃ y, xs[i]? = some y := fun i hi => ⟨xs[i]'(by rw [hxl]; exact hi), List.getElem?_eq_getElem _⟩
    obtain ⟨y0, e0⟩ := hx 0 (by decide)
    obtain ⟨y1, e1⟩ := hx 1 (by decide)
    obtain ⟨y2, e2⟩ := hx 2 (by decide)
    have g0 : DataW.trod enc Tryd.prog w 0 (fun _ => true) held n 2 (([c0, c1, c2].drop 0).take (Tryd.prog.cellsOf 2)) = some y0 := (hg 0 _ rfl).trans e0
    have g1 : DataW.trod enc Tryd.prog w 0 (fun _ => true) held n 2 (([c0, c1, c2].drop 1).take (Tryd.prog.cellsOf 2)) = some y1 := (hg 1 _ rfl).trans e1
    have g2 : DataW.trod enc Tryd.prog w 0 (fun _ => true) held n 2 (([c0, c1, c2].drop 2).take (Tryd.prog.cellsOf 2)) = some y2 := (hg 2 _ rfl).trans e2
    rw [cells_ddi] at g0 g1 g2
    simp only [List.drop_zero, List.drop_succ_cons, List.take_succ_cons, List.take_zero] at g0 g1 g2
    obtain ⟨k, hk, wk⟩ := read_int g0
    obtain ⟨a, ha, wa⟩ := read_int g1
    obtain ⟨b, hb, wb⟩ := read_int g2
    simp only [List.cons.injEq, and_true] at hk ha hb
    exact ⟨k, a, b, by rw [hk, ha, hb], ⟨wk, wa, wb⟩⟩
end
end Go.Proofs.YtadifihblaalpaaDoor
