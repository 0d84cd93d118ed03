/- A stream that comes in. -/
import Derived.Test.YtadifihblaalpaaSmT
namespace Go.Proofs.Ytadifihblaalpaa
open Go.RowKit Go.ChangeShapes Go.WideShapes Go.Deep
set_option linter.unusedVariables false
theorem cells_sm : Try.prog.cellsOf 36 = 7 := by kernel_rfl
theorem cells_smt : Try.prog.cellsOf 34 = 1 := by kernel_rfl
section
variable {H : Type} {enc : TypeId × Value → H} {w : World} {held : Bool}
set_option maxRecDepth 100000 in
theorem read_checker {m : Nat} {cs : List Value} {x : DataW H × List MemPlace} (h : DataW.trod enc Try.prog w 0 (fun _ => true) held m 33 cs = some x) :
    ∃ c va vc vr vi, cs = [.int .i64 c.stack, .int .i64 c.start, va, vc, vr, vi] ∧ CkR w (.agg #[.int .i64 c.stack, .int .i64 c.start, va, vc, vr, vi]) c ∧ WfC c := by
  obtain ⟨xs, n, _, _, hl, hxl, hg⟩ := DataW.trod_struct Try.underlying33 h
  rw [cells_ck] at hl
  match cs, hl with
  | [c0, c1, c2, c3, c4, c5], _ =>
    have hx : ∀ i, i < 6 → ∃ y, xs[i]? = some y := fun i hi => ⟨xs[i]'(by rw [hxl]; exact hi), List.getElem?_eq_getElem _⟩
    obtain ⟨y0, e0⟩ := hx 0 (by decide)
    obtain ⟨y1, e1⟩ := hx 1 (by decide)
    obtain ⟨y2, e2⟩ := hx 2 (by decide)
    obtain ⟨y3, e3⟩ := hx 3 (by decide)
    obtain ⟨y4, e4⟩ := hx 4 (by decide)
    obtain ⟨y5, e5⟩ := hx 5 (by decide)
    have g0 : DataW.trod enc Try.prog w 0 (fun _ => true) held n 2 (([c0, c1, c2, c3, c4, c5].drop 0).take (Try.prog.cellsOf 2)) = some y0 := (hg 0 _ rfl).trans e0
    have g1 : DataW.trod enc Try.prog w 0 (fun _ => true) held n 2 (([c0, c1, c2, c3, c4, c5].drop 1).take (Try.prog.cellsOf 2)) = some y1 := (hg 1 _ rfl).trans e1
    have g2 : DataW.trod enc Try.prog w 0 (fun _ => true) held n 28 (([c0, c1, c2, c3, c4, c5].drop 2).take (Try.prog.cellsOf 28)) = some y2 := (hg 2 _ rfl).trans e2
    have g3 : DataW.trod enc Try.prog w 0 (fun _ => true) held n 29 (([c0, c1, c2, c3, c4, c5].drop 3).take (Try.prog.cellsOf 29)) = some y3 := (hg 3 _ rfl).trans e3
    have g4 : DataW.trod enc Try.prog w 0 (fun _ => true) held n 30 (([c0, c1, c2, c3, c4, c5].drop 4).take (Try.prog.cellsOf 30)) = some y4 := (hg 4 _ rfl).trans e4
    have g5 : DataW.trod enc Try.prog w 0 (fun _ => true) held n 31 (([c0, c1, c2, c3, c4, c5].drop 5).take (Try.prog.cellsOf 31)) = some y5 := (hg 5 _ rfl).trans e5
    rw [cells_i64] at g0 g1
    rw [cells_bools] at g2
    rw [cells_pushes2] at g3
    rw [cells_ints3] at g4
    rw [cells_ints2] at g5
    simp only [List.drop_zero, List.drop_succ_cons, List.take_succ_cons, List.take_zero] at g0 g1 g2 g3 g4 g5
    obtain ⟨a, ha, wa⟩ := read_int g0
    obtain ⟨b, hb, wb⟩ := read_int g1
    obtain ⟨ac, r2, _⟩ := read_bools g2
    obtain ⟨ca, r3, w3⟩ := read_pushes2 g3
    obtain ⟨re, r4, w4⟩ := read_ints3 g4
    obtain ⟨inn, r5, w5⟩ := read_ints2 g5
    simp only [List.cons.injEq, and_true] at ha hb
    subst ha
    subst hb
    exact ⟨⟨a, b, ac, ca, re, inn⟩, c2, c3, c4, c5, rfl, ⟨c2, c3, c4, c5, rfl, r2, r3, r4, r5⟩, ⟨wa, wb, w3, w4, w5⟩⟩
set_option maxRecDepth 100000 in
theorem open_stream {r : Reach} {b0 : Nat} {v : Value} {d : DataW H} {p : List MemPlace} (hv : Value.okWide Try.prog w r b0 36 v) (h : DataW.Trod enc Try.prog w 0 (fun _ => true) held 36 v d p) : ∃ c, SmR w v c ∧ WfSt c := by
  obtain ⟨cs, rfl, hsz⟩ := okWide_struct Try.underlying36 hv
  rw [cells_sm] at hsz
  obtain ⟨fuel, hf⟩ := h
  obtain ⟨xs, n, _, _, _, hxl, hg⟩ := DataW.trod_struct Try.underlying36 hf
  obtain ⟨l⟩ := cs
  match l, hsz with
  | [c0, c1, c2, c3, c4, c5, c6], _ =>
    have hx : ∀ i, i < 2 → ∃ y, xs[i]? = some y := fun i hi => ⟨xs[i]'(by rw [hxl]; exact hi), List.getElem?_eq_getElem _⟩
    obtain ⟨y0, e0⟩ := hx 0 (by decide)
    obtain ⟨y1, e1⟩ := hx 1 (by decide)
    have g0 : DataW.trod enc Try.prog w 0 (fun _ => true) held n 33 (([c0, c1, c2, c3, c4, c5, c6].drop 0).take (Try.prog.cellsOf 33)) = some y0 := (hg 0 _ rfl).trans e0
    have g1 : DataW.trod enc Try.prog w 0 (fun _ => true) held n 34 (([c0, c1, c2, c3, c4, c5, c6].drop 6).take (Try.prog.cellsOf 34)) = some y1 := (hg 1 _ rfl).trans e1
    rw [cells_ck] at g0
    rw [cells_smt] at g1
    simp only [List.drop_zero, List.drop_succ_cons, List.take_succ_cons, List.take_zero] at g0 g1
    obtain ⟨c, va, vc, vr, vi, hc, r0, w0⟩ := read_checker g0
    obtain ⟨t, r1, w1⟩ := read_strs g1
    simp only [List.cons.injEq, and_true] at hc
    obtain ⟨rfl, rfl, rfl, rfl, rfl, rfl⟩ := hc
    exact ⟨⟨c, t⟩, ⟨_, _, _, _, c6, rfl, r0, r1⟩, ⟨w0, w1⟩⟩
end
end Go.Proofs.Ytadifihblaalpaa
