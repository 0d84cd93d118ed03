/- An edit that comes in, and the laws' own functions on it. -/
import Derived.Test.YtcdgfmaclgegnaaGreatDoorOpen
import Derived.Test.YtcdgfmaclgegnaaGreatDoorBox
import Derived.Test.YtcdgfmaclgegnaaGreatDoorConv
namespace Go.Proofs.YtcdgfmaclgegnaaGreatDoor
open Go.RowKit Go.ChangeShapes Go.WideShapes Go.Deep
set_option linter.unusedVariables false

theorem sz_edit (k a t : Int) (s : ByteArray) (l : Nat) (w : World) (hl : l ≤ 1048576) (hs : s.size ≤ 9223372036854775807) :
    Calls Tryz.prog 9 #[.agg #[.int .i64 k, .int .i64 a, .int .i64 t, .string s], .int .i64 (l : Int)] w (TupPost (.int .i64 (dec l s.size)) w) := by
  have hx := Bx.new w 28 #[.int .i64 k, .int .i64 a, .int .i64 t, .string s]
  obtain ⟨c0, c1, c2, c3, cl⟩ := id hx.all4
  have hB := (Below.refl w.heap.size w).alloc (Nat.le_refl _) (.cells #[.int .i64 k, .int .i64 a, .int .i64 t, .string s] 28)
  by_cases h1 : s.size ≤ l
  · rw [dec_yes h1, show ((l - s.size : Nat) : Int) = (l : Int) - s.size by omega]
    go_enter Tryz.func9, Tryz.ntmps9
    go_wp2
    go_ret
    exact ⟨rfl, hB⟩
  · rw [dec_no h1]
    go_enter Tryz.func9, Tryz.ntmps9
    go_wp2
    go_ret
    exact ⟨rfl, hB⟩
theorem to_edit (k a t : Int) (s : ByteArray) (w : World) :
    Calls Tryz.prog 11 #[.agg #[.int .i64 k, .int .i64 a, .int .i64 t, .string s]] w (TupPost (.agg #[.int .i64 k, .int .i64 a, .int .i64 t, .string s]) w) := by
  have hx := Bx.new w 28 #[.int .i64 k, .int .i64 a, .int .i64 t, .string s]
  obtain ⟨c0, c1, c2, c3, cl⟩ := id hx.all4
  go_enter Tryz.func11, Tryz.ntmps11
  have x2 := (Bx.new (w.alloc (.cells #[.int .i64 k, .int .i64 a, .int .i64 t, .string s] 28)) 23 #[.int .i64 k, .int .i64 a, .int .i64 t, .string s]).alloc (.cells #[.int .i64 k, .int .i64 a, .int .i64 t, .string s] 23)
  rw [World.size_alloc] at x2
  obtain ⟨e0, e1, e2, e3, el⟩ := id x2.all4
  have hB := (((Below.refl w.heap.size w).alloc (Nat.le_refl _) (.cells #[.int .i64 k, .int .i64 a, .int .i64 t, .string s] 28)).alloc (by simp) (.cells #[.int .i64 k, .int .i64 a, .int .i64 t, .string s] 23)).alloc (by simp only [World.size_alloc]; omega) (.cells #[.int .i64 k, .int .i64 a, .int .i64 t, .string s] 23)
  go_wp2
  exact bodyPost_ret (v := .agg #[.int .i64 k, .int .i64 a, .int .i64 t, .string s]) (by simp [results, Tryz.results11, go_sem, e0, e1, e2, e3]) rfl ⟨rfl, hB⟩

theorem cells_ed : Tryz.prog.cellsOf 28 = 4 := by kernel_rfl
theorem cells_edi : Tryz.prog.cellsOf 2 = 1 := by kernel_rfl
theorem cells_eds : Tryz.prog.cellsOf 9 = 1 := by kernel_rfl
section
variable {H : Type} {enc : TypeId × Value → H} {w : World} {held : Bool}
theorem read_edstr {n : Nat} {cs : List Value} {x : DataW H × List MemPlace} (h : DataW.trod enc Tryz.prog w 0 (fun _ => true) held n 9 cs = some x) : ∃ y : ByteArray, cs = [.string y] ∧ y.size ≤ maxLen := by
  obtain ⟨y, rfl, _, hw⟩ := DataW.trod_string Tryz.underlying9 h
  exact ⟨y, rfl, hw⟩
set_option maxRecDepth 100000 in
theorem read_edit {n : Nat} {cs : List Value} {x : DataW H × List MemPlace} (h : DataW.trod enc Tryz.prog w 0 (fun _ => true) held n 28 cs = some x) : ∃ (k a t : Int) (s : ByteArray), cs = [.int .i64 k, .int .i64 a, .int .i64 t, .string s] ∧ (I64 k ∧ I64 a ∧ I64 t) ∧ s.size ≤ maxLen := by
  obtain ⟨xs, m, _, _, hl, hxl, hf⟩ := DataW.trod_struct Tryz.underlying28 h
  rw [cells_ed] at hl
  have g0 : DataW.trod enc Tryz.prog w 0 (fun _ => true) held m 2 ((cs.drop 0).take (Tryz.prog.cellsOf 2)) = xs[0]? := hf 0 _ rfl
  have g1 : DataW.trod enc Tryz.prog w 0 (fun _ => true) held m 2 ((cs.drop 1).take (Tryz.prog.cellsOf 2)) = xs[1]? := hf 1 _ rfl
  have g2 : DataW.trod enc Tryz.prog w 0 (fun _ => true) held m 2 ((cs.drop 2).take (Tryz.prog.cellsOf 2)) = xs[2]? := hf 2 _ rfl
  have g3 : DataW.trod enc Tryz.prog w 0 (fun _ => true) held m 9 ((cs.drop 3).take (Tryz.prog.cellsOf 9)) = xs[3]? := hf 3 _ rfl
  rw [cells_edi] at g0 g1 g2
  rw [cells_eds] at g3
  match cs, hl with
  | [c0, c1, c2, c3], _ =>
    have hx : ∀ i, i < 4 → ∃ y, xs[i]? = some y := fun i hi => ⟨xs[i]'(by rw [hxl]; exact hi), List.getElem?_eq_getElem _⟩
    obtain ⟨y0, e0⟩ := hx 0 (by decide)
    obtain ⟨y1, e1⟩ := hx 1 (by decide)
    obtain ⟨y2, e2⟩ := hx 2 (by decide)
    obtain ⟨y3, e3⟩ := hx 3 (by decide)
    rw [e0] at g0
    rw [e1] at g1
    rw [e2] at g2
    rw [e3] at g3
    simp only [List.drop_zero, List.drop_succ_cons, List.take_succ_cons, List.take_zero] at g0 g1 g2 g3
    obtain ⟨k, hk, wk⟩ := read_int g0
    obtain ⟨a, ha, wa⟩ := read_int g1
    obtain ⟨t, ht, wt⟩ := read_int g2
    obtain ⟨s, hs, ws⟩ := read_edstr g3
    simp only [List.cons.injEq, and_true] at hk ha ht hs
    exact ⟨k, a, t, s, by rw [hk, ha, ht, hs], ⟨wk, wa, wt⟩, ws⟩
set_option maxRecDepth 100000 in
theorem open_edit {r : Reach} {b0 : Nat} {v : Value} {d : DataW H} {p : List MemPlace} (hv : Value.okWide Tryz.prog w r b0 28 v) (h : DataW.Trod enc Tryz.prog w 0 (fun _ => true) held 28 v d p) : ∃ (k a t : Int) (s : ByteArray), v = .agg #[.int .i64 k, .int .i64 a, .int .i64 t, .string s] ∧ (I64 k ∧ I64 a ∧ I64 t) ∧ s.size ≤ maxLen := by
  obtain ⟨cs, rfl, hsz⟩ := okWide_struct Tryz.underlying28 hv
  rw [cells_ed] at hsz
  obtain ⟨fuel, hf⟩ := h
  obtain ⟨xs, n, _, _, _, hxl, hg⟩ := DataW.trod_struct Tryz.underlying28 hf
  obtain ⟨l⟩ := cs
  match l, hsz with
  | [c0, c1, c2, c3], _ =>
    have hx : ∀ i, i < 4 → ∃ y, xs[i]? = some y := fun i hi => ⟨xs[i]'(by rw [hxl]; exact hi), List.getElem?_eq_getElem _⟩
    obtain ⟨y0, e0⟩ := hx 0 (by decide)
    obtain ⟨y1, e1⟩ := hx 1 (by decide)
    obtain ⟨y2, e2⟩ := hx 2 (by decide)
    obtain ⟨y3, e3⟩ := hx 3 (by decide)
    have g0 : DataW.trod enc Tryz.prog w 0 (fun _ => true) held n 2 (([c0, c1, c2, c3].drop 0).take (Tryz.prog.cellsOf 2)) = some y0 := (hg 0 _ rfl).trans e0
    have g1 : DataW.trod enc Tryz.prog w 0 (fun _ => true) held n 2 (([c0, c1, c2, c3].drop 1).take (Tryz.prog.cellsOf 2)) = some y1 := (hg 1 _ rfl).trans e1
    have g2 : DataW.trod enc Tryz.prog w 0 (fun _ => true) held n 2 (([c0, c1, c2, c3].drop 2).take (Tryz.prog.cellsOf 2)) = some y2 := (hg 2 _ rfl).trans e2
    have g3 : DataW.trod enc Tryz.prog w 0 (fun _ => true) held n 9 (([c0, c1, c2, c3].drop 3).take (Tryz.prog.cellsOf 9)) = some y3 := (hg 3 _ rfl).trans e3
    rw [cells_edi] at g0 g1 g2
    rw [cells_eds] at g3
    simp only [List.drop_zero, List.drop_succ_cons, List.take_succ_cons, List.take_zero] at g0 g1 g2 g3
    obtain ⟨k, hk, wk⟩ := read_int g0
    obtain ⟨a, ha, wa⟩ := read_int g1
    obtain ⟨t, ht, wt⟩ := read_int g2
    obtain ⟨s, hs, ws⟩ := read_edstr g3
    simp only [List.cons.injEq, and_true] at hk ha ht hs
    exact ⟨k, a, t, s, by rw [hk, ha, ht, hs], ⟨wk, wa, wt⟩, ws⟩
end
end Go.Proofs.YtcdgfmaclgegnaaGreatDoor
