/- A link that comes in, and the laws' own functions on it. -/
import Derived.Test.YtcboalnpbmnfcaaOpen
import Derived.Test.YtcboalnpbmnfcaaBox
import Derived.Test.YtcboalnpbmnfcaaConv
namespace Go.Proofs.Ytcboalnpbmnfcaa
open Go.RowKit Go.ChangeShapes Go.WideShapes Go.Deep
set_option linter.unusedVariables false

theorem sz_link (k a t : Int) (s : ByteArray) (l : Nat) (w : World) (hl : l ≤ 1048576) (hs : s.size ≤ 9223372036854775807) :
    Calls Try.prog 185 #[.agg #[.int .i64 k, .int .i64 a, .string s, .int .i64 t], .int .i64 (l : Int)] w (TupPost (.int .i64 (dec l s.size)) w) := by
  have hx := Bx.new w 228 #[.int .i64 k, .int .i64 a, .string s, .int .i64 t]
  obtain ⟨c0, c1, c2, c3, cl⟩ := id hx.all4
  have hB := (Below.refl w.heap.size w).alloc (Nat.le_refl _) (.cells #[.int .i64 k, .int .i64 a, .string s, .int .i64 t] 228)
  by_cases h1 : s.size ≤ l
  · rw [dec_yes h1, show ((l - s.size : Nat) : Int) = (l : Int) - s.size by omega]
    go_enter Try.func185, Try.ntmps185
    go_wp2
    go_ret
    exact ⟨rfl, hB⟩
  · rw [dec_no h1]
    go_enter Try.func185, Try.ntmps185
    go_wp2
    go_ret
    exact ⟨rfl, hB⟩
theorem to_link (k a t : Int) (s : ByteArray) (w : World) :
    Calls Try.prog 186 #[.agg #[.int .i64 k, .int .i64 a, .string s, .int .i64 t]] w (TupPost (.agg #[.int .i64 k, .int .i64 a, .string s, .int .i64 t]) w) := by
  have hx := Bx.new w 228 #[.int .i64 k, .int .i64 a, .string s, .int .i64 t]
  obtain ⟨c0, c1, c2, c3, cl⟩ := id hx.all4
  go_enter Try.func186, Try.ntmps186
  have x2 := (Bx.new (w.alloc (.cells #[.int .i64 k, .int .i64 a, .string s, .int .i64 t] 228)) 142 #[.int .i64 k, .int .i64 a, .string s, .int .i64 t]).alloc (.cells #[.int .i64 k, .int .i64 a, .string s, .int .i64 t] 142)
  rw [World.size_alloc] at x2
  obtain ⟨e0, e1, e2, e3, el⟩ := id x2.all4
  have hB := (((Below.refl w.heap.size w).alloc (Nat.le_refl _) (.cells #[.int .i64 k, .int .i64 a, .string s, .int .i64 t] 228)).alloc (by simp) (.cells #[.int .i64 k, .int .i64 a, .string s, .int .i64 t] 142)).alloc (by simp only [World.size_alloc]; omega) (.cells #[.int .i64 k, .int .i64 a, .string s, .int .i64 t] 142)
  go_wp2
  exact bodyPost_ret (v := .agg #[.int .i64 k, .int .i64 a, .string s, .int .i64 t]) (by simp [results, Try.results186, go_sem, e0, e1, e2, e3]) rfl ⟨rfl, hB⟩

theorem cells_lk : Try.prog.cellsOf 228 = 4 := by kernel_rfl
theorem cells_lki : Try.prog.cellsOf 2 = 1 := by kernel_rfl
theorem cells_lks : Try.prog.cellsOf 9 = 1 := by kernel_rfl
section
variable {H : Type} {enc : TypeId × Value → H} {w : World} {held : Bool}
theorem read_lkstr {n : Nat} {cs : List Value} {x : DataW H × List MemPlace} (h : DataW.trod enc Try.prog w 0 (fun _ => true) held n 9 cs = some x) : ∃ y : ByteArray, cs = [.string y] ∧ y.size ≤ maxLen := by
  obtain ⟨y, rfl, _, hw⟩ := DataW.trod_string Try.underlying9 h
  exact ⟨y, rfl, hw⟩
set_option maxRecDepth 100000 in
theorem read_link {n : Nat} {cs : List Value} {x : DataW H × List MemPlace} (h : DataW.trod enc Try.prog w 0 (fun _ => true) held n 228 cs = some x) : ∃ (k a t : Int) (s : ByteArray), cs = [.int .i64 k, .int .i64 a, .string s, .int .i64 t] ∧ (I64 k ∧ I64 a ∧ I64 t) ∧ s.size ≤ maxLen := by
  obtain ⟨xs, m, _, _, hl, hxl, hf⟩ := DataW.trod_struct Try.underlying228 h
  rw [cells_lk] at hl
  have g0 : DataW.trod enc Try.prog w 0 (fun _ => true) held m 2 ((cs.drop 0).take (Try.prog.cellsOf 2)) = xs[0]? := hf 0 _ rfl
  have g1 : DataW.trod enc Try.prog w 0 (fun _ => true) held m 2 ((cs.drop 1).take (Try.prog.cellsOf 2)) = xs[1]? := hf 1 _ rfl
  have g2 : DataW.trod enc Try.prog w 0 (fun _ => true) held m 9 ((cs.drop 2).take (Try.prog.cellsOf 9)) = xs[2]? := hf 2 _ rfl
  have g3 : DataW.trod enc Try.prog w 0 (fun _ => true) held m 2 ((cs.drop 3).take (Try.prog.cellsOf 2)) = xs[3]? := hf 3 _ rfl
  rw [cells_lki] at g0 g1 g3
  rw [cells_lks] at g2
  match cs, hl with
  | [c0, c1, c2, c3], _ =>
    have hx : ∀ i, i < 4 → ∃ y, xs[i]? = some y := fun i hi => ⟨xs[i]'(by rw [hxl]; exact hi), List.getElem?_eq_getElem _⟩
    obtain ⟨y0, e0⟩ := hx 0 (by decide)
    obtain ⟨y1, e1⟩ := hx 1 (by decide)
    obtain ⟨y2, e2⟩ := hx 2 (by decide)
    obtain ⟨y3, e3⟩ := hx 3 (by decide)
    rw [e0] at g0
    rw [e1] at g1
    rw [e2] at g2
    rw [e3] at g3
    simp only [List.drop_zero, List.drop_succ_cons, List.take_succ_cons, List.take_zero] at g0 g1 g2 g3
    obtain ⟨k, hk, wk⟩ := read_int g0
    obtain ⟨a, ha, wa⟩ := read_int g1
    obtain ⟨t, ht, wt⟩ := read_int g3
    obtain ⟨s, hs, ws⟩ := read_lkstr g2
    simp only [List.cons.injEq, and_true] at hk ha ht hs
    exact ⟨k, a, t, s, by rw [hk, ha, ht, hs], ⟨wk, wa, wt⟩, ws⟩
set_option maxRecDepth 100000 in
theorem open_link {r : Reach} {b0 : Nat} {v : Value} {d : DataW H} {p : List MemPlace} (hv : Value.okWide Try.prog w r b0 228 v) (h : DataW.Trod enc Try.prog w 0 (fun _ => true) held 228 v d p) : ∃ (k a t : Int) (s : ByteArray), v = .agg #[.int .i64 k, .int .i64 a, .string s, .int .i64 t] ∧ (I64 k ∧ I64 a ∧ I64 t) ∧ s.size ≤ maxLen := by
  obtain ⟨cs, rfl, hsz⟩ := okWide_struct Try.underlying228 hv
  rw [cells_lk] at hsz
  obtain ⟨fuel, hf⟩ := h
  obtain ⟨xs, n, _, _, _, hxl, hg⟩ := DataW.trod_struct Try.underlying228 hf
  obtain ⟨l⟩ := cs
  match l, hsz with
  | [c0, c1, c2, c3], _ =>
    have hx : ∀ i, i < 4 → ∃ y, xs[i]? = some y := fun i hi => ⟨xs[i]'(by rw [hxl]; exact hi), List.getElem?_eq_getElem _⟩
    obtain ⟨y0, e0⟩ := hx 0 (by decide)
    obtain ⟨y1, e1⟩ := hx 1 (by decide)
    obtain ⟨y2, e2⟩ := hx 2 (by decide)
    obtain ⟨y3, e3⟩ := hx 3 (by decide)
    have g0 : DataW.trod enc Try.prog w 0 (fun _ => true) held n 2 (([c0, c1, c2, c3].drop 0).take (Try.prog.cellsOf 2)) = some y0 := (hg 0 _ rfl).trans e0
    have g1 : DataW.trod enc Try.prog w 0 (fun _ => true) held n 2 (([c0, c1, c2, c3].drop 1).take (Try.prog.cellsOf 2)) = some y1 := (hg 1 _ rfl).trans e1
    have g2 : DataW.trod enc Try.prog w 0 (fun _ => true) held n 9 (([c0, c1, c2, c3].drop 2).take (Try.prog.cellsOf 9)) = some y2 := (hg 2 _ rfl).trans e2
    have g3 : DataW.trod enc Try.prog w 0 (fun _ => true) held n 2 (([c0, c1, c2, c3].drop 3).take (Try.prog.cellsOf 2)) = some y3 := (hg 3 _ rfl).trans e3
    rw [cells_lki] at g0 g1 g3
    rw [cells_lks] at g2
    simp only [List.drop_zero, List.drop_succ_cons, List.take_succ_cons, List.take_zero] at g0 g1 g2 g3
    obtain ⟨k, hk, wk⟩ := read_int g0
    obtain ⟨a, ha, wa⟩ := read_int g1
    obtain ⟨t, ht, wt⟩ := read_int g3
    obtain ⟨s, hs, ws⟩ := read_lkstr g2
    simp only [List.cons.injEq, and_true] at hk ha ht hs
    exact ⟨k, a, t, s, by rw [hk, ha, ht, hs], ⟨wk, wa, wt⟩, ws⟩
end
end Go.Proofs.Ytcboalnpbmnfcaa
