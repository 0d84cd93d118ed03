/- A context that comes in, and the laws' own functions on it. -/
import Derived.Test.YtcboalnpbmnfcaaOpen
import Derived.Test.YtcboalnpbmnfcaaBox
import Derived.Test.YtcboalnpbmnfcaaPosts
namespace Go.Proofs.Ytcboalnpbmnfcaa
open Go.RowKit Go.ChangeShapes Go.WideShapes Go.Deep
set_option linter.unusedVariables false

theorem sz_context (s t : ByteArray) (l : Nat) (w : World) (hl : l ≤ 1048576) (hs : s.size ≤ 9223372036854775807) (ht : t.size ≤ 9223372036854775807) :
    Calls Try.prog 15 #[.agg #[.string s, .string t], .int .i64 (l : Int)] w (TupPost (.int .i64 (if s.size + t.size ≤ l then ((l - s.size - t.size : Nat) : Int) else -1)) w) := by
  have hx := Bx.new w 38 #[.string s, .string t]
  obtain ⟨c0, c1, cl⟩ := id hx.all2
  have hB := (Below.refl w.heap.size w).alloc (Nat.le_refl _) (.cells #[.string s, .string t] 38)
  by_cases h1 : s.size ≤ l
  · by_cases h2 : s.size + t.size ≤ l
    · rw [if_pos h2, show ((l - s.size - t.size : Nat) : Int) = (l : Int) - s.size - t.size by omega]
      go_enter Try.func15, Try.ntmps15
      go_wp2
      go_ret
      exact ⟨rfl, hB⟩
    · rw [if_neg h2]
      go_enter Try.func15, Try.ntmps15
      go_wp2
      go_ret
      exact ⟨rfl, hB⟩
  · rw [if_neg (by omega)]
    go_enter Try.func15, Try.ntmps15
    go_wp2
    go_ret
    exact ⟨rfl, hB⟩
theorem to_context (s t : ByteArray) (w : World) :
    Calls Try.prog 17 #[.agg #[.string s, .string t]] w (TupPost (.agg #[.string s, .string t]) w) := by
  have hx := Bx.new w 38 #[.string s, .string t]
  obtain ⟨c0, c1, cl⟩ := id hx.all2
  go_enter Try.func17, Try.ntmps17
  have x2 := (Bx.new (w.alloc (.cells #[.string s, .string t] 38)) 41 #[.string s, .string t]).alloc (.cells #[.string s, .string t] 41)
  rw [World.size_alloc] at x2
  obtain ⟨e0, e1, el⟩ := id x2.all2
  have hB := (((Below.refl w.heap.size w).alloc (Nat.le_refl _) (.cells #[.string s, .string t] 38)).alloc (by simp) (.cells #[.string s, .string t] 41)).alloc (by simp only [World.size_alloc]; omega) (.cells #[.string s, .string t] 41)
  go_wp2
  exact bodyPost_ret (v := .agg #[.string s, .string t]) (by simp [results, Try.results17, go_sem, e0, e1]) rfl ⟨rfl, hB⟩

theorem cells_cx : Try.prog.cellsOf 38 = 2 := by kernel_rfl
theorem cells_cstr : Try.prog.cellsOf 9 = 1 := by kernel_rfl
section
variable {H : Type} {enc : TypeId × Value → H} {w : World} {held : Bool}
theorem read_cstr {n : Nat} {cs : List Value} {x : DataW H × List MemPlace} (h : DataW.trod enc Try.prog w 0 (fun _ => true) held n 9 cs = some x) : ∃ y : ByteArray, cs = [.string y] ∧ y.size ≤ maxLen := by
  obtain ⟨y, rfl, _, hw⟩ := DataW.trod_string Try.underlying9 h
  exact ⟨y, rfl, hw⟩
set_option maxRecDepth 100000 in
theorem open_cx {r : Reach} {b0 : Nat} {v : Value} {d : DataW H} {p : List MemPlace} (hv : Value.okWide Try.prog w r b0 38 v) (h : DataW.Trod enc Try.prog w 0 (fun _ => true) held 38 v d p) : ∃ s t : ByteArray, v = .agg #[.string s, .string t] ∧ s.size ≤ maxLen ∧ t.size ≤ maxLen := by
  obtain ⟨cs, rfl, hsz⟩ := okWide_struct Try.underlying38 hv
  rw [cells_cx] at hsz
  obtain ⟨fuel, hf⟩ := h
  obtain ⟨xs, n, _, _, _, hxl, hg⟩ := DataW.trod_struct Try.underlying38 hf
  obtain ⟨l⟩ := cs
  match l, hsz with
  | [c0, c1], _ =>
    have hx : ∀ i, i < 2 → ∃ y, xs[i]? = some y := fun i hi => ⟨xs[i]'(by rw [hxl]; exact hi), List.getElem?_eq_getElem _⟩
    obtain ⟨y0, e0⟩ := hx 0 (by decide)
    obtain ⟨y1, e1⟩ := hx 1 (by decide)
    have g0 : DataW.trod enc Try.prog w 0 (fun _ => true) held n 9 (([c0, c1].drop 0).take (Try.prog.cellsOf 9)) = some y0 := (hg 0 _ rfl).trans e0
    have g1 : DataW.trod enc Try.prog w 0 (fun _ => true) held n 9 (([c0, c1].drop 1).take (Try.prog.cellsOf 9)) = some y1 := (hg 1 _ rfl).trans e1
    rw [cells_cstr] at g0 g1
    simp only [List.drop_zero, List.drop_succ_cons, List.take_succ_cons, List.take_zero] at g0 g1
    obtain ⟨a, ha, wa⟩ := read_cstr g0
    obtain ⟨b, hb, wb⟩ := read_cstr g1
    simp only [List.cons.injEq, and_true] at ha hb
    exact ⟨a, b, by rw [ha, hb], wa, wb⟩
end
end Go.Proofs.Ytcboalnpbmnfcaa
