import Derived.Test.YtblgjedjljfmcaaGreatDoorMFnExactUndoTreeEdit17
import Derived.Test.YtblgjedjljfmcaaGreatDoorMFnExactUndoTreeEdit8
import Derived.Test.YtblgjedjljfmcaaGreatDoorMFnExactUndoTreeEdit18
/- An edit that comes in, and the laws' own functions on it. -/
namespace Go.Proofs.YtblgjedjljfmcaaGreatDoor
open Go.RowKit Go.ChangeShapes Go.WideShapes Go.Deep
set_option linter.unusedVariables false

theorem sz_edit (k a t : Int) (s : ByteArray) (l : Nat) (w : World) (hl : l ≤ 1048576) (hs : s.size ≤ 9223372036854775807) :
    Calls Tryz.prog 5 #[.agg #[.int .i64 k, .int .i64 a, .int .i64 t, .string s], .int .i64 (l : Int)] w (TupPost (.int .i64 (dec l s.size)) w) := by
  have hx := Bx.new w 23 #[.int .i64 k, .int .i64 a, .int .i64 t, .string s]
  obtain ⟨c0, c1, c2, c3, cl⟩ := id hx.all4
  have hB := (Below.refl w.heap.size w).alloc (Nat.le_refl _) (.cells #[.int .i64 k, .int .i64 a, .int .i64 t, .string s] 23)
  by_cases h1 : s.size ≤ l
  · rw [dec_yes h1, show ((l - s.size : Nat) : Int) = (l : Int) - s.size by omega]
    go_enter Tryz.func5, Tryz.ntmps5
    go_wp2
    go_ret
    exact ⟨rfl, hB⟩
  · rw [dec_no h1]
    go_enter Tryz.func5, Tryz.ntmps5
    go_wp2
    go_ret
    exact ⟨rfl, hB⟩
theorem to_edit (k a t : Int) (s : ByteArray) (w : World) :
    Calls Tryz.prog 7 #[.agg #[.int .i64 k, .int .i64 a, .int .i64 t, .string s]] w (TupPost (.agg #[.int .i64 k, .int .i64 a, .int .i64 t, .string s]) w) := by
  have hx := Bx.new w 23 #[.int .i64 k, .int .i64 a, .int .i64 t, .string s]
  obtain ⟨c0, c1, c2, c3, cl⟩ := id hx.all4
  go_enter Tryz.func7, Tryz.ntmps7
  have x2 := (Bx.new (w.alloc (.cells #[.int .i64 k, .int .i64 a, .int .i64 t, .string s] 23)) 25 #[.int .i64 k, .int .i64 a, .int .i64 t, .string s]).alloc (.cells #[.int .i64 k, .int .i64 a, .int .i64 t, .string s] 25)
  rw [World.size_alloc] at x2
  obtain ⟨e0, e1, e2, e3, el⟩ := id x2.all4
  have hB := (((Below.refl w.heap.size w).alloc (Nat.le_refl _) (.cells #[.int .i64 k, .int .i64 a, .int .i64 t, .string s] 23)).alloc (by simp) (.cells #[.int .i64 k, .int .i64 a, .int .i64 t, .string s] 25)).alloc (by simp only [World.size_alloc]; omega) (.cells #[.int .i64 k, .int .i64 a, .int .i64 t, .string s] 25)
  go_wp2
  exact bodyPost_ret (v := .agg #[.int .i64 k, .int .i64 a, .int .i64 t, .string s]) (by simp [results, Tryz.results7, go_sem, e0, e1, e2, e3]) rfl ⟨rfl, hB⟩

theorem cells_ed : Tryz.prog.cellsOf 23 = 4 := by kernel_rfl
theorem cells_edi : Tryz.prog.cellsOf 2 = 1 := by kernel_rfl
theorem cells_eds : Tryz.prog.cellsOf 9 = 1 := by kernel_rfl
section
variable {H : Type} {enc : TypeId × Value → H} {w : World} {held : Bool}
theorem read_edstr {n : Nat} {cs : List Value} {x : DataW H × List MemPlace} (h : DataW.trod enc Tryz.prog w 0 (fun _ => true) held n 9 cs = some x) : ∃ y : ByteArray, cs = [.string y] ∧ y.size ≤ maxLen := by
  obtain ⟨y, rfl, _, hw⟩ := DataW.trod_string Tryz.underlying9 h
  exact ⟨y, rfl, hw⟩
set_option maxRecDepth 100000 in
theorem read_edit {n : Nat} {cs : List Value} {x : DataW H × List MemPlace} (h : DataW.trod enc Tryz.prog w 0 (fun _ => true) held n 23 cs = some x) : ∃ (k a t : Int) (s : ByteArray), cs = [.int .i64 k, .int .i64 a, .int .i64 t, .string s] ∧ (I64 k ∧ I64 a ∧ I64 t) ∧ s.size ≤ maxLen := by
  obtain ⟨xs, m, _, _, hl, hxl, hf⟩ := DataW.trod_struct Tryz.underlying23 h
  rw [cells_ed] at hl
  have g0 : DataW.trod enc Tryz.prog w 0 (fun _ => true) held m 2 ((cs.drop 0).take (Tryz.prog.cellsOf 2)) = xs[0]? := hf 0 _ rfl
  have g1 : DataW.trod enc Tryz.prog w 0 (fun _ => true) held m 2 ((cs.drop 1).take (Tryz.prog.cellsOf 2)) = xs[1]? := hf 1 _ rfl
  have g2 : DataW.trod enc Tryz.prog w 0 (fun _ => true) held m 2 ((cs.drop 2).take (Tryz.prog.cellsOf 2)) = xs[2]? := hf 2 _ rfl
  have g3 : DataW.trod enc Tryz.prog w 0 (fun _ => true) held m 9 ((cs.drop 3).take (Tryz.prog.cellsOf 9)) = xs[3]? := hf 3 _ rfl
  rw [cells_edi] at g0 g1 g2
  rw [cells_eds] at g3
  match cs, hl with
  | [c0, c1, c2, c3], _ =>
    have hx : ∀ i, i < 4 → ∃ y, xs[i]? = some y := fun i hi => ⟨xs[i]'(by rw [hxl]; exact hi), List.getElem?_eq_getElem _⟩
    obtain ⟨y0, e0⟩ := hx 0 (by decide)
    obtain ⟨y1, e1⟩ := hx 1 (by decide)
    obtain ⟨y2, e2⟩ := hx 2 (by decide)
    obtain ⟨y3, e3⟩ := hx 3 (by decide)
    rw [e0] at g0
    rw [e1] at g1
    rw [e2] at g2
    rw [e3] at g3
    simp only [List.drop_zero, List.drop_succ_cons, List.take_succ_cons, List.take_zero] at g0 g1 g2 g3
    obtain ⟨k, hk, wk⟩ := read_int g0
    obtain ⟨a, ha, wa⟩ := read_int g1
    obtain ⟨t, ht, wt⟩ := read_int g2
    obtain ⟨s, hs, ws⟩ := read_edstr g3
    simp only [List.cons.injEq, and_true] at hk ha ht hs
    exact ⟨k, a, t, s, by rw [hk, ha, ht, hs], ⟨wk, wa, wt⟩, ws⟩
set_option maxRecDepth 100000 in
theorem open_edit {r : Reach} {b0 : Nat} {v : Value} {d : DataW H} {p : List MemPlace} (hv : Value.okWide Tryz.prog w r b0 23 v) (h : DataW.Trod enc Tryz.prog w 0 (fun _ => true) held 23 v d p) : ∃ (k a t : Int) (s : ByteArray), v = .agg #[.int .i64 k, .int .i64 a, .int .i64 t, .string s] ∧ (I64 k ∧ I64 a ∧ I64 t) ∧ s.size ≤ maxLen := by
  obtain ⟨cs, rfl, hsz⟩ := okWide_struct Tryz.underlying23 hv
  rw [cells_ed] at hsz
  obtain ⟨fuel, hf⟩ := h
  obtain ⟨xs, n, _, _, _, hxl, hg⟩ := DataW.trod_struct Tryz.underlying23 hf
  obtain ⟨l⟩ := cs
  match l, hsz with
  | [c0, c1, c2, c3], _ =>
    have hx : ∀ i, i < 4 → ∃ y, xs[i]? = some y := fun i hi => ⟨xs[i]'(by rw [hxl]; exact hi), List.getElem?_eq_getElem _⟩
    obtain ⟨y0, e0⟩ := hx 0 (by decide)
    obtain ⟨y1, e1⟩ := hx 1 (by decide)
    obtain ⟨y2, e2⟩ := hx 2 (by decide)
    obtain ⟨y3, e3⟩ := hx 3 (by decide)
    have g0 : DataW.trod enc Tryz.prog w 0 (fun _ => true) held n 2 (([c0, c1, c2, c3].drop 0).take (Tryz.prog.cellsOf 2)) = some y0 := (hg 0 _ rfl).trans e0
    have g1 : DataW.trod enc Tryz.prog w 0 (fun _ => true) held n 2 (([c0, c1, c2, c3].drop 1).take (Tryz.prog.cellsOf 2)) = some y1 := (hg 1 _ rfl).trans e1
    have g2 : DataW.trod enc Tryz.prog w 0 (fun _ => true) held n 2 (([c0, c1, c2, c3].drop 2).take (Tryz.prog.cellsOf 2)) = some y2 := (hg 2 _ rfl).trans e2
    have g3 : DataW.trod enc Tryz.prog w 0 (fun _ => true) held n 9 (([c0, c1, c2, c3].drop 3).take (Tryz.prog.cellsOf 9)) = some y3 := (hg 3 _ rfl).trans e3
    rw [cells_edi] at g0 g1 g2
    rw [cells_eds] at g3
    simp only [List.drop_zero, List.drop_succ_cons, List.take_succ_cons, List.take_zero] at g0 g1 g2 g3
    obtain ⟨k, hk, wk⟩ := read_int g0
    obtain ⟨a, ha, wa⟩ := read_int g1
    obtain ⟨t, ht, wt⟩ := read_int g2
    obtain ⟨s, hs, ws⟩ := read_edstr g3
    simp only [List.cons.injEq, and_true] at hk ha ht hs
    exact ⟨k, a, t, s, by rw [hk, ha, ht, hs], ⟨wk, wa, wt⟩, ws⟩
end
end Go.Proofs.YtblgjedjljfmcaaGreatDoor
/- Rows of edits; the laws' own functions on them. -/
namespace Go.Proofs.YtblgjedjljfmcaaGreatDoor
open Go.RowKit Go.ChangeShapes Go.WideShapes Go.Deep
set_option linter.unusedVariables false

abbrev teV (x : Int × Int × Int × ByteArray) : List Value := [.int .i64 x.1, .int .i64 x.2.1, .int .i64 x.2.2.1, .string x.2.2.2]
abbrev TeE (base : Nat) : EP (List (Int × Int × Int × ByteArray)) := RowE base 25 4 fun x => [.int .i64 x.1, .int .i64 x.2.1, .int .i64 x.2.2.1, .string x.2.2.2]
theorem te_ok (base : Nat) : EP.Ok base (TeE base) := RowE.ok _ _ _ _
theorem TeE.cell' {base g n c : Nat} {w : World} {xs : List (Int × Int × Int × ByteArray)} {bs : List Nat} (h : TeE base w (.slice (some ⟨g, 0, none⟩) n c) xs bs) {j : Nat} {x : Int × Int × Int × ByteArray} (hx : xs[j]? = some x) :
    w.cell? ⟨g, j * 4, none⟩ = some (.int .i64 x.1) ∧ w.cell? ⟨g, j * 4 + 1, none⟩ = some (.int .i64 x.2.1) ∧ w.cell? ⟨g, j * 4 + 2, none⟩ = some (.int .i64 x.2.2.1) ∧ w.cell? ⟨g, j * 4 + 3, none⟩ = some (.string x.2.2.2) :=
  ⟨RowE.cell h (fun _ => rfl) (i := 0) hx rfl, RowE.cell h (fun _ => rfl) (i := 1) hx rfl, RowE.cell h (fun _ => rfl) (i := 2) hx rfl, RowE.cell h (fun _ => rfl) (i := 3) hx rfl⟩
theorem flat_set4 {α : Type} {f g h e : α → Value} : ∀ (xs : List α) (j : Nat) (y : α), ((((xs.flatMap fun x => [f x, g x, h x, e x]).set (j * 4) (f y)).set (j * 4 + 1) (g y)).set (j * 4 + 2) (h y)).set (j * 4 + 3) (e y) = (xs.set j y).flatMap fun x => [f x, g x, h x, e x] := by
  intro xs
  induction xs with
  | nil => intro j y; simp
  | cons x xs ih =>
    intro j y
    cases j with
    | zero => simp
    | succ j =>
      have e : (j + 1) * 4 = j * 4 + 4 := by omega
      rw [e]
      simp only [List.flatMap_cons, List.set_cons_succ]
      rw [← ih j y]
      simp
/-- The four cells of an element are written. -/
theorem RowE.put4 {α : Type} {base : Nat} {e : TypeId} {f k l m : α → Value} {w : World} {g n c : Nat} {xs : List α} {bs : List Nat} (h : RowE base e 4 (fun x => [f x, k x, l x, m x]) w (.slice (some ⟨g, 0, none⟩) n c) xs bs) (j : Nat) (y : α) :
    RowE base e 4 (fun x => [f x, k x, l x, m x]) ((((w.setCell ⟨g, j * 4, none⟩ (f y)).setCell ⟨g, j * 4 + 1, none⟩ (k y)).setCell ⟨g, j * 4 + 2, none⟩ (l y)).setCell ⟨g, j * 4 + 3, none⟩ (m y)) (.slice (some ⟨g, 0, none⟩) n c) (xs.set j y) bs ∧ Turned bs w ((((w.setCell ⟨g, j * 4, none⟩ (f y)).setCell ⟨g, j * 4 + 1, none⟩ (k y)).setCell ⟨g, j * 4 + 2, none⟩ (l y)).setCell ⟨g, j * 4 + 3, none⟩ (m y)) := by
  obtain rfl := h.len_
  obtain ⟨hr, rfl⟩ := h
  have h1 := hr.stored (j * 4) (f y)
  have h2 := h1.1.stored (j * 4 + 1) (k y)
  have h3 := h2.1.stored (j * 4 + 2) (l y)
  have h4 := h3.1.stored (j * 4 + 3) (m y)
  rw [flat_set4] at h4
  exact ⟨⟨by rw [List.length_set]; exact h4.1, rfl⟩, (((Turned.of_grown h1.2 (fun r hr => by cases hr; simp [Value.ownBlock])).trans (Turned.of_grown h2.2 (fun r hr => by cases hr; simp [Value.ownBlock]))).trans (Turned.of_grown h3.2 (fun r hr => by cases hr; simp [Value.ownBlock]))).trans (Turned.of_grown h4.2 (fun r hr => by cases hr; simp [Value.ownBlock]))⟩
theorem add_two' (a : Addr) : a.add 2 = ⟨a.block, a.off + 2, none⟩ := by unfold Addr.add; simp
theorem add_three' (a : Addr) : a.add 3 = ⟨a.block, a.off + 3, none⟩ := by unfold Addr.add; simp
theorem tes_base {b b' : Nat} (hb : b' ≤ b) (w : World) (v : Value) (x : List (Int × Int × Int × ByteArray)) (bs : List Nat) (h : TeE b w v x bs) : TeE b' w v x bs := ⟨row_base h.1 hb, h.2⟩
abbrev TeR0 : RP (List (Int × Int × Int × ByteArray)) := RowR 4 fun x => [.int .i64 x.1, .int .i64 x.2.1, .int .i64 x.2.2.1, .string x.2.2.2]
theorem tes_r0 : RP.Ok TeR0 := RowR.ok _ _
def WfTe (xs : List (Int × Int × Int × ByteArray)) : Prop := ∀ y ∈ xs, y.2.2.2.size ≤ maxLen
/-- Steps that came in. -/
def TeR : RP (List (Int × Int × Int × ByteArray)) := fun w v xs => TeR0 w v xs ∧ WfTe xs
theorem tes_r : RP.Ok TeR where
  later := fun h hb => ⟨tes_r0.later h.1 hb, h.2⟩
def szTe1 (x : Int × Int × Int × ByteArray) : Nat := x.2.2.2.size
def cntTe (xs : List (Int × Int × Int × ByteArray)) : Nat := xs.length + szL szTe1 xs
theorem bd_tes {xs : List (Int × Int × Int × ByteArray)} (h : cntTe xs ≤ 1048576) : Bd1 xs := by unfold cntTe at h; unfold Bd1; omega

theorem eq_te (x z q : Int) (y : ByteArray) (w : World) : Calls Tryz.prog 9 #[.agg #[.int .i64 x, .int .i64 z, .int .i64 q, .string y], .agg #[.int .i64 x, .int .i64 z, .int .i64 q, .string y]] w (SeenPost (.bool true) w) := by
  go_enter Tryz.func9, Tryz.ntmps9
  go_wp2
  go_ret
  exact ⟨rfl, ((Below.refl _ _).alloc (Nat.le_refl _) _).alloc (by simp) _⟩

theorem toInfo_te : (Tryz.prog.info? 25).map (fun i => (i.zero, i.size, i.bytes)) = some (some (.agg #[.int .i64 0, .int .i64 0, .int .i64 0, .string ⟨#[]⟩]), 4, 40) := by kernel_rfl
theorem madeCells_te (y z u v : Value) (n : Nat) : (madeCells #[y, z, u, v] (n * 4)).toList = (List.replicate n ()).flatMap fun _ => [y, z, u, v] := by
  have key : ∀ n, (madeCells #[y, z, u, v] (n * 4)).toList = (List.range (n * 4)).map fun j => if j % 4 = 0 then y else if j % 4 = 1 then z else if j % 4 = 2 then u else v := by
    intro n
    simp only [madeCells, Array.toList_map, Array.toList_range]
    refine List.map_congr_left fun j _ => ?_
    show #[y, z, u, v][j % 4]! = _
    obtain h | h | h | h : j % 4 = 0 ∨ j % 4 = 1 ∨ j % 4 = 2 ∨ j % 4 = 3 := by omega
    · rw [h]; rfl
    · rw [h]; rfl
    · rw [h]; rfl
    · rw [h]; rfl
  rw [key]
  induction n with
  | zero => rfl
  | succ n ih =>
    rw [show (n + 1) * 4 = n * 4 + 1 + 1 + 1 + 1 from by omega, List.range_succ, List.range_succ, List.range_succ, List.range_succ, List.replicate_succ']
    simp only [List.map_append, List.map_cons, List.map_nil, ih, List.flatMap_append, List.flatMap_cons, List.flatMap_nil, List.append_nil]
    rw [if_pos (by omega), if_neg (by omega), if_pos (by omega), if_neg (by omega), if_neg (by omega), if_pos (by omega), if_neg (by omega), if_neg (by omega), if_neg (by omega)]
    simp
theorem flat_unitT (n : Nat) (x : Int × Int × Int × ByteArray) : (List.replicate n x).flatMap (fun x => [Value.int .i64 x.1, .int .i64 x.2.1, .int .i64 x.2.2.1, .string x.2.2.2]) = (List.replicate n ()).flatMap fun _ => [Value.int .i64 x.1, .int .i64 x.2.1, .int .i64 x.2.2.1, .string x.2.2.2] := by
  induction n with
  | zero => rfl
  | succ n ih => rw [List.replicate_succ, List.replicate_succ, List.flatMap_cons, List.flatMap_cons, ih]
theorem teE_made (w : World) (n : Nat) (hn : n ≤ maxLen) : TeE w.heap.size (w.alloc (.cells (madeCells #[.int .i64 0, .int .i64 0, .int .i64 0, .string ⟨#[]⟩] (n * 4)) 25)) (.slice (some ⟨w.heap.size, 0, none⟩) n n) (List.replicate n ((0, 0, 0, ⟨#[]⟩) : Int × Int × Int × ByteArray)) [w.heap.size] := by
  have h := World.ownsRow_lit (base := w.heap.size) (e := 25) (size := 4) w (madeCells #[.int .i64 0, .int .i64 0, .int .i64 0, .string ⟨#[]⟩] (n * 4)) n (Nat.le_refl _) hn (by simp [size_madeCells])
  rw [madeCells_te] at h
  refine ⟨?_, rfl⟩
  rw [List.length_replicate, flat_unitT]
  exact h
section
variable {H : Type} {enc : TypeId × Value → H} {w : World} {held : Bool}
end

end Go.Proofs.YtblgjedjljfmcaaGreatDoor
