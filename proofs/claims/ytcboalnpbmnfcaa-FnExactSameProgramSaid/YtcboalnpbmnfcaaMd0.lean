/- Rows whose elements are a number and a value that owns its memory: what they read as, whatever the value. -/
import Derived.Test.YtcboalnpbmnfcaaBox
import Derived.Test.YtcboalnpbmnfcaaConv
import Derived.Test.YtcboalnpbmnfcaaRows3
namespace Go.Proofs.Ytcboalnpbmnfcaa
open Go.RowKit Go.ChangeShapes Go.WideShapes Go.Deep
set_option linter.unusedVariables false

/-- The cells of such a row, the owned values being vs. -/
def cells2 {α : Type} (xs : List (Int × α)) (vs : List Value) : List Value := (List.zipWith (fun x v => [Value.int .i64 x.1, v]) xs vs).flatten
theorem cells2_cons {α : Type} (x : Int × α) (xs : List (Int × α)) (v : Value) (vs : List Value) : cells2 (x :: xs) (v :: vs) = .int .i64 x.1 :: v :: cells2 xs vs := rfl
theorem cells2_at {α : Type} : ∀ {xs : List (Int × α)} {vs : List Value} {j : Nat} {x : Int × α} {u : Value}, xs[j]? = some x → vs[j]? = some u → (cells2 xs vs)[j * 2]? = some (.int .i64 x.1) ∧ (cells2 xs vs)[j * 2 + 1]? = some u
  | [], _, j, x, u, hx, _ => by simp at hx
  | _ :: _, [], j, x, u, _, hu => by simp at hu
  | y :: xs, v :: vs, 0, x, u, hx, hu => by
    simp at hx hu
    subst hx; subst hu
    rw [cells2_cons]
    exact ⟨rfl, rfl⟩
  | y :: xs, v :: vs, j + 1, x, u, hx, hu => by
    have h := cells2_at (xs := xs) (vs := vs) (j := j) (by simpa using hx) (by simpa using hu)
    rw [cells2_cons, show (j + 1) * 2 = j * 2 + 1 + 1 from by omega]
    simpa using h
theorem cells2_len {α : Type} : ∀ {xs : List (Int × α)} {vs : List Value}, vs.length = xs.length → (cells2 xs vs).length = xs.length * 2
  | [], [], _ => rfl
  | x :: xs, v :: vs, h => by
    rw [cells2_cons]
    simp only [List.length_cons] at h ⊢
    rw [cells2_len (by omega)]
    omega
theorem cells2_snoc {α : Type} : ∀ {xs : List (Int × α)} {vs : List Value} (x : Int × α) (v : Value), vs.length = xs.length → cells2 (xs ++ [x]) (vs ++ [v]) = cells2 xs vs ++ [.int .i64 x.1, v]
  | [], [], x, v, _ => rfl
  | y :: xs, u :: vs, x, v, h => by
    rw [List.cons_append, List.cons_append, cells2_cons, cells2_cons, cells2_snoc x v (by simpa using h)]
    rfl
def Many2E {α : Type} (base : Nat) (e : TypeId) (E : EP α) : EP (List (Int × α)) := fun w v xs bs =>
  ∃ (vs : List Value) (bss : List (List Nat)), w.ownsRow base e 2 v xs.length (cells2 xs vs) ∧ vs.length = xs.length ∧ bss.length = xs.length ∧
    (∀ (j : Nat) x u cs, xs[j]? = some x → vs[j]? = some u → bss[j]? = some cs → E w u x.2 cs) ∧ bs = v.ownBlock.toList ++ bss.flatten ∧ bs.Nodup
theorem Many2E.ok {α : Type} {base : Nat} (e : TypeId) {E : EP α} (hE : EP.Ok base E) : EP.Ok base (Many2E base e E) where
  kept := by
    rintro w w' v xs bs ⟨vs, bss, hr, hv, hl, hx, rfl, hn⟩ hs
    refine ⟨vs, bss, row_kept hr (fun b hb => hs b (List.mem_append_left _ hb)), hv, hl, fun j x u cs h1 h2 h3 => hE.kept (hx j x u cs h1 h2 h3) fun b hb => hs b (List.mem_append_right _ (List.mem_flatten.2 ⟨cs, List.mem_of_getElem? h3, hb⟩)), rfl, hn⟩
  lt := by
    rintro w v xs bs ⟨vs, bss, hr, hv, hl, hx, rfl, hn⟩ b hb
    rcases List.mem_append.1 hb with hb | hb
    · exact hr.lt b (by simpa using hb)
    · obtain ⟨cs, hc, hb⟩ := List.mem_flatten.1 hb
      obtain ⟨j, hj, rfl⟩ := List.mem_iff_getElem.1 hc
      exact hE.lt (hx j (xs[j]'(by omega)) (vs[j]'(by omega)) _ (List.getElem?_eq_getElem (by omega)) (List.getElem?_eq_getElem (by omega)) (List.getElem?_eq_getElem hj)) b hb
  nodup := by rintro w v xs bs ⟨vs, bss, _, _, _, _, _, hn⟩; exact hn
section
variable {α : Type} {base : Nat} {e : TypeId} {E : EP α} {w : World} {v : Value} {xs : List (Int × α)} {bs : List Nat}
theorem Many2E.slice (h : Many2E base e E w v xs bs) : ∃ A k, v = .slice A xs.length k := by
  obtain ⟨vs, bss, hr, _⟩ := h
  rcases hr.2 with ⟨rfl, h0⟩ | ⟨g, cap, cur, rfl, _⟩
  · exact ⟨none, 0, by rw [h0]⟩
  · exact ⟨_, _, rfl⟩
theorem Many2E.at_ (h : Many2E base e E w v xs bs) {j : Nat} {x : Int × α} (hj : xs[j]? = some x) :
    ∃ g c u cs, v = .slice (some ⟨g, 0, none⟩) xs.length c ∧ w.cell? ⟨g, j * 2, none⟩ = some (.int .i64 x.1) ∧ w.cell? ⟨g, j * 2 + 1, none⟩ = some u ∧ E w u x.2 cs ∧ g < w.heap.size := by
  obtain ⟨vs, bss, hr, hvl, hl, hx, rfl, hn⟩ := h
  have hjl := (List.getElem?_eq_some_iff.1 hj).1
  rcases hr.2 with ⟨_, h0⟩ | ⟨g, cap, cur, rfl, hb, hg, _⟩
  · omega
  have hu : vs[j]? = some (vs[j]'(by omega)) := List.getElem?_eq_getElem (by omega)
  have hc : bss[j]? = some (bss[j]'(by omega)) := List.getElem?_eq_getElem (by omega)
  have hcc := cells2_at hj hu
  exact ⟨g, cap, vs[j]'(by omega), bss[j]'(by omega), rfl, (hr.cellAt (j * 2) (by omega)).trans hcc.1, (hr.cellAt (j * 2 + 1) (by omega)).trans hcc.2, hx j x _ _ hj hu hc, (hr.lt g rfl).2⟩
theorem Many2E.base_ {base' : Nat} {E' : EP α} (hE : ∀ w v x bs, E w v x bs → E' w v x bs) (h : Many2E base e E w v xs bs) (hb : base' ≤ base) : Many2E base' e E' w v xs bs := by
  obtain ⟨vs, bss, hr, hvl, hl, hx, hbs, hn⟩ := h
  exact ⟨vs, bss, row_base hr hb, hvl, hl, fun j x u cs h1 h2 h3 => hE _ _ _ _ (hx j x u cs h1 h2 h3), hbs, hn⟩
end
def zero2 (m : Nat) : List Value := (List.replicate m [Value.int .i64 0, Value.slice none 0 0]).flatten
theorem zero2_succ (m : Nat) : zero2 (m + 1) = .int .i64 0 :: .slice none 0 0 :: zero2 m := rfl
theorem madeCells2 (n : Nat) : (madeCells #[.int .i64 0, .slice none 0 0] (n * 2)).toList = zero2 n := by
  have key : ∀ n, (madeCells #[Value.int .i64 0, .slice none 0 0] (n * 2)).toList = (List.range (n * 2)).map fun j => if j % 2 = 0 then Value.int .i64 0 else .slice none 0 0 := by
    intro n
    simp only [madeCells, Array.toList_map, Array.toList_range]
    refine List.map_congr_left fun j _ => ?_
    show #[Value.int .i64 0, .slice none 0 0][j % 2]! = _
    rcases Nat.mod_two_eq_zero_or_one j with h | h <;> rw [h] <;> rfl
  rw [key]
  unfold zero2
  induction n with
  | zero => rfl
  | succ n ih =>
    rw [show (n + 1) * 2 = n * 2 + 1 + 1 from by omega, List.range_succ, List.range_succ, List.replicate_succ']
    simp only [List.map_append, List.map_cons, List.map_nil, ih, List.flatten_append, List.flatten_cons, List.flatten_nil, List.append_nil]
    rw [if_pos (by omega), if_neg (by omega)]
    simp
/-- A row of which the first j have come. -/
structure PartM {α : Type} (base g n : Nat) (e : TypeId) (E : EP α) (xs : List (Int × α)) (j : Nat) (us : List Value) (bss : List (List Nat)) (W : World) : Prop where
  row : W.ownsRow base e 2 (.slice (some ⟨g, 0, none⟩) n n) n (cells2 (xs.take j) us ++ zero2 (n - j))
  lu : us.length = j
  lb : bss.length = j
  each : ∀ (i : Nat) x u c, xs[i]? = some x → us[i]? = some u → bss[i]? = some c → E W u x.2 c
  nodup : (g :: bss.flatten).Nodup
theorem PartM.start {α : Type} {w : World} {n : Nat} {e : TypeId} {E : EP α} {xs : List (Int × α)} (hn : n ≤ maxLen) : PartM w.heap.size w.heap.size n e E xs 0 [] [] (w.alloc (.cells (madeCells #[.int .i64 0, .slice none 0 0] (n * 2)) e)) := by
  have h := World.ownsRow_lit (base := w.heap.size) (e := e) (size := 2) w (madeCells #[.int .i64 0, .slice none 0 0] (n * 2)) n (Nat.le_refl _) hn (by simp [size_madeCells])
  rw [madeCells2] at h
  exact ⟨by simpa [cells2] using h, rfl, rfl, fun i x u c _ h => by simp at h, by simp⟩
theorem PartM.next {α : Type} {base g n : Nat} {e : TypeId} {E : EP α} {xs : List (Int × α)} {j : Nat} {us : List Value} {bss : List (List Nat)} {W w2 : World} (h : PartM base g n e E xs j us bss W) (hE : EP.Ok base E) (hx : xs.length = n) (hj : j < n) (hg : base ≤ g)
    {x : Int × α} (hxj : xs[j]? = some x) (hb : Below W.heap.size W w2) {u : Value} {cs : List Nat} (he : E w2 u x.2 cs) (hlt : ∀ b ∈ cs, W.heap.size ≤ b) (hcn : cs.Nodup) :
    PartM base g n e E xs (j + 1) (us ++ [u]) (bss ++ [cs]) ((w2.setCell ⟨g, j * 2, none⟩ (.int .i64 x.1)).setCell ⟨g, j * 2 + 1, none⟩ u) := by
  have hgl := (h.row.lt g rfl).2
  have hr2 := row_below h.row hb
  have hst := (hr2.stored (j * 2) (.int .i64 x.1)).1.stored (j * 2 + 1) u
  have old : ∀ (i : Nat) c, bss[i]? = some c → ∀ b ∈ c, b < W.heap.size ∧ b ≠ g := by
    intro i c hc b hbc
    have hil := (List.getElem?_eq_some_iff.1 hc).1
    have hlb := h.lb
    have hlu := h.lu
    have := (hE.lt (h.each i (xs[i]'(by omega)) (us[i]'(by omega)) c (List.getElem?_eq_getElem (by omega)) (List.getElem?_eq_getElem (by omega)) hc) b hbc).2
    refine ⟨this, fun e' => ?_⟩
    have hn := h.nodup
    rw [List.nodup_cons] at hn
    exact hn.1 (List.mem_flatten.2 ⟨c, List.mem_of_getElem? hc, e' ▸ hbc⟩)
  have cell : ∀ b, b ≠ g → ((w2.setCell ⟨g, j * 2, none⟩ (.int .i64 x.1)).setCell ⟨g, j * 2 + 1, none⟩ u).heap[b]? = w2.heap[b]? := fun b hbg => by
    rw [Below.heap_setCell _ _ _ b hbg, Below.heap_setCell _ _ _ b hbg]
  have htl : (xs.take j).length = j := by rw [List.length_take]; omega
  refine ⟨?_, by simp [h.lu], by simp [h.lb], ?_, ?_⟩
  · have hcl : (cells2 (xs.take j) us).length = j * 2 := by rw [cells2_len (by rw [h.lu, htl]), htl]
    have e1 : ((cells2 (xs.take j) us ++ zero2 (n - j)).set (j * 2) (.int .i64 x.1)).set (j * 2 + 1) u = cells2 (xs.take (j + 1)) (us ++ [u]) ++ zero2 (n - (j + 1)) := by
      rw [List.take_add_one, hxj, Option.toList_some, cells2_snoc _ _ (by rw [h.lu, htl])]
      rw [List.set_append_right _ _ (by omega), hcl, Nat.sub_self, show n - j = (n - (j + 1)) + 1 from by omega, zero2_succ, List.set_cons_zero]
      rw [List.set_append_right _ _ (by omega), hcl, show j * 2 + 1 - j * 2 = 1 from by omega, List.set_cons_succ, List.set_cons_zero, List.append_assoc]
      rfl
    rw [e1] at hst
    exact hst.1
  · intro i y u' c h1 h2 h3
    by_cases hi : i < j
    · rw [List.getElem?_append_left (by rw [h.lu]; exact hi)] at h2
      rw [List.getElem?_append_left (by rw [h.lb]; exact hi)] at h3
      refine hE.kept (h.each i y u' c h1 h2 h3) fun b hbc => ?_
      obtain ⟨o1, o2⟩ := old i c h3 b hbc
      exact (cell b o2).trans (hb.block b o1)
    · have hil := (List.getElem?_eq_some_iff.1 h3).1
      rw [List.length_append, List.length_singleton, h.lb] at hil
      have hij : i = j := by omega
      subst hij
      rw [List.getElem?_append_right (by rw [h.lu]; exact Nat.le_refl _), h.lu, Nat.sub_self] at h2
      rw [List.getElem?_append_right (by rw [h.lb]; exact Nat.le_refl _), h.lb, Nat.sub_self] at h3
      simp at h2 h3
      rw [hxj] at h1
      cases h1; subst h2; subst h3
      exact hE.kept he fun b hbc => cell b (fun e' => by have := hlt b hbc; omega)
  · have hn := h.nodup
    rw [List.nodup_cons] at hn ⊢
    rw [List.flatten_append, List.flatten_singleton, List.mem_append, List.nodup_append]
    refine ⟨fun hm => ?_, hn.2, hcn, fun a ha b hbc e' => ?_⟩
    · rcases hm with hm | hm
      · exact hn.1 hm
      · have := hlt g hm; omega
    · subst e'
      obtain ⟨c, hc, hac⟩ := List.mem_flatten.1 ha
      obtain ⟨i, hi⟩ := List.mem_iff_getElem?.1 hc
      have := (old i c hi a hac).1
      have := hlt a hbc
      omega
theorem PartM.done {α : Type} {base g n : Nat} {e : TypeId} {E : EP α} {xs : List (Int × α)} {us : List Value} {bss : List (List Nat)} {W : World} (h : PartM base g n e E xs n us bss W) (hx : xs.length = n) : Many2E base e E W (.slice (some ⟨g, 0, none⟩) n n) xs (g :: bss.flatten) := by
  subst hx
  have hr := h.row
  rw [Nat.sub_self, List.take_length] at hr
  have e0 : zero2 0 = [] := rfl
  rw [e0, List.append_nil] at hr
  exact ⟨us, bss, hr, h.lu, h.lb, h.each, rfl, h.nodup⟩
/-- Such a row that came in. -/
def Many2R {α : Type} (R : RP α) : RP (List (Int × α)) := fun w v xs => ∃ (A : Option Addr) (c : Nat), v = .slice A xs.length c ∧ xs.length ≤ maxLen ∧
  ∀ (j : Nat) (x : Int × α), xs[j]? = some x → ∃ a u, A = some a ∧ a.block < w.heap.size ∧ w.cell? (a.add (j * 2)) = some (.int .i64 x.1) ∧ w.cell? ((a.add (j * 2)).add 1) = some u ∧ R w u x.2
theorem Many2R.ok {α : Type} {R : RP α} (hR : RP.Ok R) : RP.Ok (Many2R R) where
  later := by
    rintro w w' v xs ⟨A, c, rfl, hm, h⟩ hb
    refine ⟨A, c, rfl, hm, fun j x hx => ?_⟩
    obtain ⟨a, u, ha, hl, hc, hd, hr⟩ := h j x hx
    exact ⟨a, u, ha, Nat.lt_of_lt_of_le hl hb.size, (hb.cell (by rw [add_block]; exact hl)).trans hc, (hb.cell (by rw [add_block, add_block]; exact hl)).trans hd, hR.later hr hb⟩
section
variable {H : Type} {enc : TypeId × Value → H} {P : Program} {w : World} {base : Nat} {held : Bool}
theorem open_many2 {α : Type} [Inhabited α] {t e : TypeId} {R : RP α} {wf : Int × α → Prop} (ht : P.underlying t = some (.slice e)) (hc : P.cellsOf e = 2)
    (elem : ∀ (n : Nat) (cs : List Value) (x : DataW H × List MemPlace), DataW.trod enc P w base (fun _ => true) held n e cs = some x → ∃ (k : Int) (u : Value) (y : α), cs = [.int .i64 k, u] ∧ R w u y ∧ wf (k, y)) {fuel : Nat} {v : Value} {x : DataW H × List MemPlace}
    (h : DataW.trod enc P w base (fun _ => true) held fuel t [v] = some x) : ∃ xs : List (Int × α), Many2R R w v xs ∧ ∀ y ∈ xs, wf y := by
  rcases open_slice ht h with ⟨h0, _⟩ | ⟨a, len, cap, m, n, D, Pl, hcs, hb, hl, hm, hmm, hx, hi⟩
  · simp only [List.cons.injEq, and_true] at h0
    exact ⟨[], ⟨none, 0, h0, Nat.zero_le _, fun j x hj => by simp at hj⟩, fun y hy => by cases hy⟩
  · simp only [if_true] at hmm
    simp only [List.cons.injEq, and_true] at hcs
    have each : ∀ i, i < len → ∃ y : Int × α, (∃ u, w.cell? (a.add (i * 2)) = some (.int .i64 y.1) ∧ w.cell? ((a.add (i * 2)).add 1) = some u ∧ R w u y.2) ∧ wf y := fun i him => by
      obtain ⟨cs', h1, h2⟩ := hi i (by omega)
      rw [hc] at h1
      obtain ⟨_, hlen, hat⟩ := World.cells?_some h1
      obtain ⟨k, u, y, rfl, hr, hw⟩ := elem n _ _ h2
      have h3 := hat 0 (by rw [← hlen]; simp)
      have h4 := hat 1 (by rw [← hlen]; simp)
      rw [add_zero'] at h3
      exact ⟨(k, y), ⟨u, h3, h4, hr⟩, hw⟩
    obtain ⟨f, hf⟩ := choose_lt each
    refine ⟨(List.range len).map f, ⟨some a, cap, by rw [hcs]; simp, by simp; omega, fun j x hj => ?_⟩, fun y hy => ?_⟩
    · have hjl := (List.getElem?_eq_some_iff.1 hj).1
      simp at hjl
      rw [List.getElem?_map, List.getElem?_range hjl] at hj
      cases hj
      obtain ⟨u, h1, h2, h3⟩ := (hf j hjl).1
      have hbl := World.block_lt_of_cell? w _ h1
      rw [add_block] at hbl
      exact ⟨a, u, rfl, hbl, h1, h2, h3⟩
    · obtain ⟨i, hi, rfl⟩ := List.mem_map.1 hy
      exact (hf i (List.mem_range.1 hi)).2
end
end Go.Proofs.Ytcboalnpbmnfcaa
