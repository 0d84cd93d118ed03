/- Arguments: what slices that came in read as; the law's own functions that copy them. -/
import Derived.Test.YtadifihblaalpaaDoorMany
import Derived.Deep.OwnRows
namespace Go.Proofs.YtadifihblaalpaaDoor
open Go.RowKit
set_option linter.unusedVariables false

/-- What a value reads as, wherever it lies. -/
abbrev RP (α : Type) : Type := World → Value → α → Prop
structure RP.Ok {α : Type} (R : RP α) : Prop where
  later : ∀ {w w' : World} {v : Value} {x : α}, R w v x → Below w.heap.size w w' → R w' v x

theorem add_one' (a : Addr) : a.add 1 = ⟨a.block, a.off + 1, none⟩ := by unfold Addr.add; simp
theorem add_block (a : Addr) (j : Nat) : (a.add j).block = a.block := by unfold Addr.add; split <;> rfl
/-- A slice of plain cells. -/
def RowR {α : Type} (size : Nat) (enc : α → List Value) : RP (List α) := fun w v xs => ∃ (A : Option Addr) (c : Nat), v = .slice A xs.length c ∧ xs.length ≤ maxLen ∧
  ∀ (j : Nat) (x : α) (i : Nat) (u : Value), xs[j]? = some x → (enc x)[i]? = some u → ∃ a, A = some a ∧ a.block < w.heap.size ∧ w.cell? ((a.add (j * size)).add i) = some u
/-- A slice of values. -/
def ManyR {α : Type} (R : RP α) : RP (List α) := fun w v xs => ∃ (A : Option Addr) (c : Nat), v = .slice A xs.length c ∧ xs.length ≤ maxLen ∧
  ∀ (j : Nat) (x : α), xs[j]? = some x → ∃ a u, A = some a ∧ a.block < w.heap.size ∧ w.cell? (a.add j) = some u ∧ R w u x
theorem RowR.ok {α : Type} (size : Nat) (enc : α → List Value) : RP.Ok (RowR size enc) where
  later := by
    rintro w w' v xs ⟨A, c, rfl, hm, h⟩ hb
    refine ⟨A, c, rfl, hm, fun j x i u hx hu => ?_⟩
    obtain ⟨a, ha, hl, hc⟩ := h j x i u hx hu
    exact ⟨a, ha, Nat.lt_of_lt_of_le hl hb.size, (hb.cell (by rw [add_block, add_block]; exact hl)).trans hc⟩
theorem ManyR.ok {α : Type} {R : RP α} (hR : RP.Ok R) : RP.Ok (ManyR R) where
  later := by
    rintro w w' v xs ⟨A, c, rfl, hm, h⟩ hb
    refine ⟨A, c, rfl, hm, fun j x hx => ?_⟩
    obtain ⟨a, u, ha, hl, hc, hr⟩ := h j x hx
    exact ⟨a, u, ha, Nat.lt_of_lt_of_le hl hb.size, (hb.cell (by rw [add_block]; exact hl)).trans hc, hR.later hr hb⟩

abbrev IntsR : RP (List Int) := RowR 1 fun x => [.int .i64 x]
abbrev BoolsR : RP (List Bool) := RowR 1 fun x => [.bool x]
abbrev PushR : RP (List (Int × Int)) := RowR 2 fun x => [.int .i64 x.1, .int .i64 x.2]
abbrev Ints2R : RP (List (List Int)) := ManyR IntsR
abbrev Ints3R : RP (List (List (List Int))) := ManyR Ints2R
abbrev Push2R : RP (List (List (Int × Int))) := ManyR PushR
theorem add_zero' (a : Addr) : a.add 0 = a := by unfold Addr.add; simp

/-- What a call that answers a new value leaves. -/
def NewPost {α : Type} (E : Nat → EP α) (x : α) (w : World) (e : Ending) (w' : World) : Prop := ∃ v bs, e = .returned v ∧ E w.heap.size w' v x bs ∧ Below w.heap.size w w'

theorem toInfo_i64 : (Tryd.prog.info? 2).map (fun i => (i.zero, i.size, i.bytes)) = some (some (.int .i64 0), 1, 8) := by kernel_rfl
theorem toInfo_bool : (Tryd.prog.info? 4).map (fun i => (i.zero, i.size, i.bytes)) = some (some (.bool false), 1, 1) := by kernel_rfl
theorem toInfo_ints : (Tryd.prog.info? 38).map (fun i => (i.zero, i.size, i.bytes)) = some (some (.slice none 0 0), 1, 24) := by kernel_rfl
theorem madeCells_two (z : Value) (m : Nat) : (madeCells #[z, z] m).toList = List.replicate m z := by
  apply List.ext_getElem?
  intro j
  by_cases hj : j < m
  · rw [List.getElem?_replicate, if_pos hj]
    simp only [madeCells, Array.toList_map, List.getElem?_map]
    simp [hj]
    rcases Nat.mod_two_eq_zero_or_one j with h | h <;> rw [h] <;> rfl
  · rw [List.getElem?_replicate, if_neg hj]
    simp [madeCells, hj]
theorem flat_rep1 {α : Type} (f : α → Value) (x : α) (n : Nat) : (List.replicate n x).flatMap (fun x => [f x]) = List.replicate n (f x) := by
  induction n with
  | zero => rfl
  | succ n ih => rw [List.replicate_succ, List.flatMap_cons, ih]; rfl
theorem flat_rep2 {α : Type} (f g : α → Value) (x : α) (n : Nat) (h : f x = g x) : (List.replicate n x).flatMap (fun x => [f x, g x]) = List.replicate (n * 2) (f x) := by
  induction n with
  | zero => rfl
  | succ n ih => rw [List.replicate_succ, List.flatMap_cons, ih, ← h, Nat.succ_mul]; rfl
theorem rowE_made1 {α : Type} (w : World) (e : TypeId) (f : α → Value) (x : α) (n : Nat) (hn : n ≤ maxLen) : RowE w.heap.size e 1 (fun x => [f x]) (w.alloc (.cells (madeCells #[f x] n) e)) (.slice (some ⟨w.heap.size, 0, none⟩) n n) (List.replicate n x) [w.heap.size] := by
  have h := World.ownsRow_lit (base := w.heap.size) (e := e) (size := 1) w (madeCells #[f x] n) n (Nat.le_refl _) hn (by simp [size_madeCells])
  rw [toList_madeCells_one] at h
  exact ⟨by rw [List.length_replicate, flat_rep1]; exact h, rfl⟩
theorem rowE_made2 {α : Type} (w : World) (e : TypeId) (f g : α → Value) (x : α) (hx : f x = g x) (n : Nat) (hn : n ≤ maxLen) : RowE w.heap.size e 2 (fun x => [f x, g x]) (w.alloc (.cells (madeCells #[f x, f x] (n * 2)) e)) (.slice (some ⟨w.heap.size, 0, none⟩) n n) (List.replicate n x) [w.heap.size] := by
  have h := World.ownsRow_lit (base := w.heap.size) (e := e) (size := 2) w (madeCells #[f x, f x] (n * 2)) n (Nat.le_refl _) hn (by simp [size_madeCells])
  rw [madeCells_two] at h
  exact ⟨by rw [List.length_replicate, flat_rep2 f g x n hx]; exact h, rfl⟩
/-- A row of values of which the first j have come. -/
structure PartE {α : Type} (base g n : Nat) (e : TypeId) (E : EP α) (xs : List α) (j : Nat) (us : List Value) (bss : List (List Nat)) (W : World) : Prop where
  row : W.ownsRow base e 1 (.slice (some ⟨g, 0, none⟩) n n) n (us ++ List.replicate (n - j) (.slice none 0 0))
  lu : us.length = j
  lb : bss.length = j
  each : ∀ (i : Nat) x u c, xs[i]? = some x → us[i]? = some u → bss[i]? = some c → E W u x c
  nodup : (g :: bss.flatten).Nodup

theorem PartE.start {α : Type} {w : World} {n : Nat} {e : TypeId} {E : EP α} {xs : List α} (hn : n ≤ maxLen) : PartE w.heap.size w.heap.size n e E xs 0 [] [] (w.alloc (.cells (madeCells #[.slice none 0 0] n) e)) := by
  have h := World.ownsRow_lit (base := w.heap.size) (e := e) (size := 1) w (madeCells #[.slice none 0 0] n) n (Nat.le_refl _) hn (by simp [size_madeCells])
  rw [toList_madeCells_one] at h
  exact ⟨by simpa using h, rfl, rfl, fun i x u c _ h => by simp at h, by simp⟩
theorem PartE.next {α : Type} {base g n : Nat} {e : TypeId} {E E' : EP α} {xs : List α} {j : Nat} {us : List Value} {bss : List (List Nat)} {W w2 : World} (h : PartE base g n e E xs j us bss W) (hE : EP.Ok base E) (hx : xs.length = n) (hj : j < n) (hg : base ≤ g)
    {x : α} (hxj : xs[j]? = some x) (hb : Below W.heap.size W w2) {u : Value} {cs : List Nat} (he : E w2 u x cs) (hlt : ∀ b ∈ cs, W.heap.size ≤ b) (hcn : cs.Nodup) :
    PartE base g n e E xs (j + 1) (us ++ [u]) (bss ++ [cs]) (w2.setCell ⟨g, j, none⟩ u) := by
  have hgl := (h.row.lt g rfl).2
  have hr2 := row_below h.row hb
  have hst := hr2.stored j u
  have old : ∀ (i : Nat) c, bss[i]? = some c → ∀ b ∈ c, b < W.heap.size ∧ b ≠ g := by
    intro i c hc b hbc
    have hil := (List.getElem?_eq_some_iff.1 hc).1
    have hlb := h.lb
    have hlu := h.lu
    have := (hE.lt (h.each i (xs[i]'(by omega)) (us[i]'(by omega)) c (List.getElem?_eq_getElem (by omega)) (List.getElem?_eq_getElem (by omega)) hc) b hbc).2
    refine ⟨this, fun e' => ?_⟩
    have hn := h.nodup
    rw [List.nodup_cons] at hn
    exact hn.1 (List.mem_flatten.2 ⟨c, List.mem_of_getElem? hc, e' ▸ hbc⟩)
  have cell : ∀ b, b ≠ g → (w2.setCell ⟨g, j, none⟩ u).heap[b]? = w2.heap[b]? := fun b hbg => Below.heap_setCell _ _ _ b hbg
  refine ⟨?_, by simp [h.lu], by simp [h.lb], ?_, ?_⟩
  · have e1 : (us ++ List.replicate (n - j) (Value.slice none 0 0)).set j u = (us ++ [u]) ++ List.replicate (n - (j + 1)) (Value.slice none 0 0) := by
      rw [List.set_append_right _ _ (by rw [h.lu]; exact Nat.le_refl _), h.lu, Nat.sub_self, show n - j = (n - (j + 1)) + 1 from by omega, List.replicate_succ, List.set_cons_zero, List.append_assoc]
      rfl
    rw [e1] at hst
    exact hst.1
  · intro i y u' c h1 h2 h3
    by_cases hi : i < j
    · rw [List.getElem?_append_left (by rw [h.lu]; exact hi)] at h2
      rw [List.getElem?_append_left (by rw [h.lb]; exact hi)] at h3
      refine hE.kept (h.each i y u' c h1 h2 h3) fun b hbc => ?_
      obtain ⟨o1, o2⟩ := old i c h3 b hbc
      exact (cell b o2).trans (hb.block b o1)
    · have hil := (List.getElem?_eq_some_iff.1 h3).1
      rw [List.length_append, List.length_singleton, h.lb] at hil
      have hij : i = j := by omega
      subst hij
      rw [List.getElem?_append_right (by rw [h.lu]; exact Nat.le_refl _), h.lu, Nat.sub_self] at h2
      rw [List.getElem?_append_right (by rw [h.lb]; exact Nat.le_refl _), h.lb, Nat.sub_self] at h3
      simp at h2 h3
      rw [hxj] at h1
      cases h1; subst h2; subst h3
      exact hE.kept he fun b hbc => cell b (fun e' => by have := hlt b hbc; omega)
  · have hn := h.nodup
    rw [List.nodup_cons] at hn ⊢
    rw [List.flatten_append, List.flatten_singleton, List.mem_append, List.nodup_append]
    refine ⟨fun hm => ?_, hn.2, hcn, fun a ha b hbc e' => ?_⟩
    · rcases hm with hm | hm
      · exact hn.1 hm
      · have := hlt g hm; omega
    · subst e'
      obtain ⟨c, hc, hac⟩ := List.mem_flatten.1 ha
      obtain ⟨i, hi⟩ := List.mem_iff_getElem?.1 hc
      have := (old i c hi a hac).1
      have := hlt a hbc
      omega
theorem PartE.done {α : Type} {base g n : Nat} {e : TypeId} {E : EP α} {xs : List α} {us : List Value} {bss : List (List Nat)} {W : World} (h : PartE base g n e E xs n us bss W) (hx : xs.length = n) : ManyE base e E W (.slice (some ⟨g, 0, none⟩) n n) xs (g :: bss.flatten) := by
  subst hx
  have hr := h.row
  rw [Nat.sub_self, List.replicate_zero, List.append_nil] at hr
  exact ⟨us, bss, hr, h.lb, h.each, rfl, h.nodup⟩

theorem rowE_base {α : Type} {base base' : Nat} {e : TypeId} {size : Nat} {enc : α → List Value} {w : World} {v : Value} {xs : List α} {bs : List Nat} (h : RowE base e size enc w v xs bs) (hb : base' ≤ base) : RowE base' e size enc w v xs bs := ⟨row_base h.1 hb, h.2⟩
theorem manyE_base {α : Type} {base base' : Nat} {e : TypeId} {E E' : EP α} (hE : ∀ w v x bs, E w v x bs → E' w v x bs) {w : World} {v : Value} {xs : List α} {bs : List Nat} (h : ManyE base e E w v xs bs) (hb : base' ≤ base) : ManyE base' e E' w v xs bs := by
  obtain ⟨vs, bss, hr, hl, hx, rfl, hn⟩ := h
  exact ⟨vs, bss, row_base hr hb, hl, fun j x u cs h1 h2 h3 => hE _ _ _ _ (hx j x u cs h1 h2 h3), rfl, hn⟩
theorem ints_base {b b' : Nat} (hb : b' ≤ b) (w : World) (v : Value) (x : List Int) (bs : List Nat) (h : IntsE b w v x bs) : IntsE b' w v x bs := rowE_base h hb
theorem bools_base {b b' : Nat} (hb : b' ≤ b) (w : World) (v : Value) (x : List Bool) (bs : List Nat) (h : BoolsE b w v x bs) : BoolsE b' w v x bs := rowE_base h hb
theorem ints2_base {b b' : Nat} (hb : b' ≤ b) (w : World) (v : Value) (x : List (List Int)) (bs : List Nat) (h : Ints2E b w v x bs) : Ints2E b' w v x bs := manyE_base (ints_base hb) h hb
theorem ints_r : RP.Ok IntsR := RowR.ok _ _
theorem bools_r : RP.Ok BoolsR := RowR.ok _ _
theorem pushes_r : RP.Ok PushR := RowR.ok _ _
theorem ints2_r : RP.Ok Ints2R := ManyR.ok ints_r
theorem ints3_r : RP.Ok Ints3R := ManyR.ok ints2_r
theorem pushes2_r : RP.Ok Push2R := ManyR.ok pushes_r


end Go.Proofs.YtadifihblaalpaaDoor
