/- Values that own their memory: rows, and rows of rows, each in a block of its own. -/
import Derived.Test.YticmekdfdilcpaaMem
import Derived.WalkKit
import Derived.Maps.AppendAt
namespace Go.Proofs.Yticmekdfdilcpaa
open Go.RowKit

/-- w' is w with new blocks, and with writes to the blocks of bs alone. -/
structure Turned (bs : List Nat) (w w' : World) : Prop where
  os : w'.os = w.os
  tape : w'.tape = w.tape
  output : w'.output = w.output
  size : w.heap.size ≤ w'.heap.size
  block : ∀ k, k < w.heap.size → k ∉ bs → w'.heap[k]? = w.heap[k]?

theorem Turned.refl (bs : List Nat) (w : World) : Turned bs w w := ⟨rfl, rfl, rfl, Nat.le_refl _, fun _ _ _ => rfl⟩
theorem Turned.trans {bs : List Nat} {x y z : World} (h : Turned bs x y) (k : Turned bs y z) : Turned bs x z :=
  ⟨k.os.trans h.os, k.tape.trans h.tape, k.output.trans h.output, Nat.le_trans h.size k.size, fun b hb hn => (k.block b (Nat.lt_of_lt_of_le hb h.size) hn).trans (h.block b hb hn)⟩
theorem Turned.mono {bs cs : List Nat} {x y : World} (h : Turned bs x y) (hs : ∀ b ∈ bs, b ∈ cs) : Turned cs x y :=
  ⟨h.os, h.tape, h.output, h.size, fun b hb hn => h.block b hb (fun e => hn (hs b e))⟩
theorem Turned.of_below {bs : List Nat} {x y : World} (h : Below x.heap.size x y) : Turned bs x y := ⟨h.os, h.tape, h.output, h.size, fun b hb _ => h.block b hb⟩
theorem Turned.of_grown {bs : List Nat} {x y : World} {row : Option Nat} (h : x.grownBy y row) (hr : ∀ r, row = some r → r ∈ bs) : Turned bs x y :=
  ⟨h.os, h.tape, h.output, h.size, fun b hb hn => h.block b hb (fun e => hn (hr b e.symm))⟩
theorem Turned.drewN {bs : List Nat} {x y : World} (h : Turned bs x y) (m : Nat) : Turned bs x (y.drewN m) := ⟨h.os, h.tape, h.output, h.size, h.block⟩
theorem Turned.below {bs : List Nat} {x y w : World} {B : Nat} (h : Turned bs x y) (hb : Below B w x) (hB : B ≤ x.heap.size) (hbs : ∀ b ∈ bs, B ≤ b) : Below B w y :=
  ⟨h.os.trans hb.os, h.tape.trans hb.tape, h.output.trans hb.output, Nat.le_trans hb.size h.size, fun b hlt => (h.block b (by omega) (fun e => by have := hbs b e; omega)).trans (hb.block b hlt)⟩

/-- What a value that owns the blocks of bs reads as. -/
abbrev EP (α : Type) : Type := World → Value → α → List Nat → Prop
structure EP.Ok {α : Type} (base : Nat) (E : EP α) : Prop where
  kept : ∀ {w w' : World} {v : Value} {x : α} {bs : List Nat}, E w v x bs → (∀ b ∈ bs, w'.heap[b]? = w.heap[b]?) → E w' v x bs
  lt : ∀ {w : World} {v : Value} {x : α} {bs : List Nat}, E w v x bs → ∀ b ∈ bs, base ≤ b ∧ b < w.heap.size
  nodup : ∀ {w : World} {v : Value} {x : α} {bs : List Nat}, E w v x bs → bs.Nodup

section
variable {α : Type} {base : Nat} {E : EP α} {w w' : World} {v : Value} {x : α} {bs cs : List Nat}
theorem EP.Ok.off (h : EP.Ok base E) (he : E w v x bs) (ht : Turned cs w w') (hd : ∀ b ∈ bs, b ∉ cs) : E w' v x bs :=
  h.kept he fun b hb => ht.block b (h.lt he b hb).2 (hd b hb)
theorem EP.Ok.later (h : EP.Ok base E) (he : E w v x bs) (hb : Below w.heap.size w w') : E w' v x bs :=
  h.kept he fun b hb' => hb.block b (h.lt he b hb').2
theorem EP.Ok.drewN (h : EP.Ok base E) (he : E w v x bs) (m : Nat) : E (w.drewN m) v x bs := h.kept he fun _ _ => rfl
end

/-- A slice is one cell. -/
theorem one_of_row {w : World} {base : Nat} {e : TypeId} {size n : Nat} {v : Value} {xs : List Value} (h : w.ownsRow base e size v n xs) : v.oneCell' = true := by
  rcases h.2 with ⟨rfl, _⟩ | ⟨g, cap, cur, rfl, _⟩ <;> rfl
theorem blocks_nodup (v : Value) : v.ownBlock.toList.Nodup := by cases v.ownBlock <;> simp
theorem row_kept {w w' : World} {base : Nat} {e : TypeId} {size n : Nat} {v : Value} {xs : List Value} (h : w.ownsRow base e size v n xs) (hs : ∀ b ∈ v.ownBlock.toList, w'.heap[b]? = w.heap[b]?) : w'.ownsRow base e size v n xs := by
  refine ⟨h.1, ?_⟩
  rcases h.2 with h0 | ⟨g, cap, cur, rfl, hb, hg, rest⟩
  · exact .inl h0
  · exact .inr ⟨g, cap, cur, rfl, hb, (hs g (by simp [Value.ownBlock])).trans hg, rest⟩

/-- A row of plain cells. -/
def RowE {α : Type} (base : Nat) (e : TypeId) (size : Nat) (enc : α → List Value) : EP (List α) := fun w v xs bs =>
  w.ownsRow base e size v xs.length (xs.flatMap enc) ∧ bs = v.ownBlock.toList
theorem RowE.ok {α : Type} (base : Nat) (e : TypeId) (size : Nat) (enc : α → List Value) : EP.Ok base (RowE base e size enc) where
  kept := by rintro w w' v xs bs ⟨h, rfl⟩ hs; exact ⟨row_kept h hs, rfl⟩
  lt := by
    rintro w v xs bs ⟨h, rfl⟩ b hb
    exact h.lt b (by simpa using hb)
  nodup := by rintro w v xs bs ⟨h, rfl⟩; exact blocks_nodup v

/-- A row of values that own their memory. -/
def ManyE {α : Type} (base : Nat) (e : TypeId) (E : EP α) : EP (List α) := fun w v xs bs =>
  ∃ (vs : List Value) (bss : List (List Nat)), w.ownsRow base e 1 v xs.length vs ∧ bss.length = xs.length ∧
    (∀ (j : Nat) x u cs, xs[j]? = some x → vs[j]? = some u → bss[j]? = some cs → E w u x cs) ∧ bs = v.ownBlock.toList ++ bss.flatten ∧ bs.Nodup
theorem ManyE.ok {α : Type} {base : Nat} (e : TypeId) {E : EP α} (hE : EP.Ok base E) : EP.Ok base (ManyE base e E) where
  kept := by
    rintro w w' v xs bs ⟨vs, bss, hr, hl, hx, rfl, hn⟩ hs
    refine ⟨vs, bss, row_kept hr (fun b hb => hs b (List.mem_append_left _ hb)), hl, fun j x u cs h1 h2 h3 => hE.kept (hx j x u cs h1 h2 h3) fun b hb => hs b (List.mem_append_right _ (List.mem_flatten.2 ⟨cs, List.mem_of_getElem? h3, hb⟩)), rfl, hn⟩
  lt := by
    rintro w v xs bs ⟨vs, bss, hr, hl, hx, rfl, hn⟩ b hb
    rcases List.mem_append.1 hb with hb | hb
    · exact hr.lt b (by simpa using hb)
    · obtain ⟨cs, hc, hb⟩ := List.mem_flatten.1 hb
      obtain ⟨j, hj, rfl⟩ := List.mem_iff_getElem.1 hc
      have hvl := hr.1
      exact hE.lt (hx j (xs[j]'(by omega)) (vs[j]'(by omega)) _ (List.getElem?_eq_getElem (by omega)) (List.getElem?_eq_getElem (by omega)) (List.getElem?_eq_getElem hj)) b hb
  nodup := by rintro w v xs bs ⟨vs, bss, _, _, _, _, hn⟩; exact hn

section
variable {α : Type} {base : Nat} {e : TypeId} {E : EP α} {w : World} {v : Value} {xs : List α} {bs : List Nat}
theorem ManyE.row (h : ManyE base e E w v xs bs) : ∃ vs, w.ownsRow base e 1 v xs.length vs := by obtain ⟨vs, _, hr, _⟩ := h; exact ⟨vs, hr⟩
/-- The value at one index, and what becomes of all where it turns. -/
theorem ManyE.at_ (h : ManyE base e E w v xs bs) (hE : EP.Ok base E) {j : Nat} {x : α} (hj : xs[j]? = some x) :
    ∃ g c u cs, v = .slice (some ⟨g, 0, none⟩) xs.length c ∧ w.cell? ⟨g, j, none⟩ = some u ∧ E w u x cs ∧ g < w.heap.size ∧
      ∀ w2 x', Turned cs w w2 → E w2 u x' cs → ManyE base e E w2 v (xs.set j x') bs ∧ Turned bs w w2 := by
  obtain ⟨vs, bss, hr, hl, hx, rfl, hn⟩ := h
  have hjl := (List.getElem?_eq_some_iff.1 hj).1
  have hvl := hr.1
  have hv := hr.2
  rcases hr.2 with ⟨_, h0⟩ | ⟨g, cap, cur, rfl, hb, hg, _⟩
  · omega
  have hu : vs[j]? = some (vs[j]'(by omega)) := List.getElem?_eq_getElem (by omega)
  have hc : bss[j]? = some (bss[j]'(by omega)) := List.getElem?_eq_getElem (by omega)
  refine ⟨g, cap, vs[j]'(by omega), bss[j]'(by omega), rfl, ?_, hx j x _ _ hj hu hc, (hr.lt g rfl).2, fun w2 x' ht he => ?_⟩
  · rw [hr.cellAt j (by omega)]; exact hu
  · have hsub : ∀ b ∈ bss[j]'(by omega), b ∈ (Value.slice (some ⟨g, 0, none⟩) xs.length cap).ownBlock.toList ++ bss.flatten := fun b hb =>
      List.mem_append_right _ (List.mem_flatten.2 ⟨_, List.mem_of_getElem? hc, hb⟩)
    have hn2 := List.nodup_append.1 hn
    have hnf := List.pairwise_flatten.1 hn2.2.1
    refine ⟨⟨vs, bss, ?_, by rw [List.length_set]; exact hl, ?_, rfl, hn⟩, ht.mono hsub⟩
    · rw [List.length_set]
      refine row_kept hr fun b hb => ht.block b ?_ fun hm => ?_
      · have hb' : b = g := by simpa [Value.ownBlock, eq_comm] using hb
        rw [hb']
        exact (hr.lt g rfl).2
      · exact hn2.2.2 b hb b (List.mem_flatten.2 ⟨_, List.mem_of_getElem? hc, hm⟩) rfl
    · intro i y u cs h1 h2 h3
      by_cases hij : i = j
      · subst hij
        rw [List.getElem?_set_self hjl] at h1
        rw [hu] at h2
        rw [hc] at h3
        cases h1; cases h2; cases h3
        exact he
      · rw [List.getElem?_set_ne (fun e => hij e.symm)] at h1
        refine hE.off (hx i y u cs h1 h2 h3) ht fun b hb hm => ?_
        have hil := (List.getElem?_eq_some_iff.1 h3).1
        have hp := hnf.2
        rw [List.pairwise_iff_getElem] at hp
        rcases Nat.lt_or_gt_of_ne hij with hlt | hlt
        · have := hp i j hil (by omega) hlt
          rw [List.getElem?_eq_getElem hil] at h3
          cases h3
          exact this b hb b hm rfl
        · have := hp j i (by omega) hil hlt
          rw [List.getElem?_eq_getElem hil] at h3
          cases h3
          exact this b hm b hb rfl
theorem ManyE.nil (base : Nat) (e : TypeId) (E : EP α) (w : World) : ManyE base e E w (.slice none 0 0) [] [] :=
  ⟨[], [], by simpa using World.ownsRow_nil w base e 1, rfl, fun j x u cs h => by simp at h, by simp [Value.ownBlock], by simp⟩
/-- One more behind the others: v' owns the longer row, the new value owns what none of the others has. -/
theorem ManyE.snoc (h : ManyE base e E w v xs bs) (hE : EP.Ok base E) {w' : World} {v' u : Value} {x : α} {cs : List Nat}
    (hown : ∀ vs, w.ownsRow base e 1 v xs.length vs → w'.ownsRow base e 1 v' (xs.length + 1) (vs ++ [u])) (hg : ∀ b, b < w.heap.size → some b ≠ v.ownBlock → w'.heap[b]? = w.heap[b]?)
    (hat : v'.ownBlock = v.ownBlock ∨ ∃ g, v'.ownBlock = some g ∧ g ∉ bs ∧ g ∉ cs) (he : E w' u x cs) (hd : ∀ b ∈ bs, b ∉ cs) (hcn : cs.Nodup) :
    ∃ bs', ManyE base e E w' v' (xs ++ [x]) bs' ∧ ∀ b ∈ bs', b ∈ bs ∨ b ∈ cs ∨ some b = v'.ownBlock := by
  obtain ⟨vs, bss, hr, hl, hx, rfl, hn⟩ := h
  have hn2 := List.nodup_append.1 hn
  have hvl := hr.1
  have hlt := (ManyE.ok e hE).lt ⟨vs, bss, hr, hl, hx, rfl, hn⟩
  refine ⟨v'.ownBlock.toList ++ (bss ++ [cs]).flatten, ⟨vs ++ [u], bss ++ [cs], by simpa using hown vs hr, by simp [hl], ?_, rfl, ?_⟩, ?_⟩
  · intro j y u' cs' h1 h2 h3
    by_cases hj : j < xs.length
    · rw [List.getElem?_append_left hj] at h1
      rw [List.getElem?_append_left (by omega)] at h2 h3
      refine hE.kept (hx j y u' cs' h1 h2 h3) fun b hb => ?_
      have hm : b ∈ bss.flatten := List.mem_flatten.2 ⟨cs', List.mem_of_getElem? h3, hb⟩
      refine hg b (hlt b (List.mem_append_right _ hm)).2 fun e' => ?_
      exact hn2.2.2 b (by rw [← e']; simp) b hm rfl
    · have hjl := (List.getElem?_eq_some_iff.1 h1).1
      simp at hjl
      have hje : j = xs.length := by omega
      subst hje
      simp at h1
      rw [List.getElem?_append_right (by omega), show xs.length - vs.length = 0 from by omega] at h2
      rw [List.getElem?_append_right (by omega), show xs.length - bss.length = 0 from by omega] at h3
      simp at h2 h3
      subst h1; subst h2; subst h3
      exact he
  · rw [List.flatten_append, List.flatten_singleton, List.nodup_append]
    refine ⟨blocks_nodup _, ?_, ?_⟩
    · rw [List.nodup_append]
      refine ⟨hn2.2.1, hcn, fun a ha b hb e' => ?_⟩
      subst e'
      exact hd a (List.mem_append_right _ ha) hb
    · intro a ha b hb e'
      subst e'
      rcases hat with h1 | ⟨g, h1, h2, h3⟩
      · rw [h1] at ha
        rcases List.mem_append.1 hb with hb | hb
        · exact hn2.2.2 a ha a hb rfl
        · exact hd a (List.mem_append_left _ ha) hb
      · rw [h1] at ha
        simp at ha
        subst ha
        rcases List.mem_append.1 hb with hb | hb
        · exact h2 (List.mem_append_right _ hb)
        · exact h3 hb
  · intro b hb
    rw [List.flatten_append, List.flatten_singleton] at hb
    rcases List.mem_append.1 hb with hb | hb
    · exact .inr (.inr (by simpa [eq_comm] using hb))
    · rcases List.mem_append.1 hb with hb | hb
      · exact .inl (List.mem_append_right _ hb)
      · exact .inr (.inl hb)
end
end Go.Proofs.Yticmekdfdilcpaa
