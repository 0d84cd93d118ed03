/- Blocks whose cells are all known. -/
import Derived.Test.YticmekdfdilcpaaOwn
namespace Go.Proofs.Yticmekdfdilcpaa
open Go.RowKit

/-- A block whose cells are all known. -/
def Bx (W : World) (B : Nat) (t : TypeId) (cs : Array Value) : Prop := W.heap[B]? = some (.cells cs t (0, 0))
section
variable {W W' : World} {B : Nat} {t : TypeId} {cs : Array Value}
theorem Bx.lt (h : Bx W B t cs) : B < W.heap.size := (Array.getElem?_eq_some_iff.1 h).1
theorem Bx.cell (h : Bx W B t cs) (i : Nat) (u : Value) (hu : cs[i]? = some u) : W.cell? ⟨B, i, none⟩ = some u := by
  simp [World.cell?, show W.heap[B]? = _ from h, hu]
theorem Bx.frozen (h : Bx W B t cs) (i : Nat) : W.frozen? ⟨B, i, none⟩ = false := by simp [World.frozen?, show W.heap[B]? = _ from h]
theorem Bx.same (h : Bx W B t cs) (hs : W'.heap[B]? = W.heap[B]?) : Bx W' B t cs := hs.trans h
theorem Bx.later (h : Bx W B t cs) (hb : Below W.heap.size W W') : Bx W' B t cs := h.same (hb.block B h.lt)
theorem Bx.off {bs : List Nat} (h : Bx W B t cs) (ht : Turned bs W W') (hB : B ∉ bs) : Bx W' B t cs := h.same (ht.block B h.lt hB)
theorem Bx.new (W : World) (t : TypeId) (cs : Array Value) : Bx (W.alloc (.cells cs t)) W.heap.size t cs := World.alloc_heap_new W _
theorem Bx.alloc (h : Bx W B t cs) (o : Obj) : Bx (W.alloc o) B t cs := h.same (Below.heap_alloc W o B h.lt)
theorem Bx.drewN (h : Bx W B t cs) (m : Nat) : Bx (W.drewN m) B t cs := h
theorem Bx.set (h : Bx W B t cs) (i : Nat) (u : Value) : Bx (W.setCell ⟨B, i, none⟩ u) B t (cs.setIfInBounds i u) := by
  obtain ⟨hlt, hk⟩ := Array.getElem?_eq_some_iff.1 h
  show (W.heap.modify B _)[B]? = _
  rw [Array.getElem?_eq_getElem (by rw [Array.size_modify]; exact hlt), Array.getElem_modify_self, hk]
  rfl
theorem Bx.other (h : Bx W B t cs) {b : Nat} (i : Nat) (u : Value) (hb : b ≠ B) : Bx (W.setCell ⟨b, i, none⟩ u) B t cs := h.same (Below.heap_setCell _ _ _ B (fun e => hb e.symm))
end
theorem size_set (W : World) (b i : Nat) (u : Value) : (W.setCell ⟨b, i, none⟩ u).heap.size = W.heap.size := by simp
theorem keepE {α : Type} {base : Nat} {E : EP α} (hE : EP.Ok base E) {W W' : World} {v : Value} {x : α} {bs : List Nat} (h : E W v x bs) (hb : Below W.heap.size W W') {B : Nat} (hB : ∀ b ∈ bs, b ≠ B) (i : Nat) (u : Value) : E (W'.setCell ⟨B, i, none⟩ u) v x bs :=
  hE.kept (hE.later h hb) fun b hbb => Below.heap_setCell _ _ _ b (hB b hbb)

theorem Bx.all1 {W : World} {B : Nat} {t : TypeId} {v0 : Value} (h : Bx W B t #[v0]) : W.cell? ⟨B, 0, none⟩ = some v0 ∧ B < W.heap.size :=
  ⟨h.cell 0 _ rfl, h.lt⟩
theorem Bx.all2 {W : World} {B : Nat} {t : TypeId} {v0 v1 : Value} (h : Bx W B t #[v0, v1]) : W.cell? ⟨B, 0, none⟩ = some v0 ∧ W.cell? ⟨B, 1, none⟩ = some v1 ∧ B < W.heap.size :=
  ⟨h.cell 0 _ rfl, h.cell 1 _ rfl, h.lt⟩
theorem Bx.all3 {W : World} {B : Nat} {t : TypeId} {v0 v1 v2 : Value} (h : Bx W B t #[v0, v1, v2]) : W.cell? ⟨B, 0, none⟩ = some v0 ∧ W.cell? ⟨B, 1, none⟩ = some v1 ∧ W.cell? ⟨B, 2, none⟩ = some v2 ∧ B < W.heap.size :=
  ⟨h.cell 0 _ rfl, h.cell 1 _ rfl, h.cell 2 _ rfl, h.lt⟩
theorem Bx.all4 {W : World} {B : Nat} {t : TypeId} {v0 v1 v2 v3 : Value} (h : Bx W B t #[v0, v1, v2, v3]) : W.cell? ⟨B, 0, none⟩ = some v0 ∧ W.cell? ⟨B, 1, none⟩ = some v1 ∧ W.cell? ⟨B, 2, none⟩ = some v2 ∧ W.cell? ⟨B, 3, none⟩ = some v3 ∧ B < W.heap.size :=
  ⟨h.cell 0 _ rfl, h.cell 1 _ rfl, h.cell 2 _ rfl, h.cell 3 _ rfl, h.lt⟩
theorem Bx.all5 {W : World} {B : Nat} {t : TypeId} {v0 v1 v2 v3 v4 : Value} (h : Bx W B t #[v0, v1, v2, v3, v4]) : W.cell? ⟨B, 0, none⟩ = some v0 ∧ W.cell? ⟨B, 1, none⟩ = some v1 ∧ W.cell? ⟨B, 2, none⟩ = some v2 ∧ W.cell? ⟨B, 3, none⟩ = some v3 ∧ W.cell? ⟨B, 4, none⟩ = some v4 ∧ B < W.heap.size :=
  ⟨h.cell 0 _ rfl, h.cell 1 _ rfl, h.cell 2 _ rfl, h.cell 3 _ rfl, h.cell 4 _ rfl, h.lt⟩
theorem Bx.all6 {W : World} {B : Nat} {t : TypeId} {v0 v1 v2 v3 v4 v5 : Value} (h : Bx W B t #[v0, v1, v2, v3, v4, v5]) : W.cell? ⟨B, 0, none⟩ = some v0 ∧ W.cell? ⟨B, 1, none⟩ = some v1 ∧ W.cell? ⟨B, 2, none⟩ = some v2 ∧ W.cell? ⟨B, 3, none⟩ = some v3 ∧ W.cell? ⟨B, 4, none⟩ = some v4 ∧ W.cell? ⟨B, 5, none⟩ = some v5 ∧ B < W.heap.size :=
  ⟨h.cell 0 _ rfl, h.cell 1 _ rfl, h.cell 2 _ rfl, h.cell 3 _ rfl, h.cell 4 _ rfl, h.cell 5 _ rfl, h.lt⟩
theorem Bx.all7 {W : World} {B : Nat} {t : TypeId} {v0 v1 v2 v3 v4 v5 v6 : Value} (h : Bx W B t #[v0, v1, v2, v3, v4, v5, v6]) : W.cell? ⟨B, 0, none⟩ = some v0 ∧ W.cell? ⟨B, 1, none⟩ = some v1 ∧ W.cell? ⟨B, 2, none⟩ = some v2 ∧ W.cell? ⟨B, 3, none⟩ = some v3 ∧ W.cell? ⟨B, 4, none⟩ = some v4 ∧ W.cell? ⟨B, 5, none⟩ = some v5 ∧ W.cell? ⟨B, 6, none⟩ = some v6 ∧ B < W.heap.size :=
  ⟨h.cell 0 _ rfl, h.cell 1 _ rfl, h.cell 2 _ rfl, h.cell 3 _ rfl, h.cell 4 _ rfl, h.cell 5 _ rfl, h.cell 6 _ rfl, h.lt⟩
theorem Bx.all8 {W : World} {B : Nat} {t : TypeId} {v0 v1 v2 v3 v4 v5 v6 v7 : Value} (h : Bx W B t #[v0, v1, v2, v3, v4, v5, v6, v7]) : W.cell? ⟨B, 0, none⟩ = some v0 ∧ W.cell? ⟨B, 1, none⟩ = some v1 ∧ W.cell? ⟨B, 2, none⟩ = some v2 ∧ W.cell? ⟨B, 3, none⟩ = some v3 ∧ W.cell? ⟨B, 4, none⟩ = some v4 ∧ W.cell? ⟨B, 5, none⟩ = some v5 ∧ W.cell? ⟨B, 6, none⟩ = some v6 ∧ W.cell? ⟨B, 7, none⟩ = some v7 ∧ B < W.heap.size :=
  ⟨h.cell 0 _ rfl, h.cell 1 _ rfl, h.cell 2 _ rfl, h.cell 3 _ rfl, h.cell 4 _ rfl, h.cell 5 _ rfl, h.cell 6 _ rfl, h.cell 7 _ rfl, h.lt⟩
end Go.Proofs.Yticmekdfdilcpaa
