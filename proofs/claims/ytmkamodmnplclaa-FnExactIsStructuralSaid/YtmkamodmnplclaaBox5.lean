/- A box of five cells. -/
import Derived.Test.YtmkamodmnplclaaRw
import Derived.Test.YtmkamodmnplclaaPost0
namespace Go.Proofs.Ytmkamodmnplclaa
open Go.RowKit

structure Box5 (W : World) (B : Nat) (v0 v1 v2 v3 v4 : Value) : Prop where
  c0 : W.cell? ⟨B, 0, none⟩ = some v0
  c1 : W.cell? ⟨B, 1, none⟩ = some v1
  c2 : W.cell? ⟨B, 2, none⟩ = some v2
  c3 : W.cell? ⟨B, 3, none⟩ = some v3
  c4 : W.cell? ⟨B, 4, none⟩ = some v4
  lt : B < W.heap.size
theorem Box5.same {W W' : World} {B : Nat} {v0 v1 v2 v3 v4 : Value} (h : Box5 W B v0 v1 v2 v3 v4) (hs : W'.heap[B]? = W.heap[B]?) : Box5 W' B v0 v1 v2 v3 v4 := by
  have k := fun o => World.cell?_of_block (w := W) (w' := W') (a := ⟨B, o, none⟩) hs
  refine ⟨(k 0).trans h.c0, (k 1).trans h.c1, (k 2).trans h.c2, (k 3).trans h.c3, (k 4).trans h.c4, ?_⟩
  have h1 := h.lt
  rw [Array.getElem?_eq_getElem h1] at hs
  exact (Array.getElem?_eq_some_iff.1 hs).1
theorem Box5.later {W W' : World} {B : Nat} {v0 v1 v2 v3 v4 : Value} (h : Box5 W B v0 v1 v2 v3 v4) (hb : Below W.heap.size W W') : Box5 W' B v0 v1 v2 v3 v4 := h.same (hb.block B h.lt)
theorem Box5.off {W W' : World} {B : Nat} {v0 v1 v2 v3 v4 : Value} {bs : List Nat} (h : Box5 W B v0 v1 v2 v3 v4) (ht : Turned bs W W') (hB : B ∉ bs) : Box5 W' B v0 v1 v2 v3 v4 := h.same (ht.block B h.lt hB)
theorem Box5.new (W : World) (v0 v1 v2 v3 v4 : Value) (t : TypeId) : Box5 (W.alloc (.cells #[v0, v1, v2, v3, v4] t)) W.heap.size v0 v1 v2 v3 v4 := by
  refine ⟨?_, ?_, ?_, ?_, ?_, by simp⟩ <;> simp [go_sem]
end Go.Proofs.Ytmkamodmnplclaa
