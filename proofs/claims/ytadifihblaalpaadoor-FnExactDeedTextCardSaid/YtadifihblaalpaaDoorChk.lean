/- Checkers that own their memory: eqChecker, markChecker, heldChecker. -/
import Derived.Test.YtadifihblaalpaaDoorMany
namespace Go.Proofs.YtadifihblaalpaaDoor
open Go.RowKit

structure Ck where
  stack : Int
  start : Int
  accept : List Bool
  call : List (List (Int × Int))
  ret : List (List (List Int))
  inner : List (List Int)

def szC (c : Ck) : Nat := c.accept.length + (szL lenP c.call + (szL (szL lenI) c.ret + szL lenI c.inner))
structure BdC (c : Ck) : Prop where
  accept : Bd1 c.accept
  call : Bd2 c.call
  ret : Bd3 c.ret
  inner : Bd2 c.inner
  sum : szC c ≤ 2100000

/-- A box of six cells. -/
structure Box6 (W : World) (B : Nat) (v0 v1 v2 v3 v4 v5 : Value) : Prop where
  c0 : W.cell? ⟨B, 0, none⟩ = some v0
  c1 : W.cell? ⟨B, 1, none⟩ = some v1
  c2 : W.cell? ⟨B, 2, none⟩ = some v2
  c3 : W.cell? ⟨B, 3, none⟩ = some v3
  c4 : W.cell? ⟨B, 4, none⟩ = some v4
  c5 : W.cell? ⟨B, 5, none⟩ = some v5
  lt : B < W.heap.size
theorem Box6.same {W W' : World} {B : Nat} {v0 v1 v2 v3 v4 v5 : Value} (h : Box6 W B v0 v1 v2 v3 v4 v5) (hs : W'.heap[B]? = W.heap[B]?) : Box6 W' B v0 v1 v2 v3 v4 v5 := by
  have k := fun o => World.cell?_of_block (w := W) (w' := W') (a := ⟨B, o, none⟩) hs
  refine ⟨(k 0).trans h.c0, (k 1).trans h.c1, (k 2).trans h.c2, (k 3).trans h.c3, (k 4).trans h.c4, (k 5).trans h.c5, ?_⟩
  have h1 := h.lt
  rw [Array.getElem?_eq_getElem h1] at hs
  exact (Array.getElem?_eq_some_iff.1 hs).1
theorem Box6.later {W W' : World} {B : Nat} {v0 v1 v2 v3 v4 v5 : Value} (h : Box6 W B v0 v1 v2 v3 v4 v5) (hb : Below W.heap.size W W') : Box6 W' B v0 v1 v2 v3 v4 v5 := h.same (hb.block B h.lt)
theorem Box6.off {W W' : World} {B : Nat} {v0 v1 v2 v3 v4 v5 : Value} {bs : List Nat} (h : Box6 W B v0 v1 v2 v3 v4 v5) (ht : Turned bs W W') (hB : B ∉ bs) : Box6 W' B v0 v1 v2 v3 v4 v5 := h.same (ht.block B h.lt hB)
theorem Box6.new (W : World) (v0 v1 v2 v3 v4 v5 : Value) (t : TypeId) : Box6 (W.alloc (.cells #[v0, v1, v2, v3, v4, v5] t)) W.heap.size v0 v1 v2 v3 v4 v5 := by
  refine ⟨?_, ?_, ?_, ?_, ?_, ?_, by simp⟩ <;> simp [go_sem]

def mkC (k : Nat) (c : Ck) : Ck :=
  { stack := c.stack, start := c.start, accept := mkB k c.accept, call := mkP2 (k + c.accept.length) c.call, ret := mkI3 (k + c.accept.length + szL lenP c.call) c.ret,
    inner := mkI2 (k + c.accept.length + szL lenP c.call + szL (szL lenI) c.ret) c.inner }

end Go.Proofs.YtadifihblaalpaaDoor
