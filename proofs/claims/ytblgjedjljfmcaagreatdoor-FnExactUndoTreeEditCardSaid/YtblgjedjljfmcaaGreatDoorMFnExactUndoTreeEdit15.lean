import Derived.Test.YtblgjedjljfmcaaGreatDoorMFnExactUndoTreeEdit14
/- Checkers that own their memory: eqChecker, markChecker, heldChecker. -/
namespace Go.Proofs.YtblgjedjljfmcaaGreatDoor
open Go.RowKit

structure Ck where
  stack : Int
  start : Int
  accept : List Bool
  call : List (List (Int × Int))
  ret : List (List (List Int))
  inner : List (List Int)

def szC (c : Ck) : Nat := c.accept.length + (szL lenP c.call + (szL (szL lenI) c.ret + szL lenI c.inner))
structure BdC (c : Ck) : Prop where
  accept : Bd1 c.accept
  call : Bd2 c.call
  ret : Bd3 c.ret
  inner : Bd2 c.inner
  sum : szC c ≤ 2100000

/-- A box of six cells. -/
structure Box6 (W : World) (B : Nat) (v0 v1 v2 v3 v4 v5 : Value) : Prop where
  c0 : W.cell? ⟨B, 0, none⟩ = some v0
  c1 : W.cell? ⟨B, 1, none⟩ = some v1
  c2 : W.cell? ⟨B, 2, none⟩ = some v2
  c3 : W.cell? ⟨B, 3, none⟩ = some v3
  c4 : W.cell? ⟨B, 4, none⟩ = some v4
  c5 : W.cell? ⟨B, 5, none⟩ = some v5
  lt : B < W.heap.size
theorem Box6.same {W W' : World} {B : Nat} {v0 v1 v2 v3 v4 v5 : Value} (h : Box6 W B v0 v1 v2 v3 v4 v5) (hs : W'.heap[B]? = W.heap[B]?) : Box6 W' B v0 v1 v2 v3 v4 v5 := by
  have k := fun o => World.cell?_of_block (w := W) (w' := W') (a := ⟨B, o, none⟩) hs
  refine ⟨(k 0).trans h.c0, (k 1).trans h.c1, (k 2).trans h.c2, (k 3).trans h.c3, (k 4).trans h.c4, (k 5).trans h.c5, ?_⟩
  have h1 := h.lt
  rw [Array.getElem?_eq_getElem h1] at hs
  exact (Array.getElem?_eq_some_iff.1 hs).1
theorem Box6.later {W W' : World} {B : Nat} {v0 v1 v2 v3 v4 v5 : Value} (h : Box6 W B v0 v1 v2 v3 v4 v5) (hb : Below W.heap.size W W') : Box6 W' B v0 v1 v2 v3 v4 v5 := h.same (hb.block B h.lt)
theorem Box6.off {W W' : World} {B : Nat} {v0 v1 v2 v3 v4 v5 : Value} {bs : List Nat} (h : Box6 W B v0 v1 v2 v3 v4 v5) (ht : Turned bs W W') (hB : B ∉ bs) : Box6 W' B v0 v1 v2 v3 v4 v5 := h.same (ht.block B h.lt hB)
theorem Box6.new (W : World) (v0 v1 v2 v3 v4 v5 : Value) (t : TypeId) : Box6 (W.alloc (.cells #[v0, v1, v2, v3, v4, v5] t)) W.heap.size v0 v1 v2 v3 v4 v5 := by
  refine ⟨?_, ?_, ?_, ?_, ?_, ?_, by simp⟩ <;> simp [go_sem]

def mkC (k : Nat) (c : Ck) : Ck :=
  { stack := c.stack, start := c.start, accept := mkB k c.accept, call := mkP2 (k + c.accept.length) c.call, ret := mkI3 (k + c.accept.length + szL lenP c.call) c.ret,
    inner := mkI2 (k + c.accept.length + szL lenP c.call + szL (szL lenI) c.ret) c.inner }

end Go.Proofs.YtblgjedjljfmcaaGreatDoor
/- Values that a literal lays: rows in new blocks, one behind the other. -/
namespace Go.Proofs.YtblgjedjljfmcaaGreatDoor
open Go.RowKit

def allocs (w : World) : List Obj → World
  | [] => w
  | o :: os => allocs (w.alloc o) os
theorem allocs_size (os : List Obj) : ∀ w : World, (allocs w os).heap.size = w.heap.size + os.length := by
  induction os with
  | nil => intro w; rfl
  | cons o os ih => intro w; rw [allocs, ih, World.size_alloc, List.length_cons]; omega
theorem allocs_below (os : List Obj) : ∀ (w0 w : World) (B : Nat), Below B w0 w → B ≤ w.heap.size → Below B w0 (allocs w os) := by
  induction os with
  | nil => intro w0 w B h _; exact h
  | cons o os ih => intro w0 w B h hs; exact ih _ _ _ (h.alloc hs o) (by rw [World.size_alloc]; omega)
theorem allocs_at (os : List Obj) : ∀ (w : World) (i : Nat) (o : Obj), os[i]? = some o → (allocs w os).heap[w.heap.size + i]? = some o := by
  induction os with
  | nil => intro w i o h; simp at h
  | cons a os ih =>
    intro w i o h
    cases i with
    | zero =>
      simp at h
      subst h
      have hb := allocs_below os (w.alloc a) (w.alloc a) (w.alloc a).heap.size (Below.refl _ _) (Nat.le_refl _)
      exact (hb.block w.heap.size (by simp)).trans (World.alloc_heap_new w a)
    | succ i =>
      have := ih (w.alloc a) i o (by simpa using h)
      rw [World.size_alloc] at this
      rw [show w.heap.size + (i + 1) = w.heap.size + 1 + i from by omega]
      exact this

theorem row_lit {W : World} {base g n : Nat} {e : TypeId} {size : Nat} {cur : Array Value} (h : W.heap[g]? = some (.cells cur e (0, 0))) (hb : base ≤ g) (hs : cur.size = n * size) (hm : n ≤ maxLen) :
    W.ownsRow base e size (.slice (some ⟨g, 0, none⟩) n n) n cur.toList := by
  refine ⟨by rw [Array.length_toList, hs], .inr ⟨g, n, cur, rfl, hb, h, Nat.le_refl _, hm, hs, ?_⟩⟩
  rw [List.take_of_length_le (by rw [Array.length_toList, hs]; exact Nat.le_refl _)]
theorem rowE_lit {α : Type} {W : World} {base g : Nat} {e : TypeId} {size : Nat} {enc : α → List Value} {xs : List α} {cur : Array Value} (n : Nat) (h : W.heap[g]? = some (.cells cur e (0, 0))) (hb : base ≤ g) (hn : xs.length = n) (hc : cur.toList = xs.flatMap enc) (hs : cur.size = n * size) (hm : n ≤ maxLen) :
    RowE base e size enc W (.slice (some ⟨g, 0, none⟩) n n) xs [g] := by
  have := row_lit h hb hs hm
  rw [hc] at this
  subst hn
  exact ⟨this, rfl⟩

def AllE {α : Type} (E : EP α) (W : World) : List α → List Value → List (List Nat) → Prop
  | [], [], [] => True
  | x :: xs, u :: us, c :: cs => E W u x c ∧ AllE E W xs us cs
  | _, _, _ => False
theorem AllE.lens {α : Type} {E : EP α} {W : World} : ∀ {xs : List α} {us : List Value} {cs : List (List Nat)}, AllE E W xs us cs → us.length = xs.length ∧ cs.length = xs.length
  | [], [], [], _ => ⟨rfl, rfl⟩
  | _ :: _, _ :: _, _ :: _, h => by
    obtain ⟨h1, h2⟩ := AllE.lens h.2
    simp [h1, h2]
  | [], _ :: _, _, h => h.elim
  | [], [], _ :: _, h => h.elim
  | _ :: _, [], _, h => h.elim
  | _ :: _, _ :: _, [], h => h.elim
theorem AllE.at_ {α : Type} {E : EP α} {W : World} : ∀ {xs : List α} {us : List Value} {cs : List (List Nat)}, AllE E W xs us cs → ∀ (j : Nat) x u c, xs[j]? = some x → us[j]? = some u → cs[j]? = some c → E W u x c
  | [], [], [], _ => fun j x u c h => by simp at h
  | _ :: _, _ :: _, _ :: _, h => fun j x u c h1 h2 h3 => by
    cases j with
    | zero => simp at h1 h2 h3; subst h1; subst h2; subst h3; exact h.1
    | succ j => exact AllE.at_ h.2 j x u c (by simpa using h1) (by simpa using h2) (by simpa using h3)
  | [], _ :: _, _, h => h.elim
  | [], [], _ :: _, h => h.elim
  | _ :: _, [], _, h => h.elim
  | _ :: _, _ :: _, [], h => h.elim
theorem many_lit {α : Type} {E : EP α} {W : World} {base g : Nat} {e : TypeId} {xs : List α} {vs : Array Value} {bss : List (List Nat)} (n : Nat) (h : W.heap[g]? = some (.cells vs e (0, 0))) (hb : base ≤ g) (hl : xs.length = n) (ha : AllE E W xs vs.toList bss)
    (hn : (g :: bss.flatten).Nodup) (hm : n ≤ maxLen) : ManyE base e E W (.slice (some ⟨g, 0, none⟩) n n) xs (g :: bss.flatten) := by
  obtain ⟨h1, h2⟩ := ha.lens
  subst hl
  rw [Array.length_toList] at h1
  exact ⟨vs.toList, bss, row_lit h hb (by omega) hm, h2, ha.at_, rfl, hn⟩

theorem nodup_at (B : Nat) (l : List Nat) (h : l.Nodup) : (l.map (B + ·)).Nodup := by
  rw [List.nodup_iff_pairwise_ne] at h ⊢
  rw [List.pairwise_map]
  exact h.imp fun hab e => hab (by omega)

end Go.Proofs.YtblgjedjljfmcaaGreatDoor
