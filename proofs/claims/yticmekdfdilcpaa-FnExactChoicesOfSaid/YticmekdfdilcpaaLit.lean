/- Values that a literal lays: rows in new blocks, one behind the other. -/
import Derived.Test.YticmekdfdilcpaaChk
namespace Go.Proofs.Yticmekdfdilcpaa
open Go.RowKit

def allocs (w : World) : List Obj → World
  | [] => w
  | o :: os => allocs (w.alloc o) os
theorem allocs_size (os : List Obj) : ∀ w : World, (allocs w os).heap.size = w.heap.size + os.length := by
  induction os with
  | nil => intro w; rfl
  | cons o os ih => intro w; rw [allocs, ih, World.size_alloc, List.length_cons]; omega
theorem allocs_below (os : List Obj) : ∀ (w0 w : World) (B : Nat), Below B w0 w → B ≤ w.heap.size → Below B w0 (allocs w os) := by
  induction os with
  | nil => intro w0 w B h _; exact h
  | cons o os ih => intro w0 w B h hs; exact ih _ _ _ (h.alloc hs o) (by rw [World.size_alloc]; omega)
theorem allocs_at (os : List Obj) : ∀ (w : World) (i : Nat) (o : Obj), os[i]? = some o → (allocs w os).heap[w.heap.size + i]? = some o := by
  induction os with
  | nil => intro w i o h; simp at h
  | cons a os ih =>
    intro w i o h
    cases i with
    | zero =>
      simp at h
      subst h
      have hb := allocs_below os (w.alloc a) (w.alloc a) (w.alloc a).heap.size (Below.refl _ _) (Nat.le_refl _)
      exact (hb.block w.heap.size (by simp)).trans (World.alloc_heap_new w a)
    | succ i =>
      have := ih (w.alloc a) i o (by simpa using h)
      rw [World.size_alloc] at this
      rw [show w.heap.size + (i + 1) = w.heap.size + 1 + i from by omega]
      exact this

theorem row_lit {W : World} {base g n : Nat} {e : TypeId} {size : Nat} {cur : Array Value} (h : W.heap[g]? = some (.cells cur e (0, 0))) (hb : base ≤ g) (hs : cur.size = n * size) (hm : n ≤ maxLen) :
    W.ownsRow base e size (.slice (some ⟨g, 0, none⟩) n n) n cur.toList := by
  refine ⟨by rw [Array.length_toList, hs], .inr ⟨g, n, cur, rfl, hb, h, Nat.le_refl _, hm, hs, ?_⟩⟩
  rw [List.take_of_length_le (by rw [Array.length_toList, hs]; exact Nat.le_refl _)]
theorem rowE_lit {α : Type} {W : World} {base g : Nat} {e : TypeId} {size : Nat} {enc : α → List Value} {xs : List α} {cur : Array Value} (n : Nat) (h : W.heap[g]? = some (.cells cur e (0, 0))) (hb : base ≤ g) (hn : xs.length = n) (hc : cur.toList = xs.flatMap enc) (hs : cur.size = n * size) (hm : n ≤ maxLen) :
    RowE base e size enc W (.slice (some ⟨g, 0, none⟩) n n) xs [g] := by
  have := row_lit h hb hs hm
  rw [hc] at this
  subst hn
  exact ⟨this, rfl⟩

def AllE {α : Type} (E : EP α) (W : World) : List α → List Value → List (List Nat) → Prop
  | [], [], [] => True
  | x :: xs, u :: us, c :: cs => E W u x c ∧ AllE E W xs us cs
  | _, _, _ => False
theorem AllE.lens {α : Type} {E : EP α} {W : World} : ∀ {xs : List α} {us : List Value} {cs : List (List Nat)}, AllE E W xs us cs → us.length = xs.length ∧ cs.length = xs.length
  | [], [], [], _ => ⟨rfl, rfl⟩
  | _ :: _, _ :: _, _ :: _, h => by
    obtain ⟨h1, h2⟩ := AllE.lens h.2
    simp [h1, h2]
  | [], _ :: _, _, h => h.elim
  | [], [], _ :: _, h => h.elim
  | _ :: _, [], _, h => h.elim
  | _ :: _, _ :: _, [], h => h.elim
theorem AllE.at_ {α : Type} {E : EP α} {W : World} : ∀ {xs : List α} {us : List Value} {cs : List (List Nat)}, AllE E W xs us cs → ∀ (j : Nat) x u c, xs[j]? = some x → us[j]? = some u → cs[j]? = some c → E W u x c
  | [], [], [], _ => fun j x u c h => by simp at h
  | _ :: _, _ :: _, _ :: _, h => fun j x u c h1 h2 h3 => by
    cases j with
    | zero => simp at h1 h2 h3; subst h1; subst h2; subst h3; exact h.1
    | succ j => exact AllE.at_ h.2 j x u c (by simpa using h1) (by simpa using h2) (by simpa using h3)
  | [], _ :: _, _, h => h.elim
  | [], [], _ :: _, h => h.elim
  | _ :: _, [], _, h => h.elim
  | _ :: _, _ :: _, [], h => h.elim
theorem many_lit {α : Type} {E : EP α} {W : World} {base g : Nat} {e : TypeId} {xs : List α} {vs : Array Value} {bss : List (List Nat)} (n : Nat) (h : W.heap[g]? = some (.cells vs e (0, 0))) (hb : base ≤ g) (hl : xs.length = n) (ha : AllE E W xs vs.toList bss)
    (hn : (g :: bss.flatten).Nodup) (hm : n ≤ maxLen) : ManyE base e E W (.slice (some ⟨g, 0, none⟩) n n) xs (g :: bss.flatten) := by
  obtain ⟨h1, h2⟩ := ha.lens
  subst hl
  rw [Array.length_toList] at h1
  exact ⟨vs.toList, bss, row_lit h hb (by omega) hm, h2, ha.at_, rfl, hn⟩

theorem nodup_at (B : Nat) (l : List Nat) (h : l.Nodup) : (l.map (B + ·)).Nodup := by
  rw [List.nodup_iff_pairwise_ne] at h ⊢
  rw [List.pairwise_map]
  exact h.imp fun hab e => hab (by omega)

/-- What lies behind a call that answers a new checker. -/
def CkPost (c : Ck) (w : World) (e : Ending) (w' : World) : Prop := ∃ v bs, e = .returned v ∧ CkE w.heap.size w' v c bs ∧ Below w.heap.size w w'
end Go.Proofs.Yticmekdfdilcpaa
