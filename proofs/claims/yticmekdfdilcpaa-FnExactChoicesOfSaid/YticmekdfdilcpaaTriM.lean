/- Three rows of things that own memory, growing side by side; choices in a box that grow. -/
import Derived.Test.YticmekdfdilcpaaPairT
import Derived.Test.YticmekdfdilcpaaOfM
namespace Go.Proofs.Yticmekdfdilcpaa
open Go.RowKit
set_option linter.unusedVariables false

structure TriM {α β γ : Type} (Z : Nat) (tp tr ti : TypeId) (P : EP α) (R : EP β) (I : EP γ) (W : World) (vp vr vi : Value) (xs : List α) (ys : List β) (zs : List γ) (e1 e2 e3 : List Nat) : Prop where
  p : ManyE Z tp P W vp xs e1
  r : ManyE Z tr R W vr ys e2
  i : ManyE Z ti I W vi zs e3
  d12 : ∀ k ∈ e1, k ∉ e2
  d13 : ∀ k ∈ e1, k ∉ e3
  d23 : ∀ k ∈ e2, k ∉ e3
section
variable {α β γ : Type} {Z : Nat} {tp tr ti : TypeId} {P : EP α} {R : EP β} {I : EP γ} {W W' w5 : World} {vp vr vi u : Value} {xs : List α} {ys : List β} {zs : List γ} {e1 e2 e3 cs : List Nat} {n g cap : Nat} {vs : List Value}
theorem TriM.rot (h : TriM Z tp tr ti P R I W vp vr vi xs ys zs e1 e2 e3) : TriM Z tr ti tp R I P W vr vi vp ys zs xs e2 e3 e1 :=
  ⟨h.r, h.i, h.p, h.d23, fun k h1 h2 => h.d12 k h2 h1, fun k h1 h2 => h.d13 k h2 h1⟩
theorem TriM.kept (h : TriM Z tp tr ti P R I W vp vr vi xs ys zs e1 e2 e3) (hP : EP.Ok Z P) (hR : EP.Ok Z R) (hI : EP.Ok Z I) (hs : ∀ b, Z ≤ b → b < W.heap.size → W'.heap[b]? = W.heap[b]?) : TriM Z tp tr ti P R I W' vp vr vi xs ys zs e1 e2 e3 :=
  ⟨(ManyE.ok _ hP).kept h.p fun b hb => hs b ((ManyE.ok _ hP).lt h.p b hb).1 ((ManyE.ok _ hP).lt h.p b hb).2, (ManyE.ok _ hR).kept h.r fun b hb => hs b ((ManyE.ok _ hR).lt h.r b hb).1 ((ManyE.ok _ hR).lt h.r b hb).2, (ManyE.ok _ hI).kept h.i fun b hb => hs b ((ManyE.ok _ hI).lt h.i b hb).1 ((ManyE.ok _ hI).lt h.i b hb).2, h.d12, h.d13, h.d23⟩
theorem TriM.later (h : TriM Z tp tr ti P R I W vp vr vi xs ys zs e1 e2 e3) (hP : EP.Ok Z P) (hR : EP.Ok Z R) (hI : EP.Ok Z I) (hb : Below W.heap.size W W') : TriM Z tp tr ti P R I W' vp vr vi xs ys zs e1 e2 e3 :=
  h.kept hP hR hI fun b _ hb' => hb.block b hb'
theorem TriM.lts (h : TriM Z tp tr ti P R I W vp vr vi xs ys zs e1 e2 e3) (hP : EP.Ok Z P) (hR : EP.Ok Z R) (hI : EP.Ok Z I) : (∀ k ∈ e1, Z ≤ k ∧ k < W.heap.size) ∧ (∀ k ∈ e2, Z ≤ k ∧ k < W.heap.size) ∧ (∀ k ∈ e3, Z ≤ k ∧ k < W.heap.size) :=
  ⟨(ManyE.ok _ hP).lt h.p, (ManyE.ok _ hR).lt h.r, (ManyE.ok _ hI).lt h.i⟩
theorem TriM.addP {x : α} (h : TriM Z tp tr ti P R I W vp vr vi xs ys zs e1 e2 e3) (hP : EP.Ok Z P) (hR : EP.Ok Z R) (hI : EP.Ok Z I) (hn : xs.length = n) (hu : P W u x cs) (hc1 : ∀ k ∈ e1, k ∉ cs) (hc2 : ∀ k ∈ e2, k ∉ cs) (hc3 : ∀ k ∈ e3, k ∉ cs)
    (hrow : W.ownsRow Z tp 1 vp n vs) (hown : w5.ownsRow Z tp 1 (.slice (some ⟨g, 0, none⟩) (n + 1) cap) (n + 1) (vs ++ [u])) (hg : W.grownBy w5 vp.ownBlock) (hat : vp.ownBlock = some g ∨ g = W.heap.size) :
    ∃ e1', TriM Z tp tr ti P R I w5 (.slice (some ⟨g, 0, none⟩) (n + 1) cap) vr vi (xs ++ [x]) ys zs e1' e2 e3 ∧ ∀ k ∈ e1', k ∈ e1 ∨ k ∈ cs ∨ k = W.heap.size := by
  have hm : ∀ k, vp.ownBlock = some k → k ∈ e1 := h.p.held.choose_spec.2
  have t2 := (ManyE.ok _ hR).lt h.r
  have t3 := (ManyE.ok _ hI).lt h.i
  obtain ⟨e1', hS, he⟩ := many_grow hP h.p hn hrow hu hc1 hown hg rfl hat
  have hgg : g ∈ e1 ∨ g = W.heap.size := by rcases hat with h1 | h1; exact .inl (hm g h1); exact .inr h1
  have hee : ∀ k ∈ e1', k ∈ e1 ∨ k ∈ cs ∨ k = W.heap.size := fun k hk => by
    rcases he k hk with h1 | h1 | h1
    · exact .inl h1
    · exact .inr (.inl h1)
    · subst h1
      rcases hgg with h2 | h2
      · exact .inl h2
      · exact .inr (.inr h2)
  refine ⟨e1', ⟨hS, (ManyE.ok _ hR).kept h.r fun b hb => hg.block b (t2 b hb).2 (fun e => h.d12 b (hm b e.symm) hb), (ManyE.ok _ hI).kept h.i fun b hb => hg.block b (t3 b hb).2 (fun e => h.d13 b (hm b e.symm) hb), ?_, ?_, h.d23⟩, hee⟩
  · intro k hk h2
    rcases hee k hk with h3 | h3 | h3
    · exact h.d12 k h3 h2
    · exact hc2 k h2 h3
    · have := (t2 k h2).2; omega
  · intro k hk h2
    rcases hee k hk with h3 | h3 | h3
    · exact h.d13 k h3 h2
    · exact hc3 k h2 h3
    · have := (t3 k h2).2; omega
theorem TriM.belowP {B : Nat} {X : World} (h : TriM Z tp tr ti P R I W vp vr vi xs ys zs e1 e2 e3) (hP : EP.Ok Z P) (hB : Below B X W) (hBZ : B ≤ Z) (hBW : B ≤ W.heap.size) (hg : W.grownBy w5 vp.ownBlock) : Below B X w5 :=
  hB.grown hg hBW fun k hk => Nat.le_trans hBZ ((ManyE.ok _ hP).lt h.p k (h.p.held.choose_spec.2 k hk)).1
end
theorem sepL {e e' c1 c2 : List Nat} {N : Nat} (h : ∀ k ∈ e', k ∈ e ∨ k ∈ c1 ∨ k = N) (h1 : ∀ k ∈ e, k ∉ c2) (h2 : ∀ k ∈ c1, k ∉ c2) (h3 : ∀ k ∈ c2, k < N) : ∀ k ∈ e', k ∉ c2 := fun k hk hk2 => by
  rcases h k hk with h4 | h4 | h4
  · exact h1 k h4 hk2
  · exact h2 k h4 hk2
  · have := h3 k hk2; omega
theorem sepZ {e c : List Nat} {Y : Nat} (h1 : ∀ k ∈ e, k < Y) (h2 : ∀ k ∈ c, Y ≤ k) : ∀ k ∈ e, k ∉ c := fun k hk hk2 => by
  have := h1 k hk; have := h2 k hk2; omega
def on1 {α : Type} (xs : List α) (k : Nat) : List (List α) := ones (xs.take k)
def on2 {α : Type} (xs : List (List α)) (k : Nat) : List (List (List α)) := ones2 (xs.take k)
def on3 {α : Type} (xs : List (List (List α))) (k : Nat) : List (List (List (List α))) := ones3 (xs.take k)
theorem on1_succ {α : Type} {xs : List α} {k : Nat} {x : α} (h : xs[k]? = some x) : on1 xs (k + 1) = on1 xs k ++ [one1 x] := by unfold on1 ones; rw [List.take_add_one, h]; simp
theorem on2_succ {α : Type} {xs : List (List α)} {k : Nat} {x : List α} (h : xs[k]? = some x) : on2 xs (k + 1) = on2 xs k ++ [ones x] := by unfold on2 ones2; rw [List.take_add_one, h]; simp
theorem on3_succ {α : Type} {xs : List (List (List α))} {k : Nat} {x : List (List α)} (h : xs[k]? = some x) : on3 xs (k + 1) = on3 xs k ++ [ones2 x] := by unfold on3 ones3; rw [List.take_add_one, h]; simp
theorem on1_len {α : Type} {xs : List α} {k : Nat} (h : k ≤ xs.length) : (on1 xs k).length = k := by unfold on1; rw [ones_len, List.length_take]; omega
theorem on2_len {α : Type} {xs : List (List α)} {k : Nat} (h : k ≤ xs.length) : (on2 xs k).length = k := by unfold on2; rw [ones2_len, List.length_take]; omega
theorem on3_len {α : Type} {xs : List (List (List α))} {k : Nat} (h : k ≤ xs.length) : (on3 xs k).length = k := by unfold on3; rw [ones3_len, List.length_take]; omega
theorem on1_all {α : Type} {xs : List α} {k : Nat} (h : xs.length = k) : on1 xs k = ones xs := by unfold on1; rw [← h, List.take_length]
theorem on2_all {α : Type} {xs : List (List α)} {k : Nat} (h : xs.length = k) : on2 xs k = ones2 xs := by unfold on2; rw [← h, List.take_length]
theorem on3_all {α : Type} {xs : List (List (List α))} {k : Nat} (h : xs.length = k) : on3 xs k = ones3 xs := by unfold on3; rw [← h, List.take_length]
theorem on1_zero {α : Type} (xs : List α) : on1 xs 0 = [] := rfl
theorem on2_zero {α : Type} (xs : List (List α)) : on2 xs 0 = [] := rfl
theorem on3_zero {α : Type} (xs : List (List (List α))) : on3 xs 0 = [] := rfl
theorem many_empty {α : Type} {base g : Nat} {W : World} (t : TypeId) (E : EP α) (h : Bx W g t #[]) (hb : base ≤ g) : ManyE base t E W (.slice (some ⟨g, 0, none⟩) 0 0) [] [g] :=
  ⟨[], [], ⟨rfl, .inr ⟨g, 0, #[], rfl, hb, h, Nat.le_refl _, by unfold maxLen; omega, rfl, rfl⟩⟩, rfl, fun j x u cs h => by simp at h, by simp [Value.ownBlock], by simp⟩
theorem news2 (w : World) (o1 : Obj) (cs : Array Value) (t : TypeId) : ∀ j u, cs.toList[j]? = some u → ((w.alloc o1).alloc (.cells cs t)).cell? ((⟨w.heap.size + 1, 0, none⟩ : Addr).add j) = some u := by
  have h := Bx.new (w.alloc o1) t cs
  simp only [World.size_alloc] at h
  exact World.news_of_block h
abbrev TriK (Z : Nat) := @TriM (List (Int × Int)) (List (List Int)) (List Int) Z 94 38 22 (PushE Z) (Ints2E Z) (IntsE Z)
abbrev TriS (Z : Nat) := @TriM (List (List (Int × Int))) (List (List (List Int))) (List (List Int)) Z 44 26 38 (Push2E Z) (Ints3E Z) (Ints2E Z)
theorem TriK.new (Z : Nat) (X : World) (hZ : Z = X.heap.size) : TriK Z (((X.alloc (.cells #[] 94)).alloc (.cells #[] 38)).alloc (.cells #[] 22)) (.slice (some ⟨X.heap.size, 0, none⟩) 0 0) (.slice (some ⟨X.heap.size + 1, 0, none⟩) 0 0) (.slice (some ⟨X.heap.size + 1 + 1, 0, none⟩) 0 0) [] [] [] [X.heap.size] [X.heap.size + 1] [X.heap.size + 1 + 1] := by
  have x1 := ((Bx.new X 94 #[]).alloc (.cells #[] 38)).alloc (.cells #[] 22)
  have x2 := (Bx.new (X.alloc (.cells #[] 94)) 38 #[]).alloc (.cells #[] 22)
  have x3 := Bx.new ((X.alloc (.cells #[] 94)).alloc (.cells #[] 38)) 22 #[]
  simp only [World.size_alloc] at x2 x3
  exact ⟨many_empty _ _ x1 (by omega), many_empty _ _ x2 (by omega), many_empty _ _ x3 (by omega), by simp, by simp; omega, by simp⟩
/-- Choices in the box b: their three rows of moves lie in blocks of their own at or above X's size; of what X had, the box alone has turned. -/
structure ChAt (b : Nat) (S vS vA : Value) (X W : World) (vC vR vI : Value) (xs : List (List (List (Int × Int)))) (ys : List (List (List (List Int)))) (zs : List (List (List Int))) (e1 e2 e3 : List Nat) : Prop where
  box : Bx W b 33 #[S, vS, vA, vC, vR, vI]
  tri : TriS X.heap.size W vC vR vI xs ys zs e1 e2 e3
  tur : Turned [b] X W
  lt : b < X.heap.size
theorem ChAt.later {b : Nat} {S vS vA vC vR vI : Value} {X W W' : World} {xs : List (List (List (Int × Int)))} {ys : List (List (List (List Int)))} {zs : List (List (List Int))} {e1 e2 e3 : List Nat} (h : ChAt b S vS vA X W vC vR vI xs ys zs e1 e2 e3) (hb : Below W.heap.size W W') : ChAt b S vS vA X W' vC vR vI xs ys zs e1 e2 e3 :=
  ⟨h.box.later hb, h.tri.later (push2_ok _) (ints3_ok _) (ints2_ok _) hb, h.tur.trans (Turned.of_below hb), h.lt⟩
theorem turned_grown {b : Nat} {X W w5 : World} {row : Option Nat} (h : Turned [b] X W) (hg : W.grownBy w5 row) (hr : ∀ k, row = some k → X.heap.size ≤ k) : Turned [b] X w5 :=
  ⟨hg.os.trans h.os, hg.tape.trans h.tape, hg.output.trans h.output, Nat.le_trans h.size hg.size, fun k hk hn => (hg.block k (Nat.lt_of_lt_of_le hk h.size) (fun e => by have := hr k e.symm; omega)).trans (h.block k hk hn)⟩
theorem ChAt.call {b n g cap : Nat} {S vS vA vC vR vI u : Value} {X W w5 : World} {xs : List (List (List (Int × Int)))} {ys : List (List (List (List Int)))} {zs : List (List (List Int))} {e1 e2 e3 cs : List Nat} {x : List (List (Int × Int))} {vs : List Value} (h : ChAt b S vS vA X W vC vR vI xs ys zs e1 e2 e3) (hn : xs.length = n)
    (hu : Push2E X.heap.size W u x cs) (hc1 : ∀ k ∈ e1, k ∉ cs) (hc2 : ∀ k ∈ e2, k ∉ cs) (hc3 : ∀ k ∈ e3, k ∉ cs)
    (hrow : W.ownsRow X.heap.size 44 1 vC n vs) (hown : w5.ownsRow X.heap.size 44 1 (.slice (some ⟨g, 0, none⟩) (n + 1) cap) (n + 1) (vs ++ [u])) (hg : W.grownBy w5 vC.ownBlock) (hat : vC.ownBlock = some g ∨ g = W.heap.size) :
    ∃ e, ChAt b S vS vA X (w5.setCell ⟨b, 3, none⟩ (.slice (some ⟨g, 0, none⟩) (n + 1) cap)) (.slice (some ⟨g, 0, none⟩) (n + 1) cap) vR vI (xs ++ [x]) ys zs e e2 e3 ∧ (∀ k ∈ e, k ∈ e1 ∨ k ∈ cs ∨ k = W.heap.size) := by
  have hbz := h.lt
  have hlt := h.tri.lts (push2_ok _) (ints3_ok _) (ints2_ok _)
  have hm : ∀ k, vC.ownBlock = some k → X.heap.size ≤ k := fun k hk => (hlt.1 k (h.tri.p.held.choose_spec.2 k hk)).1
  obtain ⟨e, ht, he⟩ := h.tri.addP (push2_ok _) (ints3_ok _) (ints2_ok _) hn hu hc1 hc2 hc3 hrow hown hg hat
  have ht' := ht
  have hs5 : ∀ (v : Value) (k : Nat), X.heap.size ≤ k → (w5.setCell ⟨b, 3, none⟩ v).heap[k]? = w5.heap[k]? := fun v k hk => Below.heap_setCell w5 ⟨b, 3, none⟩ v k (fun e' => by have h2 : k = b := e'; omega)
  have x5 : Bx w5 b 33 #[S, vS, vA, vC, vR, vI] := h.box.same (hg.block b h.box.lt (fun e' => by have := hm b e'.symm; omega))
  refine ⟨e, ⟨x5.set 3 _, ht'.kept (push2_ok _) (ints3_ok _) (ints2_ok _) (fun k hk _ => hs5 _ k hk), (turned_grown h.tur hg hm).trans ?_, hbz⟩, he⟩
  exact turned_at (List.mem_singleton.2 rfl) _ _ _
theorem ChAt.ret {b n g cap : Nat} {S vS vA vC vR vI u : Value} {X W w5 : World} {xs : List (List (List (Int × Int)))} {ys : List (List (List (List Int)))} {zs : List (List (List Int))} {e1 e2 e3 cs : List Nat} {x : List (List (List Int))} {vs : List Value} (h : ChAt b S vS vA X W vC vR vI xs ys zs e1 e2 e3) (hn : ys.length = n)
    (hu : Ints3E X.heap.size W u x cs) (hc1 : ∀ k ∈ e1, k ∉ cs) (hc2 : ∀ k ∈ e2, k ∉ cs) (hc3 : ∀ k ∈ e3, k ∉ cs)
    (hrow : W.ownsRow X.heap.size 26 1 vR n vs) (hown : w5.ownsRow X.heap.size 26 1 (.slice (some ⟨g, 0, none⟩) (n + 1) cap) (n + 1) (vs ++ [u])) (hg : W.grownBy w5 vR.ownBlock) (hat : vR.ownBlock = some g ∨ g = W.heap.size) :
    ∃ e, ChAt b S vS vA X (w5.setCell ⟨b, 4, none⟩ (.slice (some ⟨g, 0, none⟩) (n + 1) cap)) vC (.slice (some ⟨g, 0, none⟩) (n + 1) cap) vI xs (ys ++ [x]) zs e1 e e3 ∧ (∀ k ∈ e, k ∈ e2 ∨ k ∈ cs ∨ k = W.heap.size) := by
  have hbz := h.lt
  have hlt := h.tri.lts (push2_ok _) (ints3_ok _) (ints2_ok _)
  have hm : ∀ k, vR.ownBlock = some k → X.heap.size ≤ k := fun k hk => (hlt.2.1 k (h.tri.r.held.choose_spec.2 k hk)).1
  obtain ⟨e, ht, he⟩ := h.tri.rot.addP (ints3_ok _) (ints2_ok _) (push2_ok _) hn hu hc2 hc3 hc1 hrow hown hg hat
  have ht' := ht.rot.rot
  have hs5 : ∀ (v : Value) (k : Nat), X.heap.size ≤ k → (w5.setCell ⟨b, 4, none⟩ v).heap[k]? = w5.heap[k]? := fun v k hk => Below.heap_setCell w5 ⟨b, 4, none⟩ v k (fun e' => by have h2 : k = b := e'; omega)
  have x5 : Bx w5 b 33 #[S, vS, vA, vC, vR, vI] := h.box.same (hg.block b h.box.lt (fun e' => by have := hm b e'.symm; omega))
  refine ⟨e, ⟨x5.set 4 _, ht'.kept (push2_ok _) (ints3_ok _) (ints2_ok _) (fun k hk _ => hs5 _ k hk), (turned_grown h.tur hg hm).trans ?_, hbz⟩, he⟩
  exact turned_at (List.mem_singleton.2 rfl) _ _ _
theorem ChAt.inner {b n g cap : Nat} {S vS vA vC vR vI u : Value} {X W w5 : World} {xs : List (List (List (Int × Int)))} {ys : List (List (List (List Int)))} {zs : List (List (List Int))} {e1 e2 e3 cs : List Nat} {x : List (List Int)} {vs : List Value} (h : ChAt b S vS vA X W vC vR vI xs ys zs e1 e2 e3) (hn : zs.length = n)
    (hu : Ints2E X.heap.size W u x cs) (hc1 : ∀ k ∈ e1, k ∉ cs) (hc2 : ∀ k ∈ e2, k ∉ cs) (hc3 : ∀ k ∈ e3, k ∉ cs)
    (hrow : W.ownsRow X.heap.size 38 1 vI n vs) (hown : w5.ownsRow X.heap.size 38 1 (.slice (some ⟨g, 0, none⟩) (n + 1) cap) (n + 1) (vs ++ [u])) (hg : W.grownBy w5 vI.ownBlock) (hat : vI.ownBlock = some g ∨ g = W.heap.size) :
    ∃ e, ChAt b S vS vA X (w5.setCell ⟨b, 5, none⟩ (.slice (some ⟨g, 0, none⟩) (n + 1) cap)) vC vR (.slice (some ⟨g, 0, none⟩) (n + 1) cap) xs ys (zs ++ [x]) e1 e2 e ∧ (∀ k ∈ e, k ∈ e3 ∨ k ∈ cs ∨ k = W.heap.size) := by
  have hbz := h.lt
  have hlt := h.tri.lts (push2_ok _) (ints3_ok _) (ints2_ok _)
  have hm : ∀ k, vI.ownBlock = some k → X.heap.size ≤ k := fun k hk => (hlt.2.2 k (h.tri.i.held.choose_spec.2 k hk)).1
  obtain ⟨e, ht, he⟩ := h.tri.rot.rot.addP (ints2_ok _) (push2_ok _) (ints3_ok _) hn hu hc3 hc1 hc2 hrow hown hg hat
  have ht' := ht.rot
  have hs5 : ∀ (v : Value) (k : Nat), X.heap.size ≤ k → (w5.setCell ⟨b, 5, none⟩ v).heap[k]? = w5.heap[k]? := fun v k hk => Below.heap_setCell w5 ⟨b, 5, none⟩ v k (fun e' => by have h2 : k = b := e'; omega)
  have x5 : Bx w5 b 33 #[S, vS, vA, vC, vR, vI] := h.box.same (hg.block b h.box.lt (fun e' => by have := hm b e'.symm; omega))
  refine ⟨e, ⟨x5.set 5 _, ht'.kept (push2_ok _) (ints3_ok _) (ints2_ok _) (fun k hk _ => hs5 _ k hk), (turned_grown h.tur hg hm).trans ?_, hbz⟩, he⟩
  exact turned_at (List.mem_singleton.2 rfl) _ _ _
end Go.Proofs.Yticmekdfdilcpaa
