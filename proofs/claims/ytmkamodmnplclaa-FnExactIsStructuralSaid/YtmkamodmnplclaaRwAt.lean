/- A rewriter's box, and what appends to its rows and writes into them leave. -/
import Derived.Test.YtmkamodmnplclaaGrow
import Derived.Test.YtmkamodmnplclaaRw
import Derived.Test.YtmkamodmnplclaaLitF
namespace Go.Proofs.Ytmkamodmnplclaa
open Go.RowKit
set_option linter.unusedVariables false

theorem flat_set_one {α : Type} {enc : α → List Value} {size : Nat} (hs : ∀ x, (enc x).length = size) : ∀ (xs : List α) (j : Nat) (x y : α) (i : Nat) (v : Value), xs[j]? = some x → i < size → enc y = (enc x).set i v → (xs.flatMap enc).set (j * size + i) v = (xs.set j y).flatMap enc := by
  intro xs
  induction xs with
  | nil => intro j x y i v h; simp at h
  | cons z xs ih =>
    intro j x y i v hx hi hy
    cases j with
    | zero =>
      simp at hx
      subst hx
      simp only [List.flatMap_cons, List.set_cons_zero, Nat.zero_mul, Nat.zero_add]
      rw [List.set_append_left _ _ (by rw [hs]; exact hi), hy]
    | succ j =>
      simp only [List.flatMap_cons, List.set_cons_succ]
      have e : (j + 1) * size + i = (enc z).length + (j * size + i) := by rw [hs, Nat.add_mul, Nat.one_mul]; omega
      rw [e, List.set_append_right _ _ (by omega), Nat.add_sub_cancel_left, ih j x y i v (by simpa using hx) hi hy]
/-- One cell of an element is written. -/
theorem RowE.putc {α : Type} {base : Nat} {e : TypeId} {size : Nat} {enc : α → List Value} (hs : ∀ x, (enc x).length = size) {w : World} {g n c : Nat} {xs : List α} {bs : List Nat} (h : RowE base e size enc w (.slice (some ⟨g, 0, none⟩) n c) xs bs)
    {j : Nat} {x : α} (y : α) (i : Nat) (v : Value) (hx : xs[j]? = some x) (hi : i < size) (hy : enc y = (enc x).set i v) :
    RowE base e size enc (w.setCell ⟨g, j * size + i, none⟩ v) (.slice (some ⟨g, 0, none⟩) n c) (xs.set j y) bs ∧ Turned bs w (w.setCell ⟨g, j * size + i, none⟩ v) := by
  obtain rfl := h.len_
  obtain ⟨hr, rfl⟩ := h
  have h1 := hr.stored (j * size + i) v
  rw [flat_set_one hs xs j x y i v hx hi hy] at h1
  exact ⟨⟨by rw [List.length_set]; exact h1.1, rfl⟩, Turned.of_grown h1.2 (fun r hr => by cases hr; simp [Value.ownBlock])⟩

/-- The box b holds a rewriter that reads as c. -/
structure RwAt (base : Nat) (w : World) (b : Nat) (c : Rw) (b1 b2 b3 : List Nat) : Prop where
  ex : ∃ v0 v1 v2, Bx w b 36 #[.int .i64 c.stack, .int .i64 c.start, v0, v1, v2] ∧ Op2E base w v0 c.call b1 ∧ Om3E base w v1 c.ret b2 ∧ Om2E base w v2 c.inner b3
  d12 : ∀ k ∈ b1, k ∉ b2
  d13 : ∀ k ∈ b1, k ∉ b3
  d23 : ∀ k ∈ b2, k ∉ b3
  n1 : b ∉ b1
  n2 : b ∉ b2
  n3 : b ∉ b3
  hb : base ≤ b
theorem RwAt.kept {base b : Nat} {w w' : World} {c : Rw} {b1 b2 b3 : List Nat} (h : RwAt base w b c b1 b2 b3) (hb : w'.heap[b]? = w.heap[b]?) (h1 : ∀ k ∈ b1, w'.heap[k]? = w.heap[k]?) (h2 : ∀ k ∈ b2, w'.heap[k]? = w.heap[k]?) (h3 : ∀ k ∈ b3, w'.heap[k]? = w.heap[k]?) : RwAt base w' b c b1 b2 b3 := by
  obtain ⟨v0, v1, v2, xb, f0, f1, f2⟩ := h.ex
  exact ⟨⟨v0, v1, v2, xb.same hb, (op2_ok _).kept f0 h1, (om3_ok _).kept f1 h2, (om2_ok _).kept f2 h3⟩, h.d12, h.d13, h.d23, h.n1, h.n2, h.n3, h.hb⟩
theorem RwAt.lt {base b : Nat} {w : World} {c : Rw} {b1 b2 b3 : List Nat} (h : RwAt base w b c b1 b2 b3) : b < w.heap.size ∧ (∀ k ∈ b1, base ≤ k ∧ k < w.heap.size) ∧ (∀ k ∈ b2, base ≤ k ∧ k < w.heap.size) ∧ (∀ k ∈ b3, base ≤ k ∧ k < w.heap.size) := by
  obtain ⟨v0, v1, v2, xb, f0, f1, f2⟩ := h.ex
  exact ⟨xb.lt, fun k hk => (op2_ok _).lt f0 k hk, fun k hk => (om3_ok _).lt f1 k hk, fun k hk => (om2_ok _).lt f2 k hk⟩
theorem RwAt.later {base b : Nat} {w w' : World} {c : Rw} {b1 b2 b3 : List Nat} (h : RwAt base w b c b1 b2 b3) (hb : Below w.heap.size w w') : RwAt base w' b c b1 b2 b3 :=
  h.kept (hb.block b h.lt.1) (fun k hk => hb.block k (h.lt.2.1 k hk).2) (fun k hk => hb.block k (h.lt.2.2.1 k hk).2) (fun k hk => hb.block k (h.lt.2.2.2 k hk).2)
/-- Read out of its box. -/
theorem RwAt.value {base b : Nat} {w : World} {c : Rw} {b1 b2 b3 : List Nat} (h : RwAt base w b c b1 b2 b3) : ∃ A0 n0 k0 A1 n1 k1 A2 n2 k2, Bx w b 36 #[.int .i64 c.stack, .int .i64 c.start, .slice A0 n0 k0, .slice A1 n1 k1, .slice A2 n2 k2] ∧
    RwE base w (.agg #[.int .i64 c.stack, .int .i64 c.start, .slice A0 n0 k0, .slice A1 n1 k1, .slice A2 n2 k2]) c (b1 ++ (b2 ++ b3)) := by
  obtain ⟨v0, v1, v2, xb, f0, f1, f2⟩ := h.ex
  obtain ⟨A0, k0, rfl⟩ := ManyE.slice f0
  obtain ⟨A1, k1, rfl⟩ := ManyE.slice f1
  obtain ⟨A2, k2, rfl⟩ := ManyE.slice f2
  refine ⟨A0, _, k0, A1, _, k1, A2, _, k2, xb, _, _, _, b1, b2, b3, rfl, f0, f1, f2, rfl, ?_⟩
  refine List.nodup_append.2 ⟨(op2_ok _).nodup f0, List.nodup_append.2 ⟨(om3_ok _).nodup f1, (om2_ok _).nodup f2, fun x hx y hy e => h.d23 x hx (e ▸ hy)⟩, fun x hx y hy e => ?_⟩
  subst e
  rcases List.mem_append.1 hy with hy | hy
  · exact h.d12 x hx hy
  · exact h.d13 x hx hy

theorem RwAt.grow_call {base b g n : Nat} {X W w5 : World} {c : Rw} {b1 b2 b3 β : List Nat} {v' r v0 : Value} {x : List (Int × Int × ByteArray)} {vs : List Value} (h : RwAt base X b c b1 b2 b3)
    (hc : X.cell? ⟨b, 2, none⟩ = some v0) (hbase : base ≤ X.heap.size) (hW : Below X.heap.size X W) (hr : OpE X.heap.size W r x β) (hn : c.call.length = n)
    (hrow : W.ownsRow base 76 1 v0 n vs) (hown : w5.ownsRow base 76 1 v' (n + 1) (vs ++ [r])) (hg : W.grownBy w5 v0.ownBlock) (hv : v'.ownBlock = some g) (hat : v0.ownBlock = some g ∨ g = W.heap.size) :
    ∃ e, RwAt base (w5.setCell ⟨b, 2, none⟩ v') b { c with call := c.call ++ [x] } e b2 b3 ∧ Below base X (w5.setCell ⟨b, 2, none⟩ v') ∧ (∀ k, k < X.heap.size → k ≠ b → k ∉ b1 → (w5.setCell ⟨b, 2, none⟩ v').heap[k]? = X.heap[k]?) := by
  obtain ⟨v9, v1, v2, xb, f0, f1, f2⟩ := h.ex
  have e9 : v9 = v0 := by have h9 := xb.cell 2 _ rfl; rw [hc] at h9; exact (Option.some.inj h9).symm
  subst e9
  have hlt := h.lt
  have hsz := hW.size
  have tr := fun k hk => (op_ok _).lt hr k hk
  have hr2 : OpE base W r x β := ops_base hbase _ _ _ _ hr
  have hbl : ∀ k, v9.ownBlock = some k → k ∈ b1 := (ManyE.held f0).choose_spec.2
  obtain ⟨e, hS, he⟩ := many_grow (op_ok _) ((op2_ok _).later f0 hW) hn hrow hr2 (fun k h1 h2 => by have := (hlt.2.1 k h1).2; have := (tr k h2).1; omega) hown hg hv hat
  have hold : ∀ k, k < X.heap.size → k ∉ b1 → w5.heap[k]? = X.heap[k]? := fun k hk hn => (hg.block k (by omega) (fun e => hn (hbl k e.symm))).trans (hW.block k hk)
  have hset : ∀ k, k ≠ b → (w5.setCell ⟨b, 2, none⟩ v').heap[k]? = w5.heap[k]? := fun k hk => Below.heap_setCell w5 ⟨b, 2, none⟩ v' k hk
  have x5 : Bx w5 b 36 #[.int .i64 c.stack, .int .i64 c.start, v9, v1, v2] := xb.same (hold b hlt.1 h.n1)
  have x6 := x5.set 2 v'
  have hee : ∀ k ∈ e, k ∈ b1 ∨ X.heap.size ≤ k := fun k hk => by
    rcases he k hk with h | h | h
    · exact .inl h
    · exact .inr (tr k h).1
    · subst h
      rcases hat with h | h
      · exact .inl (hbl _ h)
      · exact .inr (by omega)
  have heb : b ∉ e := fun h1 => by rcases hee b h1 with h2 | h2; exact h.n1 h2; have := hlt.1; omega
  refine ⟨e, ⟨⟨v', v1, v2, x6, (op2_ok _).kept hS fun k hk => hset k (fun e' => heb (e' ▸ hk)), (om3_ok _).kept f1 fun k hk => (hset k (fun e' => h.n2 (e' ▸ hk))).trans (hold k (hlt.2.2.1 k hk).2 (fun h2 => h.d12 k h2 hk)), (om2_ok _).kept f2 fun k hk => (hset k (fun e' => h.n3 (e' ▸ hk))).trans (hold k (hlt.2.2.2 k hk).2 (fun h2 => h.d13 k h2 hk))⟩, fun k h1 h2 => by rcases hee k h1 with h3 | h3; exact h.d12 k h3 h2; have := (hlt.2.2.1 k h2).2; omega, fun k h1 h2 => by rcases hee k h1 with h3 | h3; exact h.d13 k h3 h2; have := (hlt.2.2.2 k h2).2; omega, h.d23, heb, h.n2, h.n3, h.hb⟩, ?_, fun k hk hkb hkn => (hset k hkb).trans (hold k hk hkn)⟩
  refine (((hW.mono hbase).trans (⟨hg.os, hg.tape, hg.output, hg.size, fun k hk => hg.block k (by omega) (fun e' => ?_)⟩ : Below base W w5))).setCell h.hb _
  have := (hlt.2.1 k (hbl k e'.symm)).1
  omega

theorem RwAt.grow_ret {base b g n : Nat} {X W w5 : World} {c : Rw} {b1 b2 b3 β : List Nat} {v' r v1 : Value} {x : List (List (Int × ByteArray))} {vs : List Value} (h : RwAt base X b c b1 b2 b3)
    (hc : X.cell? ⟨b, 3, none⟩ = some v1) (hbase : base ≤ X.heap.size) (hW : Below X.heap.size X W) (hr : Om2E X.heap.size W r x β) (hn : c.ret.length = n)
    (hrow : W.ownsRow base 34 1 v1 n vs) (hown : w5.ownsRow base 34 1 v' (n + 1) (vs ++ [r])) (hg : W.grownBy w5 v1.ownBlock) (hv : v'.ownBlock = some g) (hat : v1.ownBlock = some g ∨ g = W.heap.size) :
    ∃ e, RwAt base (w5.setCell ⟨b, 3, none⟩ v') b { c with ret := c.ret ++ [x] } b1 e b3 ∧ Below base X (w5.setCell ⟨b, 3, none⟩ v') ∧ (∀ k, k < X.heap.size → k ≠ b → k ∉ b2 → (w5.setCell ⟨b, 3, none⟩ v').heap[k]? = X.heap[k]?) := by
  obtain ⟨v0, v9, v2, xb, f0, f1, f2⟩ := h.ex
  have e9 : v9 = v1 := by have h9 := xb.cell 3 _ rfl; rw [hc] at h9; exact (Option.some.inj h9).symm
  subst e9
  have hlt := h.lt
  have hsz := hW.size
  have tr := fun k hk => (om2_ok _).lt hr k hk
  have hr2 : Om2E base W r x β := oms2_base hbase _ _ _ _ hr
  have hbl : ∀ k, v9.ownBlock = some k → k ∈ b2 := (ManyE.held f1).choose_spec.2
  obtain ⟨e, hS, he⟩ := many_grow (om2_ok _) ((om3_ok _).later f1 hW) hn hrow hr2 (fun k h1 h2 => by have := (hlt.2.2.1 k h1).2; have := (tr k h2).1; omega) hown hg hv hat
  have hold : ∀ k, k < X.heap.size → k ∉ b2 → w5.heap[k]? = X.heap[k]? := fun k hk hn => (hg.block k (by omega) (fun e => hn (hbl k e.symm))).trans (hW.block k hk)
  have hset : ∀ k, k ≠ b → (w5.setCell ⟨b, 3, none⟩ v').heap[k]? = w5.heap[k]? := fun k hk => Below.heap_setCell w5 ⟨b, 3, none⟩ v' k hk
  have x5 : Bx w5 b 36 #[.int .i64 c.stack, .int .i64 c.start, v0, v9, v2] := xb.same (hold b hlt.1 h.n2)
  have x6 := x5.set 3 v'
  have hee : ∀ k ∈ e, k ∈ b2 ∨ X.heap.size ≤ k := fun k hk => by
    rcases he k hk with h | h | h
    · exact .inl h
    · exact .inr (tr k h).1
    · subst h
      rcases hat with h | h
      · exact .inl (hbl _ h)
      · exact .inr (by omega)
  have heb : b ∉ e := fun h1 => by rcases hee b h1 with h2 | h2; exact h.n2 h2; have := hlt.1; omega
  refine ⟨e, ⟨⟨v0, v', v2, x6, (op2_ok _).kept f0 fun k hk => (hset k (fun e' => h.n1 (e' ▸ hk))).trans (hold k (hlt.2.1 k hk).2 (fun h2 => h.d12 k hk h2)), (om3_ok _).kept hS fun k hk => hset k (fun e' => heb (e' ▸ hk)), (om2_ok _).kept f2 fun k hk => (hset k (fun e' => h.n3 (e' ▸ hk))).trans (hold k (hlt.2.2.2 k hk).2 (fun h2 => h.d23 k h2 hk))⟩, fun k h1 h2 => by rcases hee k h2 with h3 | h3; exact h.d12 k h1 h3; have := (hlt.2.1 k h1).2; omega, h.d13, fun k h1 h2 => by rcases hee k h1 with h3 | h3; exact h.d23 k h3 h2; have := (hlt.2.2.2 k h2).2; omega, h.n1, heb, h.n3, h.hb⟩, ?_, fun k hk hkb hkn => (hset k hkb).trans (hold k hk hkn)⟩
  refine (((hW.mono hbase).trans (⟨hg.os, hg.tape, hg.output, hg.size, fun k hk => hg.block k (by omega) (fun e' => ?_)⟩ : Below base W w5))).setCell h.hb _
  have := (hlt.2.2.1 k (hbl k e'.symm)).1
  omega

theorem RwAt.grow_inner {base b g n : Nat} {X W w5 : World} {c : Rw} {b1 b2 b3 β : List Nat} {v' r v2 : Value} {x : List (Int × ByteArray)} {vs : List Value} (h : RwAt base X b c b1 b2 b3)
    (hc : X.cell? ⟨b, 4, none⟩ = some v2) (hbase : base ≤ X.heap.size) (hW : Below X.heap.size X W) (hr : OmE X.heap.size W r x β) (hn : c.inner.length = n)
    (hrow : W.ownsRow base 79 1 v2 n vs) (hown : w5.ownsRow base 79 1 v' (n + 1) (vs ++ [r])) (hg : W.grownBy w5 v2.ownBlock) (hv : v'.ownBlock = some g) (hat : v2.ownBlock = some g ∨ g = W.heap.size) :
    ∃ e, RwAt base (w5.setCell ⟨b, 4, none⟩ v') b { c with inner := c.inner ++ [x] } b1 b2 e ∧ Below base X (w5.setCell ⟨b, 4, none⟩ v') ∧ (∀ k, k < X.heap.size → k ≠ b → k ∉ b3 → (w5.setCell ⟨b, 4, none⟩ v').heap[k]? = X.heap[k]?) := by
  obtain ⟨v0, v1, v9, xb, f0, f1, f2⟩ := h.ex
  have e9 : v9 = v2 := by have h9 := xb.cell 4 _ rfl; rw [hc] at h9; exact (Option.some.inj h9).symm
  subst e9
  have hlt := h.lt
  have hsz := hW.size
  have tr := fun k hk => (om_ok _).lt hr k hk
  have hr2 : OmE base W r x β := oms_base hbase _ _ _ _ hr
  have hbl : ∀ k, v9.ownBlock = some k → k ∈ b3 := (ManyE.held f2).choose_spec.2
  obtain ⟨e, hS, he⟩ := many_grow (om_ok _) ((om2_ok _).later f2 hW) hn hrow hr2 (fun k h1 h2 => by have := (hlt.2.2.2 k h1).2; have := (tr k h2).1; omega) hown hg hv hat
  have hold : ∀ k, k < X.heap.size → k ∉ b3 → w5.heap[k]? = X.heap[k]? := fun k hk hn => (hg.block k (by omega) (fun e => hn (hbl k e.symm))).trans (hW.block k hk)
  have hset : ∀ k, k ≠ b → (w5.setCell ⟨b, 4, none⟩ v').heap[k]? = w5.heap[k]? := fun k hk => Below.heap_setCell w5 ⟨b, 4, none⟩ v' k hk
  have x5 : Bx w5 b 36 #[.int .i64 c.stack, .int .i64 c.start, v0, v1, v9] := xb.same (hold b hlt.1 h.n3)
  have x6 := x5.set 4 v'
  have hee : ∀ k ∈ e, k ∈ b3 ∨ X.heap.size ≤ k := fun k hk => by
    rcases he k hk with h | h | h
    · exact .inl h
    · exact .inr (tr k h).1
    · subst h
      rcases hat with h | h
      · exact .inl (hbl _ h)
      · exact .inr (by omega)
  have heb : b ∉ e := fun h1 => by rcases hee b h1 with h2 | h2; exact h.n3 h2; have := hlt.1; omega
  refine ⟨e, ⟨⟨v0, v1, v', x6, (op2_ok _).kept f0 fun k hk => (hset k (fun e' => h.n1 (e' ▸ hk))).trans (hold k (hlt.2.1 k hk).2 (fun h2 => h.d13 k hk h2)), (om3_ok _).kept f1 fun k hk => (hset k (fun e' => h.n2 (e' ▸ hk))).trans (hold k (hlt.2.2.1 k hk).2 (fun h2 => h.d23 k hk h2)), (om2_ok _).kept hS fun k hk => hset k (fun e' => heb (e' ▸ hk))⟩, h.d12, fun k h1 h2 => by rcases hee k h2 with h3 | h3; exact h.d13 k h1 h3; have := (hlt.2.1 k h1).2; omega, fun k h1 h2 => by rcases hee k h2 with h3 | h3; exact h.d23 k h1 h3; have := (hlt.2.2.1 k h1).2; omega, h.n1, h.n2, heb, h.hb⟩, ?_, fun k hk hkb hkn => (hset k hkb).trans (hold k hk hkn)⟩
  refine (((hW.mono hbase).trans (⟨hg.os, hg.tape, hg.output, hg.size, fun k hk => hg.block k (by omega) (fun e' => ?_)⟩ : Below base W w5))).setCell h.hb _
  have := (hlt.2.2.2 k (hbl k e'.symm)).1
  omega

/-- A write into the rows of call. -/
theorem RwAt.put_call {base b : Nat} {X X' : World} {c : Rw} {b1 b2 b3 : List Nat} (h : RwAt base X b c b1 b2 b3) {v0 : Value} {y : List (List (Int × Int × ByteArray))} (hc : X.cell? ⟨b, 2, none⟩ = some v0) (hT : Turned b1 X X') (hy : Op2E base X' v0 y b1) :
    RwAt base X' b { c with call := y } b1 b2 b3 := by
  obtain ⟨v9, v1, v2, xb, f0, f1, f2⟩ := h.ex
  have e9 : v9 = v0 := by have h9 := xb.cell 2 _ rfl; rw [hc] at h9; exact (Option.some.inj h9).symm
  subst e9
  have hlt := h.lt
  exact ⟨⟨v9, v1, v2, xb.same (hT.block b hlt.1 h.n1), hy, (om3_ok _).kept f1 fun k hk => hT.block k (hlt.2.2.1 k hk).2 (fun h2 => h.d12 k h2 hk), (om2_ok _).kept f2 fun k hk => hT.block k (hlt.2.2.2 k hk).2 (fun h2 => h.d13 k h2 hk)⟩, h.d12, h.d13, h.d23, h.n1, h.n2, h.n3, h.hb⟩
/-- A write into the rows of ret. -/
theorem RwAt.put_ret {base b : Nat} {X X' : World} {c : Rw} {b1 b2 b3 : List Nat} (h : RwAt base X b c b1 b2 b3) {v1 : Value} {y : List (List (List (Int × ByteArray)))} (hc : X.cell? ⟨b, 3, none⟩ = some v1) (hT : Turned b2 X X') (hy : Om3E base X' v1 y b2) :
    RwAt base X' b { c with ret := y } b1 b2 b3 := by
  obtain ⟨v0, v9, v2, xb, f0, f1, f2⟩ := h.ex
  have e9 : v9 = v1 := by have h9 := xb.cell 3 _ rfl; rw [hc] at h9; exact (Option.some.inj h9).symm
  subst e9
  have hlt := h.lt
  exact ⟨⟨v0, v9, v2, xb.same (hT.block b hlt.1 h.n2), (op2_ok _).kept f0 fun k hk => hT.block k (hlt.2.1 k hk).2 (fun h2 => h.d12 k hk h2), hy, (om2_ok _).kept f2 fun k hk => hT.block k (hlt.2.2.2 k hk).2 (fun h2 => h.d23 k h2 hk)⟩, h.d12, h.d13, h.d23, h.n1, h.n2, h.n3, h.hb⟩
/-- A write into the rows of inner. -/
theorem RwAt.put_inner {base b : Nat} {X X' : World} {c : Rw} {b1 b2 b3 : List Nat} (h : RwAt base X b c b1 b2 b3) {v2 : Value} {y : List (List (Int × ByteArray))} (hc : X.cell? ⟨b, 4, none⟩ = some v2) (hT : Turned b3 X X') (hy : Om2E base X' v2 y b3) :
    RwAt base X' b { c with inner := y } b1 b2 b3 := by
  obtain ⟨v0, v1, v9, xb, f0, f1, f2⟩ := h.ex
  have e9 : v9 = v2 := by have h9 := xb.cell 4 _ rfl; rw [hc] at h9; exact (Option.some.inj h9).symm
  subst e9
  have hlt := h.lt
  exact ⟨⟨v0, v1, v9, xb.same (hT.block b hlt.1 h.n3), (op2_ok _).kept f0 fun k hk => hT.block k (hlt.2.1 k hk).2 (fun h2 => h.d13 k hk h2), (om3_ok _).kept f1 fun k hk => hT.block k (hlt.2.2.1 k hk).2 (fun h2 => h.d23 k hk h2), hy⟩, h.d12, h.d13, h.d23, h.n1, h.n2, h.n3, h.hb⟩
theorem RwAt.boxed_call {base b : Nat} {X W w5 : World} {c : Rw} {b1 b2 b3 : List Nat} {cs : Array Value} {v : Value} (h : RwAt base X b c b1 b2 b3) (xb : Bx X b 36 cs) (hc : X.cell? ⟨b, 2, none⟩ = some v) (hW : Below X.heap.size X W) (hg : W.grownBy w5 v.ownBlock) : Bx w5 b 36 cs := by
  obtain ⟨v9, v1, v2, xb9, f0, f1, f2⟩ := h.ex
  have e9 : v9 = v := by have h9 := xb9.cell 2 _ rfl; rw [hc] at h9; exact (Option.some.inj h9).symm
  subst e9
  have hlt := h.lt.1
  have hsz := hW.size
  exact xb.same ((hg.block b (by omega) (fun e => h.n1 ((ManyE.held f0).choose_spec.2 b e.symm))).trans (hW.block b hlt))
theorem RwAt.boxed_ret {base b : Nat} {X W w5 : World} {c : Rw} {b1 b2 b3 : List Nat} {cs : Array Value} {v : Value} (h : RwAt base X b c b1 b2 b3) (xb : Bx X b 36 cs) (hc : X.cell? ⟨b, 3, none⟩ = some v) (hW : Below X.heap.size X W) (hg : W.grownBy w5 v.ownBlock) : Bx w5 b 36 cs := by
  obtain ⟨v0, v9, v2, xb9, f0, f1, f2⟩ := h.ex
  have e9 : v9 = v := by have h9 := xb9.cell 3 _ rfl; rw [hc] at h9; exact (Option.some.inj h9).symm
  subst e9
  have hlt := h.lt.1
  have hsz := hW.size
  exact xb.same ((hg.block b (by omega) (fun e => h.n2 ((ManyE.held f1).choose_spec.2 b e.symm))).trans (hW.block b hlt))
theorem RwAt.boxed_inner {base b : Nat} {X W w5 : World} {c : Rw} {b1 b2 b3 : List Nat} {cs : Array Value} {v : Value} (h : RwAt base X b c b1 b2 b3) (xb : Bx X b 36 cs) (hc : X.cell? ⟨b, 4, none⟩ = some v) (hW : Below X.heap.size X W) (hg : W.grownBy w5 v.ownBlock) : Bx w5 b 36 cs := by
  obtain ⟨v0, v1, v9, xb9, f0, f1, f2⟩ := h.ex
  have e9 : v9 = v := by have h9 := xb9.cell 4 _ rfl; rw [hc] at h9; exact (Option.some.inj h9).symm
  subst e9
  have hlt := h.lt.1
  have hsz := hW.size
  exact xb.same ((hg.block b (by omega) (fun e => h.n3 ((ManyE.held f2).choose_spec.2 b e.symm))).trans (hW.block b hlt))
end Go.Proofs.Ytmkamodmnplclaa
