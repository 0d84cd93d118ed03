/- Copies, of the model: what an append to an empty slice takes; the first statement of l02Copy. -/
import Derived.Test.YticmekdfdilcpaaFree
import Derived.Test.YticmekdfdilcpaaRows3
import Derived.Test.YticmekdfdilcpaaChk
import Derived.Test.YticmekdfdilcpaaGrow
import Derived.Deep.RegionLawGrows
import Derived.Deep.DeepCutAuto
namespace Go.Proofs.Yticmekdfdilcpaa
open Go.RowKit
set_option linter.unusedVariables false

/-- An empty slice with a block of its own. -/
def EmptyE (base : Nat) (T : TypeId) : EP Unit := fun w v _ bs => ∃ b, v = .slice (some ⟨b, 0, none⟩) 0 0 ∧ Bx w b T #[] ∧ bs = [b] ∧ base ≤ b
theorem empty_ok (base : Nat) (T : TypeId) : EP.Ok base (EmptyE base T) where
  kept := by rintro w w' v x bs ⟨b, rfl, hb, rfl, hl⟩ hs; exact ⟨b, rfl, hb.same (hs b (by simp)), rfl, hl⟩
  lt := by rintro w v x bs ⟨b, rfl, hb, rfl, hl⟩ k hk; rw [List.mem_singleton.1 hk]; exact ⟨hl, hb.lt⟩
  nodup := by rintro w v x bs ⟨b, rfl, hb, rfl, hl⟩; simp
/-- A pointer to a block of its own. -/
def PtrE (base : Nat) (T : TypeId) (cs : Array Value) : EP Unit := fun w v _ bs => ∃ b, v = .pointer (some ⟨b, 0, none⟩) ∧ Bx w b T cs ∧ bs = [b] ∧ base ≤ b
theorem ptr_ok (base : Nat) (T : TypeId) (cs : Array Value) : EP.Ok base (PtrE base T cs) where
  kept := by rintro w w' v x bs ⟨b, rfl, hb, rfl, hl⟩ hs; exact ⟨b, rfl, hb.same (hs b (by simp)), rfl, hl⟩
  lt := by rintro w v x bs ⟨b, rfl, hb, rfl, hl⟩ k hk; rw [List.mem_singleton.1 hk]; exact ⟨hl, hb.lt⟩
  nodup := by rintro w v x bs ⟨b, rfl, hb, rfl, hl⟩; simp

/-- A row's cells, one behind the other: what an append takes. -/
theorem RowE.news {α : Type} {base : Nat} {e : TypeId} {size : Nat} {enc : α → List Value} {w : World} {g n c : Nat} {xs : List α} {bs : List Nat} (h : RowE base e size enc w (.slice (some ⟨g, 0, none⟩) n c) xs bs) :
    ∀ j u, (xs.flatMap enc)[j]? = some u → w.cell? ((⟨g, 0, none⟩ : Addr).add j) = some u := by
  intro j u hu
  have hr := h.1
  have hj := (List.getElem?_eq_some_iff.1 hu).1
  have hl := hr.1
  rcases hr.2 with ⟨h0, _⟩ | ⟨g', cap, cur, hv, _⟩
  · cases h0
  simp only [Value.slice.injEq, Option.some.injEq, Addr.mk.injEq, and_true] at hv
  obtain ⟨rfl, rfl, rfl⟩ := hv
  have := hr.cellAt j (by rw [← hl]; exact hj)
  rw [hu] at this
  have e : (⟨g, 0, none⟩ : Addr).add j = ⟨g, j, none⟩ := by
    by_cases h0 : j = 0
    · subst h0; simp [Addr.add]
    · simp [Addr.add, h0]
  rw [e]
  exact this

/-- What l02Copy has laid: the result's box, and the lists that its fields read as. -/
structure CopyAt (w0 wr : World) (b : Nat) (c d : Ck) : Prop where
  ex : ∃ va vc vr vi b1 b2 b3 b4, Bx wr b 46 #[.int .i64 c.stack, .int .i64 c.start, va, vc, vr, vi] ∧ BoolsE w0.heap.size wr va d.accept b1 ∧ Push2E w0.heap.size wr vc d.call b2 ∧ Ints3E w0.heap.size wr vr d.ret b3 ∧
    Ints2E w0.heap.size wr vi d.inner b4 ∧ (b1 ++ (b2 ++ (b3 ++ b4))).Nodup ∧ b ∉ b1 ++ (b2 ++ (b3 ++ b4)) ∧ w0.heap.size ≤ b ∧ Below w0.heap.size w0 wr

def Copy1Post (w0 : World) (c : Ck) (fr : Act) (s : Value) (wr : World) : Prop := ∃ b, s = .pointer (some ⟨b, 0, none⟩) ∧ CopyAt w0 wr b c { stack := c.stack, start := c.start, accept := c.accept, call := [], ret := [], inner := [] }

theorem CopyAt.call {w wr W w5 : World} {b g n : Nat} {c d : Ck} {va vc vr vi v' r : Value} {d1 d2 d3 d4 β : List Nat} {x : List (Int × Int)} {vs : List Value}
    (xb : Bx wr b 46 #[.int .i64 c.stack, .int .i64 c.start, va, vc, vr, vi]) (f1 : BoolsE w.heap.size wr va d.accept d1) (f2 : Push2E w.heap.size wr vc d.call d2) (f3 : Ints3E w.heap.size wr vr d.ret d3) (f4 : Ints2E w.heap.size wr vi d.inner d4)
    (hnd : (d1 ++ (d2 ++ (d3 ++ d4))).Nodup) (hnb : b ∉ d1 ++ (d2 ++ (d3 ++ d4))) (hwb : w.heap.size ≤ b) (hBw : Below w.heap.size w wr) (hW : Below wr.heap.size wr W) (hr : PushE wr.heap.size W r x β) (hn : d.call.length = n)
    (hrow : W.ownsRow w.heap.size 94 1 vc n vs) (hown : w5.ownsRow w.heap.size 94 1 v' (n + 1) (vs ++ [r])) (hg : W.grownBy w5 vc.ownBlock) (hv : v'.ownBlock = some g) (hat : vc.ownBlock = some g ∨ g = W.heap.size) :
    CopyAt w (w5.setCell ⟨b, 3, none⟩ v') b c { d with call := d.call ++ [x] } := by
  have hbw := xb.lt
  have hbl : ∀ k, vc.ownBlock = some k → k ∈ d2 := (ManyE.held f2).choose_spec.2
  have t1 := fun k hk => (bools_ok _).lt f1 k hk
  have t2 := fun k hk => (push2_ok _).lt f2 k hk
  have t3 := fun k hk => (ints3_ok _).lt f3 k hk
  have t4 := fun k hk => (ints2_ok _).lt f4 k hk
  have tr := fun k hk => (push_ok _).lt hr k hk
  simp only [List.mem_append, not_or] at hnb
  obtain ⟨n1, n2, n3, n4⟩ := hnb
  have hsz := hW.size
  have hr2 : PushE w.heap.size W r x β := pushes_base hBw.size _ _ _ _ hr
  obtain ⟨e, hS, he⟩ := many_grow (push_ok _) ((push2_ok _).later f2 hW) hn hrow hr2 (fun k h1 h2 => by have := (t2 k h1).2; have := (tr k h2).1; omega) hown hg hv (by rcases hat with h | h; exact .inl h; exact .inr h)
  have hold : ∀ k, k < wr.heap.size → k ∉ d2 → w5.heap[k]? = wr.heap[k]? := fun k hk hn => (hg.block k (by omega) (fun e => hn (hbl k e.symm))).trans (hW.block k hk)
  have hset : ∀ k, k ≠ b → (w5.setCell ⟨b, 3, none⟩ v').heap[k]? = w5.heap[k]? := fun k hk => Below.heap_setCell w5 ⟨b, 3, none⟩ v' k hk
  have x5 : Bx w5 b 46 #[.int .i64 c.stack, .int .i64 c.start, va, vc, vr, vi] := xb.same (hold b hbw n2)
  have x6 := x5.set 3 v'
  have hn2 := List.nodup_append.1 hnd
  have hn3 := List.nodup_append.1 hn2.2.1
  have hn4 := List.nodup_append.1 hn3.2.1
  have hgn : g ∈ d2 ∨ g = W.heap.size := by rcases hat with h | h; exact .inl (hbl g h); exact .inr h
  have hee : ∀ k ∈ e, k ∈ d2 ∨ wr.heap.size ≤ k := fun k hk => by
    rcases he k hk with h | h | h
    · exact .inl h
    · exact .inr (tr k h).1
    · subst h
      rcases hgn with h | h
      · exact .inl h
      · exact .inr (by omega)
  have heb : b ∉ e := fun h => by rcases hee b h with h | h; exact n2 h; omega
  refine ⟨va, v', vr, vi, d1, e, d3, d4, x6, (bools_ok _).kept f1 fun k hk => (hset k (fun e' => n1 (e' ▸ hk))).trans (hold k (t1 k hk).2 (fun h => hn2.2.2 k hk k (List.mem_append_left _ h) rfl)), (push2_ok _).kept hS fun k hk => hset k (fun e' => heb (e' ▸ hk)), (ints3_ok _).kept f3 fun k hk => (hset k (fun e' => n3 (e' ▸ hk))).trans (hold k (t3 k hk).2 (fun h => hn3.2.2 k h k (List.mem_append_left _ hk) rfl)), (ints2_ok _).kept f4 fun k hk => (hset k (fun e' => n4 (e' ▸ hk))).trans (hold k (t4 k hk).2 (fun h => hn3.2.2 k h k (List.mem_append_right _ hk) rfl)), ?_, ?_, hwb, ?_⟩
  · have d : ∀ (x y : List Nat), x.Nodup → y.Nodup → (∀ b ∈ x, b ∉ y) → (x ++ y).Nodup := fun x y h1 h2 h3 => List.nodup_append.2 ⟨h1, h2, fun b hb b' hb' e => h3 b hb (e ▸ hb')⟩
    have m := (push2_ok _).nodup hS
    have z01 : ∀ k ∈ d1, k ∉ e := fun k h1 h2 => (by rcases hee k h2 with h | h; exact hn2.2.2 k h1 k (List.mem_append_left _ h) rfl; have := (t1 k h1).2; omega)
    have z02 : ∀ k ∈ d1, k ∉ d3 := fun k h1 h2 => hn2.2.2 k h1 k (List.mem_append_right _ (List.mem_append_left _ h2)) rfl
    have z03 : ∀ k ∈ d1, k ∉ d4 := fun k h1 h2 => hn2.2.2 k h1 k (List.mem_append_right _ (List.mem_append_right _ h2)) rfl
    have z12 : ∀ k ∈ e, k ∉ d3 := fun k h1 h2 => (by rcases hee k h1 with h | h; exact hn3.2.2 k h k (List.mem_append_left _ h2) rfl; have := (t3 k h2).2; omega)
    have z13 : ∀ k ∈ e, k ∉ d4 := fun k h1 h2 => (by rcases hee k h1 with h | h; exact hn3.2.2 k h k (List.mem_append_right _ h2) rfl; have := (t4 k h2).2; omega)
    have z23 : ∀ k ∈ d3, k ∉ d4 := fun k h1 h2 => hn4.2.2 k h1 k h2 rfl
    exact d _ _ hn2.1 (d _ _ m (d _ _ hn4.1 hn4.2.1 z23) (fun k h1 h2 => by rcases List.mem_append.1 h2 with h2 | h2; exact z12 k h1 h2; exact z13 k h1 h2)) (fun k h1 h2 => by
      rcases List.mem_append.1 h2 with h2 | h2
      · exact z01 k h1 h2
      · rcases List.mem_append.1 h2 with h2 | h2
        · exact z02 k h1 h2
        · exact z03 k h1 h2)
  · simp only [List.mem_append, not_or]
    exact ⟨n1, heb, n3, n4⟩
  · refine (((hBw.trans (hW.mono hBw.size)).grown hg (by have := hBw.size; omega) fun k hk => (t2 k (hbl k hk)).1)).setCell (p := ⟨b, 3, none⟩) hwb v'

theorem CopyAt.ret {w wr W w5 : World} {b g n : Nat} {c d : Ck} {va vc vr vi v' r : Value} {d1 d2 d3 d4 β : List Nat} {x : List (List Int)} {vs : List Value}
    (xb : Bx wr b 46 #[.int .i64 c.stack, .int .i64 c.start, va, vc, vr, vi]) (f1 : BoolsE w.heap.size wr va d.accept d1) (f2 : Push2E w.heap.size wr vc d.call d2) (f3 : Ints3E w.heap.size wr vr d.ret d3) (f4 : Ints2E w.heap.size wr vi d.inner d4)
    (hnd : (d1 ++ (d2 ++ (d3 ++ d4))).Nodup) (hnb : b ∉ d1 ++ (d2 ++ (d3 ++ d4))) (hwb : w.heap.size ≤ b) (hBw : Below w.heap.size w wr) (hW : Below wr.heap.size wr W) (hr : Ints2E wr.heap.size W r x β) (hn : d.ret.length = n)
    (hrow : W.ownsRow w.heap.size 38 1 vr n vs) (hown : w5.ownsRow w.heap.size 38 1 v' (n + 1) (vs ++ [r])) (hg : W.grownBy w5 vr.ownBlock) (hv : v'.ownBlock = some g) (hat : vr.ownBlock = some g ∨ g = W.heap.size) :
    CopyAt w (w5.setCell ⟨b, 4, none⟩ v') b c { d with ret := d.ret ++ [x] } := by
  have hbw := xb.lt
  have hbl : ∀ k, vr.ownBlock = some k → k ∈ d3 := (ManyE.held f3).choose_spec.2
  have t1 := fun k hk => (bools_ok _).lt f1 k hk
  have t2 := fun k hk => (push2_ok _).lt f2 k hk
  have t3 := fun k hk => (ints3_ok _).lt f3 k hk
  have t4 := fun k hk => (ints2_ok _).lt f4 k hk
  have tr := fun k hk => (ints2_ok _).lt hr k hk
  simp only [List.mem_append, not_or] at hnb
  obtain ⟨n1, n2, n3, n4⟩ := hnb
  have hsz := hW.size
  have hr2 : Ints2E w.heap.size W r x β := ints2_base hBw.size _ _ _ _ hr
  obtain ⟨e, hS, he⟩ := many_grow (ints2_ok _) ((ints3_ok _).later f3 hW) hn hrow hr2 (fun k h1 h2 => by have := (t3 k h1).2; have := (tr k h2).1; omega) hown hg hv (by rcases hat with h | h; exact .inl h; exact .inr h)
  have hold : ∀ k, k < wr.heap.size → k ∉ d3 → w5.heap[k]? = wr.heap[k]? := fun k hk hn => (hg.block k (by omega) (fun e => hn (hbl k e.symm))).trans (hW.block k hk)
  have hset : ∀ k, k ≠ b → (w5.setCell ⟨b, 4, none⟩ v').heap[k]? = w5.heap[k]? := fun k hk => Below.heap_setCell w5 ⟨b, 4, none⟩ v' k hk
  have x5 : Bx w5 b 46 #[.int .i64 c.stack, .int .i64 c.start, va, vc, vr, vi] := xb.same (hold b hbw n3)
  have x6 := x5.set 4 v'
  have hn2 := List.nodup_append.1 hnd
  have hn3 := List.nodup_append.1 hn2.2.1
  have hn4 := List.nodup_append.1 hn3.2.1
  have hgn : g ∈ d3 ∨ g = W.heap.size := by rcases hat with h | h; exact .inl (hbl g h); exact .inr h
  have hee : ∀ k ∈ e, k ∈ d3 ∨ wr.heap.size ≤ k := fun k hk => by
    rcases he k hk with h | h | h
    · exact .inl h
    · exact .inr (tr k h).1
    · subst h
      rcases hgn with h | h
      · exact .inl h
      · exact .inr (by omega)
  have heb : b ∉ e := fun h => by rcases hee b h with h | h; exact n3 h; omega
  refine ⟨va, vc, v', vi, d1, d2, e, d4, x6, (bools_ok _).kept f1 fun k hk => (hset k (fun e' => n1 (e' ▸ hk))).trans (hold k (t1 k hk).2 (fun h => hn2.2.2 k hk k (List.mem_append_right _ (List.mem_append_left _ h)) rfl)), (push2_ok _).kept f2 fun k hk => (hset k (fun e' => n2 (e' ▸ hk))).trans (hold k (t2 k hk).2 (fun h => hn3.2.2 k hk k (List.mem_append_left _ h) rfl)), (ints3_ok _).kept hS fun k hk => hset k (fun e' => heb (e' ▸ hk)), (ints2_ok _).kept f4 fun k hk => (hset k (fun e' => n4 (e' ▸ hk))).trans (hold k (t4 k hk).2 (fun h => hn4.2.2 k h k hk rfl)), ?_, ?_, hwb, ?_⟩
  · have d : ∀ (x y : List Nat), x.Nodup → y.Nodup → (∀ b ∈ x, b ∉ y) → (x ++ y).Nodup := fun x y h1 h2 h3 => List.nodup_append.2 ⟨h1, h2, fun b hb b' hb' e => h3 b hb (e ▸ hb')⟩
    have m := (ints3_ok _).nodup hS
    have z01 : ∀ k ∈ d1, k ∉ d2 := fun k h1 h2 => hn2.2.2 k h1 k (List.mem_append_left _ h2) rfl
    have z02 : ∀ k ∈ d1, k ∉ e := fun k h1 h2 => (by rcases hee k h2 with h | h; exact hn2.2.2 k h1 k (List.mem_append_right _ (List.mem_append_left _ h)) rfl; have := (t1 k h1).2; omega)
    have z03 : ∀ k ∈ d1, k ∉ d4 := fun k h1 h2 => hn2.2.2 k h1 k (List.mem_append_right _ (List.mem_append_right _ h2)) rfl
    have z12 : ∀ k ∈ d2, k ∉ e := fun k h1 h2 => (by rcases hee k h2 with h | h; exact hn3.2.2 k h1 k (List.mem_append_left _ h) rfl; have := (t2 k h1).2; omega)
    have z13 : ∀ k ∈ d2, k ∉ d4 := fun k h1 h2 => hn3.2.2 k h1 k (List.mem_append_right _ h2) rfl
    have z23 : ∀ k ∈ e, k ∉ d4 := fun k h1 h2 => (by rcases hee k h1 with h | h; exact hn4.2.2 k h k h2 rfl; have := (t4 k h2).2; omega)
    exact d _ _ hn2.1 (d _ _ hn3.1 (d _ _ m hn4.2.1 z23) (fun k h1 h2 => by rcases List.mem_append.1 h2 with h2 | h2; exact z12 k h1 h2; exact z13 k h1 h2)) (fun k h1 h2 => by
      rcases List.mem_append.1 h2 with h2 | h2
      · exact z01 k h1 h2
      · rcases List.mem_append.1 h2 with h2 | h2
        · exact z02 k h1 h2
        · exact z03 k h1 h2)
  · simp only [List.mem_append, not_or]
    exact ⟨n1, n2, heb, n4⟩
  · refine (((hBw.trans (hW.mono hBw.size)).grown hg (by have := hBw.size; omega) fun k hk => (t3 k (hbl k hk)).1)).setCell (p := ⟨b, 4, none⟩) hwb v'

theorem CopyAt.inner {w wr W w5 : World} {b g n : Nat} {c d : Ck} {va vc vr vi v' r : Value} {d1 d2 d3 d4 β : List Nat} {x : List Int} {vs : List Value}
    (xb : Bx wr b 46 #[.int .i64 c.stack, .int .i64 c.start, va, vc, vr, vi]) (f1 : BoolsE w.heap.size wr va d.accept d1) (f2 : Push2E w.heap.size wr vc d.call d2) (f3 : Ints3E w.heap.size wr vr d.ret d3) (f4 : Ints2E w.heap.size wr vi d.inner d4)
    (hnd : (d1 ++ (d2 ++ (d3 ++ d4))).Nodup) (hnb : b ∉ d1 ++ (d2 ++ (d3 ++ d4))) (hwb : w.heap.size ≤ b) (hBw : Below w.heap.size w wr) (hW : Below wr.heap.size wr W) (hr : IntsE wr.heap.size W r x β) (hn : d.inner.length = n)
    (hrow : W.ownsRow w.heap.size 22 1 vi n vs) (hown : w5.ownsRow w.heap.size 22 1 v' (n + 1) (vs ++ [r])) (hg : W.grownBy w5 vi.ownBlock) (hv : v'.ownBlock = some g) (hat : vi.ownBlock = some g ∨ g = W.heap.size) :
    CopyAt w (w5.setCell ⟨b, 5, none⟩ v') b c { d with inner := d.inner ++ [x] } := by
  have hbw := xb.lt
  have hbl : ∀ k, vi.ownBlock = some k → k ∈ d4 := (ManyE.held f4).choose_spec.2
  have t1 := fun k hk => (bools_ok _).lt f1 k hk
  have t2 := fun k hk => (push2_ok _).lt f2 k hk
  have t3 := fun k hk => (ints3_ok _).lt f3 k hk
  have t4 := fun k hk => (ints2_ok _).lt f4 k hk
  have tr := fun k hk => (ints_ok _).lt hr k hk
  simp only [List.mem_append, not_or] at hnb
  obtain ⟨n1, n2, n3, n4⟩ := hnb
  have hsz := hW.size
  have hr2 : IntsE w.heap.size W r x β := ints_base hBw.size _ _ _ _ hr
  obtain ⟨e, hS, he⟩ := many_grow (ints_ok _) ((ints2_ok _).later f4 hW) hn hrow hr2 (fun k h1 h2 => by have := (t4 k h1).2; have := (tr k h2).1; omega) hown hg hv (by rcases hat with h | h; exact .inl h; exact .inr h)
  have hold : ∀ k, k < wr.heap.size → k ∉ d4 → w5.heap[k]? = wr.heap[k]? := fun k hk hn => (hg.block k (by omega) (fun e => hn (hbl k e.symm))).trans (hW.block k hk)
  have hset : ∀ k, k ≠ b → (w5.setCell ⟨b, 5, none⟩ v').heap[k]? = w5.heap[k]? := fun k hk => Below.heap_setCell w5 ⟨b, 5, none⟩ v' k hk
  have x5 : Bx w5 b 46 #[.int .i64 c.stack, .int .i64 c.start, va, vc, vr, vi] := xb.same (hold b hbw n4)
  have x6 := x5.set 5 v'
  have hn2 := List.nodup_append.1 hnd
  have hn3 := List.nodup_append.1 hn2.2.1
  have hn4 := List.nodup_append.1 hn3.2.1
  have hgn : g ∈ d4 ∨ g = W.heap.size := by rcases hat with h | h; exact .inl (hbl g h); exact .inr h
  have hee : ∀ k ∈ e, k ∈ d4 ∨ wr.heap.size ≤ k := fun k hk => by
    rcases he k hk with h | h | h
    · exact .inl h
    · exact .inr (tr k h).1
    · subst h
      rcases hgn with h | h
      · exact .inl h
      · exact .inr (by omega)
  have heb : b ∉ e := fun h => by rcases hee b h with h | h; exact n4 h; omega
  refine ⟨va, vc, vr, v', d1, d2, d3, e, x6, (bools_ok _).kept f1 fun k hk => (hset k (fun e' => n1 (e' ▸ hk))).trans (hold k (t1 k hk).2 (fun h => hn2.2.2 k hk k (List.mem_append_right _ (List.mem_append_right _ h)) rfl)), (push2_ok _).kept f2 fun k hk => (hset k (fun e' => n2 (e' ▸ hk))).trans (hold k (t2 k hk).2 (fun h => hn3.2.2 k hk k (List.mem_append_right _ h) rfl)), (ints3_ok _).kept f3 fun k hk => (hset k (fun e' => n3 (e' ▸ hk))).trans (hold k (t3 k hk).2 (fun h => hn4.2.2 k hk k h rfl)), (ints2_ok _).kept hS fun k hk => hset k (fun e' => heb (e' ▸ hk)), ?_, ?_, hwb, ?_⟩
  · have d : ∀ (x y : List Nat), x.Nodup → y.Nodup → (∀ b ∈ x, b ∉ y) → (x ++ y).Nodup := fun x y h1 h2 h3 => List.nodup_append.2 ⟨h1, h2, fun b hb b' hb' e => h3 b hb (e ▸ hb')⟩
    have m := (ints2_ok _).nodup hS
    have z01 : ∀ k ∈ d1, k ∉ d2 := fun k h1 h2 => hn2.2.2 k h1 k (List.mem_append_left _ h2) rfl
    have z02 : ∀ k ∈ d1, k ∉ d3 := fun k h1 h2 => hn2.2.2 k h1 k (List.mem_append_right _ (List.mem_append_left _ h2)) rfl
    have z03 : ∀ k ∈ d1, k ∉ e := fun k h1 h2 => (by rcases hee k h2 with h | h; exact hn2.2.2 k h1 k (List.mem_append_right _ (List.mem_append_right _ h)) rfl; have := (t1 k h1).2; omega)
    have z12 : ∀ k ∈ d2, k ∉ d3 := fun k h1 h2 => hn3.2.2 k h1 k (List.mem_append_left _ h2) rfl
    have z13 : ∀ k ∈ d2, k ∉ e := fun k h1 h2 => (by rcases hee k h2 with h | h; exact hn3.2.2 k h1 k (List.mem_append_right _ h) rfl; have := (t2 k h1).2; omega)
    have z23 : ∀ k ∈ d3, k ∉ e := fun k h1 h2 => (by rcases hee k h2 with h | h; exact hn4.2.2 k h1 k h rfl; have := (t3 k h1).2; omega)
    exact d _ _ hn2.1 (d _ _ hn3.1 (d _ _ hn4.1 m z23) (fun k h1 h2 => by rcases List.mem_append.1 h2 with h2 | h2; exact z12 k h1 h2; exact z13 k h1 h2)) (fun k h1 h2 => by
      rcases List.mem_append.1 h2 with h2 | h2
      · exact z01 k h1 h2
      · rcases List.mem_append.1 h2 with h2 | h2
        · exact z02 k h1 h2
        · exact z03 k h1 h2)
  · simp only [List.mem_append, not_or]
    exact ⟨n1, n2, n3, heb⟩
  · refine (((hBw.trans (hW.mono hBw.size)).grown hg (by have := hBw.size; omega) fun k hk => (t4 k (hbl k hk)).1)).setCell (p := ⟨b, 5, none⟩) hwb v'
end Go.Proofs.Yticmekdfdilcpaa
