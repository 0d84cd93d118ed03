/- An append of a row that lies anywhere, apart from the box, to a field of a checker's box. -/
import Derived.Test.YticmekdfdilcpaaGrown
namespace Go.Proofs.Yticmekdfdilcpaa
open Go.RowKit
set_option linter.unusedVariables false

theorem box_call {base : Nat} {W w5 : World} {b g n : Nat} {c : Ck} {va vc vr vi v' r : Value} {d1 d2 d3 d4 β : List Nat} {x : List (Int × Int)} {vs : List Value}
    (xb : Bx W b 46 #[.int .i64 c.stack, .int .i64 c.start, va, vc, vr, vi]) (f1 : BoolsE base W va c.accept d1) (f2 : Push2E base W vc c.call d2) (f3 : Ints3E base W vr c.ret d3) (f4 : Ints2E base W vi c.inner d4)
    (hnd : (d1 ++ (d2 ++ (d3 ++ d4))).Nodup) (hnb : b ∉ d1 ++ (d2 ++ (d3 ++ d4))) (hr : PushE base W r x β) (hdβ : ∀ k ∈ d1 ++ (d2 ++ (d3 ++ d4)), k ∉ β) (hbβ : b ∉ β) (hn : c.call.length = n)
    (hrow : W.ownsRow base 94 1 vc n vs) (hown : w5.ownsRow base 94 1 v' (n + 1) (vs ++ [r])) (hg : W.grownBy w5 vc.ownBlock) (hv : v'.ownBlock = some g) (hat : vc.ownBlock = some g ∨ g = W.heap.size) :
    ∃ e, BoxAt base (w5.setCell ⟨b, 3, none⟩ v') b { c with call := c.call ++ [x] } (d1 ++ (e ++ (d3 ++ d4))) ∧ (∀ k ∈ e, k ∈ d2 ∨ k ∈ β ∨ k = W.heap.size) ∧ Turned (b :: d2) W (w5.setCell ⟨b, 3, none⟩ v') := by
  have hbw := xb.lt
  have hbl : ∀ k, vc.ownBlock = some k → k ∈ d2 := (ManyE.held f2).choose_spec.2
  have t1 := fun k hk => (bools_ok _).lt f1 k hk
  have t2 := fun k hk => (push2_ok _).lt f2 k hk
  have t3 := fun k hk => (ints3_ok _).lt f3 k hk
  have t4 := fun k hk => (ints2_ok _).lt f4 k hk
  simp only [List.mem_append, not_or] at hnb
  obtain ⟨n1, n2, n3, n4⟩ := hnb
  have y1 : ∀ k ∈ d1, k ∉ β := fun k hk => hdβ k (by simp [hk])
  have y2 : ∀ k ∈ d2, k ∉ β := fun k hk => hdβ k (by simp [hk])
  have y3 : ∀ k ∈ d3, k ∉ β := fun k hk => hdβ k (by simp [hk])
  have y4 : ∀ k ∈ d4, k ∉ β := fun k hk => hdβ k (by simp [hk])
  obtain ⟨e, hS, he⟩ := many_grow (push_ok _) f2 hn hrow hr y2 hown hg hv hat
  have hold : ∀ k, k < W.heap.size → k ∉ d2 → w5.heap[k]? = W.heap[k]? := fun k hk hn => hg.block k hk (fun e => hn (hbl k e.symm))
  have hset : ∀ k, k ≠ b → (w5.setCell ⟨b, 3, none⟩ v').heap[k]? = w5.heap[k]? := fun k hk => Below.heap_setCell w5 ⟨b, 3, none⟩ v' k hk
  have x5 : Bx w5 b 46 #[.int .i64 c.stack, .int .i64 c.start, va, vc, vr, vi] := xb.same (hold b hbw n2)
  have x6 := x5.set 3 v'
  have hn2 := List.nodup_append.1 hnd
  have hn3 := List.nodup_append.1 hn2.2.1
  have hn4 := List.nodup_append.1 hn3.2.1
  have hee : ∀ k ∈ e, k ∈ d2 ∨ k ∈ β ∨ k = W.heap.size := fun k hk => by
    rcases he k hk with h | h | h
    · exact .inl h
    · exact .inr (.inl h)
    · subst h
      rcases hat with h | h
      · exact .inl (hbl _ h)
      · exact .inr (.inr h)
  have heb : b ∉ e := fun h => by rcases hee b h with h | h | h; exact n2 h; exact hbβ h; omega
  refine ⟨e, ⟨va, v', vr, vi, d1, e, d3, d4, x6, (bools_ok _).kept f1 fun k hk => (hset k (fun e' => n1 (e' ▸ hk))).trans (hold k (t1 k hk).2 (fun h => hn2.2.2 k hk k (List.mem_append_left _ h) rfl)), (push2_ok _).kept hS fun k hk => hset k (fun e' => heb (e' ▸ hk)), (ints3_ok _).kept f3 fun k hk => (hset k (fun e' => n3 (e' ▸ hk))).trans (hold k (t3 k hk).2 (fun h => hn3.2.2 k h k (List.mem_append_left _ hk) rfl)), (ints2_ok _).kept f4 fun k hk => (hset k (fun e' => n4 (e' ▸ hk))).trans (hold k (t4 k hk).2 (fun h => hn3.2.2 k h k (List.mem_append_right _ hk) rfl)), rfl, ?_, ?_⟩, hee, ?_⟩
  · have d : ∀ (x y : List Nat), x.Nodup → y.Nodup → (∀ b ∈ x, b ∉ y) → (x ++ y).Nodup := fun x y h1 h2 h3 => List.nodup_append.2 ⟨h1, h2, fun b hb b' hb' e => h3 b hb (e ▸ hb')⟩
    have m := (push2_ok _).nodup hS
    have z01 : ∀ k ∈ d1, k ∉ e := fun k h1 h2 => (by rcases hee k h2 with h | h | h; exact hn2.2.2 k h1 k (List.mem_append_left _ h) rfl; exact y1 k h1 h; have := (t1 k h1).2; omega)
    have z02 : ∀ k ∈ d1, k ∉ d3 := fun k h1 h2 => hn2.2.2 k h1 k (List.mem_append_right _ (List.mem_append_left _ h2)) rfl
    have z03 : ∀ k ∈ d1, k ∉ d4 := fun k h1 h2 => hn2.2.2 k h1 k (List.mem_append_right _ (List.mem_append_right _ h2)) rfl
    have z12 : ∀ k ∈ e, k ∉ d3 := fun k h1 h2 => (by rcases hee k h1 with h | h | h; exact hn3.2.2 k h k (List.mem_append_left _ h2) rfl; exact y3 k h2 h; have := (t3 k h2).2; omega)
    have z13 : ∀ k ∈ e, k ∉ d4 := fun k h1 h2 => (by rcases hee k h1 with h | h | h; exact hn3.2.2 k h k (List.mem_append_right _ h2) rfl; exact y4 k h2 h; have := (t4 k h2).2; omega)
    have z23 : ∀ k ∈ d3, k ∉ d4 := fun k h1 h2 => hn4.2.2 k h1 k h2 rfl
    exact d _ _ hn2.1 (d _ _ m (d _ _ hn4.1 hn4.2.1 z23) (fun k h1 h2 => by rcases List.mem_append.1 h2 with h2 | h2; exact z12 k h1 h2; exact z13 k h1 h2)) (fun k h1 h2 => by
      rcases List.mem_append.1 h2 with h2 | h2
      · exact z01 k h1 h2
      · rcases List.mem_append.1 h2 with h2 | h2
        · exact z02 k h1 h2
        · exact z03 k h1 h2)
  · simp only [List.mem_append, not_or]
    exact ⟨n1, heb, n3, n4⟩
  · have h5 : Turned (b :: d2) W w5 := ⟨hg.os, hg.tape, hg.output, hg.size, fun k hk hn => hold k hk (fun h => hn (List.mem_cons_of_mem _ h))⟩
    exact h5.trans (turned_at (List.mem_cons_self ..) _ _ _)

theorem box_ret {base : Nat} {W w5 : World} {b g n : Nat} {c : Ck} {va vc vr vi v' r : Value} {d1 d2 d3 d4 β : List Nat} {x : List (List Int)} {vs : List Value}
    (xb : Bx W b 46 #[.int .i64 c.stack, .int .i64 c.start, va, vc, vr, vi]) (f1 : BoolsE base W va c.accept d1) (f2 : Push2E base W vc c.call d2) (f3 : Ints3E base W vr c.ret d3) (f4 : Ints2E base W vi c.inner d4)
    (hnd : (d1 ++ (d2 ++ (d3 ++ d4))).Nodup) (hnb : b ∉ d1 ++ (d2 ++ (d3 ++ d4))) (hr : Ints2E base W r x β) (hdβ : ∀ k ∈ d1 ++ (d2 ++ (d3 ++ d4)), k ∉ β) (hbβ : b ∉ β) (hn : c.ret.length = n)
    (hrow : W.ownsRow base 38 1 vr n vs) (hown : w5.ownsRow base 38 1 v' (n + 1) (vs ++ [r])) (hg : W.grownBy w5 vr.ownBlock) (hv : v'.ownBlock = some g) (hat : vr.ownBlock = some g ∨ g = W.heap.size) :
    ∃ e, BoxAt base (w5.setCell ⟨b, 4, none⟩ v') b { c with ret := c.ret ++ [x] } (d1 ++ (d2 ++ (e ++ d4))) ∧ (∀ k ∈ e, k ∈ d3 ∨ k ∈ β ∨ k = W.heap.size) ∧ Turned (b :: d3) W (w5.setCell ⟨b, 4, none⟩ v') := by
  have hbw := xb.lt
  have hbl : ∀ k, vr.ownBlock = some k → k ∈ d3 := (ManyE.held f3).choose_spec.2
  have t1 := fun k hk => (bools_ok _).lt f1 k hk
  have t2 := fun k hk => (push2_ok _).lt f2 k hk
  have t3 := fun k hk => (ints3_ok _).lt f3 k hk
  have t4 := fun k hk => (ints2_ok _).lt f4 k hk
  simp only [List.mem_append, not_or] at hnb
  obtain ⟨n1, n2, n3, n4⟩ := hnb
  have y1 : ∀ k ∈ d1, k ∉ β := fun k hk => hdβ k (by simp [hk])
  have y2 : ∀ k ∈ d2, k ∉ β := fun k hk => hdβ k (by simp [hk])
  have y3 : ∀ k ∈ d3, k ∉ β := fun k hk => hdβ k (by simp [hk])
  have y4 : ∀ k ∈ d4, k ∉ β := fun k hk => hdβ k (by simp [hk])
  obtain ⟨e, hS, he⟩ := many_grow (ints2_ok _) f3 hn hrow hr y3 hown hg hv hat
  have hold : ∀ k, k < W.heap.size → k ∉ d3 → w5.heap[k]? = W.heap[k]? := fun k hk hn => hg.block k hk (fun e => hn (hbl k e.symm))
  have hset : ∀ k, k ≠ b → (w5.setCell ⟨b, 4, none⟩ v').heap[k]? = w5.heap[k]? := fun k hk => Below.heap_setCell w5 ⟨b, 4, none⟩ v' k hk
  have x5 : Bx w5 b 46 #[.int .i64 c.stack, .int .i64 c.start, va, vc, vr, vi] := xb.same (hold b hbw n3)
  have x6 := x5.set 4 v'
  have hn2 := List.nodup_append.1 hnd
  have hn3 := List.nodup_append.1 hn2.2.1
  have hn4 := List.nodup_append.1 hn3.2.1
  have hee : ∀ k ∈ e, k ∈ d3 ∨ k ∈ β ∨ k = W.heap.size := fun k hk => by
    rcases he k hk with h | h | h
    · exact .inl h
    · exact .inr (.inl h)
    · subst h
      rcases hat with h | h
      · exact .inl (hbl _ h)
      · exact .inr (.inr h)
  have heb : b ∉ e := fun h => by rcases hee b h with h | h | h; exact n3 h; exact hbβ h; omega
  refine ⟨e, ⟨va, vc, v', vi, d1, d2, e, d4, x6, (bools_ok _).kept f1 fun k hk => (hset k (fun e' => n1 (e' ▸ hk))).trans (hold k (t1 k hk).2 (fun h => hn2.2.2 k hk k (List.mem_append_right _ (List.mem_append_left _ h)) rfl)), (push2_ok _).kept f2 fun k hk => (hset k (fun e' => n2 (e' ▸ hk))).trans (hold k (t2 k hk).2 (fun h => hn3.2.2 k hk k (List.mem_append_left _ h) rfl)), (ints3_ok _).kept hS fun k hk => hset k (fun e' => heb (e' ▸ hk)), (ints2_ok _).kept f4 fun k hk => (hset k (fun e' => n4 (e' ▸ hk))).trans (hold k (t4 k hk).2 (fun h => hn4.2.2 k h k hk rfl)), rfl, ?_, ?_⟩, hee, ?_⟩
  · have d : ∀ (x y : List Nat), x.Nodup → y.Nodup → (∀ b ∈ x, b ∉ y) → (x ++ y).Nodup := fun x y h1 h2 h3 => List.nodup_append.2 ⟨h1, h2, fun b hb b' hb' e => h3 b hb (e ▸ hb')⟩
    have m := (ints3_ok _).nodup hS
    have z01 : ∀ k ∈ d1, k ∉ d2 := fun k h1 h2 => hn2.2.2 k h1 k (List.mem_append_left _ h2) rfl
    have z02 : ∀ k ∈ d1, k ∉ e := fun k h1 h2 => (by rcases hee k h2 with h | h | h; exact hn2.2.2 k h1 k (List.mem_append_right _ (List.mem_append_left _ h)) rfl; exact y1 k h1 h; have := (t1 k h1).2; omega)
    have z03 : ∀ k ∈ d1, k ∉ d4 := fun k h1 h2 => hn2.2.2 k h1 k (List.mem_append_right _ (List.mem_append_right _ h2)) rfl
    have z12 : ∀ k ∈ d2, k ∉ e := fun k h1 h2 => (by rcases hee k h2 with h | h | h; exact hn3.2.2 k h1 k (List.mem_append_left _ h) rfl; exact y2 k h1 h; have := (t2 k h1).2; omega)
    have z13 : ∀ k ∈ d2, k ∉ d4 := fun k h1 h2 => hn3.2.2 k h1 k (List.mem_append_right _ h2) rfl
    have z23 : ∀ k ∈ e, k ∉ d4 := fun k h1 h2 => (by rcases hee k h1 with h | h | h; exact hn4.2.2 k h k h2 rfl; exact y4 k h2 h; have := (t4 k h2).2; omega)
    exact d _ _ hn2.1 (d _ _ hn3.1 (d _ _ m hn4.2.1 z23) (fun k h1 h2 => by rcases List.mem_append.1 h2 with h2 | h2; exact z12 k h1 h2; exact z13 k h1 h2)) (fun k h1 h2 => by
      rcases List.mem_append.1 h2 with h2 | h2
      · exact z01 k h1 h2
      · rcases List.mem_append.1 h2 with h2 | h2
        · exact z02 k h1 h2
        · exact z03 k h1 h2)
  · simp only [List.mem_append, not_or]
    exact ⟨n1, n2, heb, n4⟩
  · have h5 : Turned (b :: d3) W w5 := ⟨hg.os, hg.tape, hg.output, hg.size, fun k hk hn => hold k hk (fun h => hn (List.mem_cons_of_mem _ h))⟩
    exact h5.trans (turned_at (List.mem_cons_self ..) _ _ _)

theorem box_inner {base : Nat} {W w5 : World} {b g n : Nat} {c : Ck} {va vc vr vi v' r : Value} {d1 d2 d3 d4 β : List Nat} {x : List Int} {vs : List Value}
    (xb : Bx W b 46 #[.int .i64 c.stack, .int .i64 c.start, va, vc, vr, vi]) (f1 : BoolsE base W va c.accept d1) (f2 : Push2E base W vc c.call d2) (f3 : Ints3E base W vr c.ret d3) (f4 : Ints2E base W vi c.inner d4)
    (hnd : (d1 ++ (d2 ++ (d3 ++ d4))).Nodup) (hnb : b ∉ d1 ++ (d2 ++ (d3 ++ d4))) (hr : IntsE base W r x β) (hdβ : ∀ k ∈ d1 ++ (d2 ++ (d3 ++ d4)), k ∉ β) (hbβ : b ∉ β) (hn : c.inner.length = n)
    (hrow : W.ownsRow base 22 1 vi n vs) (hown : w5.ownsRow base 22 1 v' (n + 1) (vs ++ [r])) (hg : W.grownBy w5 vi.ownBlock) (hv : v'.ownBlock = some g) (hat : vi.ownBlock = some g ∨ g = W.heap.size) :
    ∃ e, BoxAt base (w5.setCell ⟨b, 5, none⟩ v') b { c with inner := c.inner ++ [x] } (d1 ++ (d2 ++ (d3 ++ e))) ∧ (∀ k ∈ e, k ∈ d4 ∨ k ∈ β ∨ k = W.heap.size) ∧ Turned (b :: d4) W (w5.setCell ⟨b, 5, none⟩ v') := by
  have hbw := xb.lt
  have hbl : ∀ k, vi.ownBlock = some k → k ∈ d4 := (ManyE.held f4).choose_spec.2
  have t1 := fun k hk => (bools_ok _).lt f1 k hk
  have t2 := fun k hk => (push2_ok _).lt f2 k hk
  have t3 := fun k hk => (ints3_ok _).lt f3 k hk
  have t4 := fun k hk => (ints2_ok _).lt f4 k hk
  simp only [List.mem_append, not_or] at hnb
  obtain ⟨n1, n2, n3, n4⟩ := hnb
  have y1 : ∀ k ∈ d1, k ∉ β := fun k hk => hdβ k (by simp [hk])
  have y2 : ∀ k ∈ d2, k ∉ β := fun k hk => hdβ k (by simp [hk])
  have y3 : ∀ k ∈ d3, k ∉ β := fun k hk => hdβ k (by simp [hk])
  have y4 : ∀ k ∈ d4, k ∉ β := fun k hk => hdβ k (by simp [hk])
  obtain ⟨e, hS, he⟩ := many_grow (ints_ok _) f4 hn hrow hr y4 hown hg hv hat
  have hold : ∀ k, k < W.heap.size → k ∉ d4 → w5.heap[k]? = W.heap[k]? := fun k hk hn => hg.block k hk (fun e => hn (hbl k e.symm))
  have hset : ∀ k, k ≠ b → (w5.setCell ⟨b, 5, none⟩ v').heap[k]? = w5.heap[k]? := fun k hk => Below.heap_setCell w5 ⟨b, 5, none⟩ v' k hk
  have x5 : Bx w5 b 46 #[.int .i64 c.stack, .int .i64 c.start, va, vc, vr, vi] := xb.same (hold b hbw n4)
  have x6 := x5.set 5 v'
  have hn2 := List.nodup_append.1 hnd
  have hn3 := List.nodup_append.1 hn2.2.1
  have hn4 := List.nodup_append.1 hn3.2.1
  have hee : ∀ k ∈ e, k ∈ d4 ∨ k ∈ β ∨ k = W.heap.size := fun k hk => by
    rcases he k hk with h | h | h
    · exact .inl h
    · exact .inr (.inl h)
    · subst h
      rcases hat with h | h
      · exact .inl (hbl _ h)
      · exact .inr (.inr h)
  have heb : b ∉ e := fun h => by rcases hee b h with h | h | h; exact n4 h; exact hbβ h; omega
  refine ⟨e, ⟨va, vc, vr, v', d1, d2, d3, e, x6, (bools_ok _).kept f1 fun k hk => (hset k (fun e' => n1 (e' ▸ hk))).trans (hold k (t1 k hk).2 (fun h => hn2.2.2 k hk k (List.mem_append_right _ (List.mem_append_right _ h)) rfl)), (push2_ok _).kept f2 fun k hk => (hset k (fun e' => n2 (e' ▸ hk))).trans (hold k (t2 k hk).2 (fun h => hn3.2.2 k hk k (List.mem_append_right _ h) rfl)), (ints3_ok _).kept f3 fun k hk => (hset k (fun e' => n3 (e' ▸ hk))).trans (hold k (t3 k hk).2 (fun h => hn4.2.2 k hk k h rfl)), (ints2_ok _).kept hS fun k hk => hset k (fun e' => heb (e' ▸ hk)), rfl, ?_, ?_⟩, hee, ?_⟩
  · have d : ∀ (x y : List Nat), x.Nodup → y.Nodup → (∀ b ∈ x, b ∉ y) → (x ++ y).Nodup := fun x y h1 h2 h3 => List.nodup_append.2 ⟨h1, h2, fun b hb b' hb' e => h3 b hb (e ▸ hb')⟩
    have m := (ints2_ok _).nodup hS
    have z01 : ∀ k ∈ d1, k ∉ d2 := fun k h1 h2 => hn2.2.2 k h1 k (List.mem_append_left _ h2) rfl
    have z02 : ∀ k ∈ d1, k ∉ d3 := fun k h1 h2 => hn2.2.2 k h1 k (List.mem_append_right _ (List.mem_append_left _ h2)) rfl
    have z03 : ∀ k ∈ d1, k ∉ e := fun k h1 h2 => (by rcases hee k h2 with h | h | h; exact hn2.2.2 k h1 k (List.mem_append_right _ (List.mem_append_right _ h)) rfl; exact y1 k h1 h; have := (t1 k h1).2; omega)
    have z12 : ∀ k ∈ d2, k ∉ d3 := fun k h1 h2 => hn3.2.2 k h1 k (List.mem_append_left _ h2) rfl
    have z13 : ∀ k ∈ d2, k ∉ e := fun k h1 h2 => (by rcases hee k h2 with h | h | h; exact hn3.2.2 k h1 k (List.mem_append_right _ h) rfl; exact y2 k h1 h; have := (t2 k h1).2; omega)
    have z23 : ∀ k ∈ d3, k ∉ e := fun k h1 h2 => (by rcases hee k h2 with h | h | h; exact hn4.2.2 k h1 k h rfl; exact y3 k h1 h; have := (t3 k h1).2; omega)
    exact d _ _ hn2.1 (d _ _ hn3.1 (d _ _ hn4.1 m z23) (fun k h1 h2 => by rcases List.mem_append.1 h2 with h2 | h2; exact z12 k h1 h2; exact z13 k h1 h2)) (fun k h1 h2 => by
      rcases List.mem_append.1 h2 with h2 | h2
      · exact z01 k h1 h2
      · rcases List.mem_append.1 h2 with h2 | h2
        · exact z02 k h1 h2
        · exact z03 k h1 h2)
  · simp only [List.mem_append, not_or]
    exact ⟨n1, n2, n3, heb⟩
  · have h5 : Turned (b :: d4) W w5 := ⟨hg.os, hg.tape, hg.output, hg.size, fun k hk hn => hold k hk (fun h => hn (List.mem_cons_of_mem _ h))⟩
    exact h5.trans (turned_at (List.mem_cons_self ..) _ _ _)
end Go.Proofs.Yticmekdfdilcpaa
