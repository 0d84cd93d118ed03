/- A checker's box that grows: what its fields read as, and what an append to one of them leaves. -/
import Derived.Test.YticmekdfdilcpaaCopy1
namespace Go.Proofs.Yticmekdfdilcpaa
open Go.RowKit
set_option linter.unusedVariables false

theorem turned_at {bs : List Nat} {B : Nat} (hB : B ∈ bs) (x : World) (i : Nat) (u : Value) : Turned bs x (x.setCell ⟨B, i, none⟩ u) :=
  ⟨rfl, rfl, rfl, by simp, fun k _ hk => Below.heap_setCell _ _ _ k (fun e => hk (e ▸ hB))⟩
/-- The box b holds a checker that reads as c; its fields lie in the blocks bs. -/
structure BoxAt (base : Nat) (w : World) (b : Nat) (c : Ck) (bs : List Nat) : Prop where
  ex : ∃ va vc vr vi b1 b2 b3 b4, Bx w b 46 #[.int .i64 c.stack, .int .i64 c.start, va, vc, vr, vi] ∧ BoolsE base w va c.accept b1 ∧ Push2E base w vc c.call b2 ∧ Ints3E base w vr c.ret b3 ∧ Ints2E base w vi c.inner b4 ∧ bs = b1 ++ (b2 ++ (b3 ++ b4)) ∧ (b1 ++ (b2 ++ (b3 ++ b4))).Nodup ∧ b ∉ b1 ++ (b2 ++ (b3 ++ b4))
/-- What has become of it since the world w0: nothing but the box and its blocks has turned. -/
structure GrownAt (base : Nat) (w0 : World) (b : Nat) (bs : List Nat) (X : World) (c : Ck) : Prop where
  box : ∃ bs0, BoxAt base X b c bs0 ∧ ∀ k ∈ bs0, k ∈ bs ∨ w0.heap.size ≤ k
  turned : Turned (b :: bs) w0 X
  base : base ≤ w0.heap.size
theorem BoxAt.lt {base : Nat} {w : World} {b : Nat} {c : Ck} {bs : List Nat} (h : BoxAt base w b c bs) : b < w.heap.size ∧ ∀ k ∈ bs, base ≤ k ∧ k < w.heap.size := by
  obtain ⟨va, vc, vr, vi, b1, b2, b3, b4, xb, f1, f2, f3, f4, rfl, _, _⟩ := h.ex
  refine ⟨xb.lt, fun k hk => ?_⟩
  rcases List.mem_append.1 hk with hk | hk
  · exact (bools_ok _).lt f1 k hk
  · rcases List.mem_append.1 hk with hk | hk
    · exact (push2_ok _).lt f2 k hk
    · rcases List.mem_append.1 hk with hk | hk
      · exact (ints3_ok _).lt f3 k hk
      · exact (ints2_ok _).lt f4 k hk
theorem BoxAt.later {base : Nat} {w w' : World} {b : Nat} {c : Ck} {bs : List Nat} (h : BoxAt base w b c bs) (hb : Below w.heap.size w w') : BoxAt base w' b c bs := by
  obtain ⟨va, vc, vr, vi, b1, b2, b3, b4, xb, f1, f2, f3, f4, e, hnd, hnb⟩ := h.ex
  exact ⟨va, vc, vr, vi, b1, b2, b3, b4, xb.later hb, (bools_ok _).later f1 hb, (push2_ok _).later f2 hb, (ints3_ok _).later f3 hb, (ints2_ok _).later f4 hb, e, hnd, hnb⟩
theorem GrownAt.refl {base : Nat} {w : World} {b : Nat} {c : Ck} {bs : List Nat} (h : BoxAt base w b c bs) (hb : base ≤ w.heap.size) : GrownAt base w b bs w c := ⟨⟨bs, h, fun k hk => .inl hk⟩, Turned.refl _ _, hb⟩
theorem GrownAt.later {base : Nat} {w0 w w' : World} {b : Nat} {c : Ck} {bs : List Nat} (h : GrownAt base w0 b bs w c) (hb : Below w.heap.size w w') : GrownAt base w0 b bs w' c := by
  obtain ⟨⟨bs0, h0, h1⟩, h2, h3⟩ := h
  exact ⟨⟨bs0, h0.later hb, h1⟩, h2.trans (Turned.of_below hb), h3⟩
theorem GrownAt.trans {base : Nat} {w0 w w' : World} {b : Nat} {c c' : Ck} {bs bs0 : List Nat} (h : GrownAt base w0 b bs w c) (hs : ∀ k ∈ bs0, k ∈ bs ∨ w0.heap.size ≤ k) (h' : GrownAt base w b bs0 w' c') : GrownAt base w0 b bs w' c' := by
  obtain ⟨⟨cs, h0, h1⟩, h2, h3⟩ := h'
  refine ⟨⟨cs, h0, fun k hk => ?_⟩, ⟨h2.os.trans h.turned.os, h2.tape.trans h.turned.tape, h2.output.trans h.turned.output, Nat.le_trans h.turned.size h2.size, fun k hk hn => ?_⟩, h.base⟩
  · rcases h1 k hk with h1 | h1
    · exact hs k h1
    · exact .inr (Nat.le_trans h.turned.size h1)
  · simp only [List.mem_cons, not_or] at hn
    refine (h2.block k (Nat.lt_of_lt_of_le hk h.turned.size) (fun hm => ?_)).trans (h.turned.block k hk (by simp [hn.1, hn.2]))
    rcases List.mem_cons.1 hm with rfl | hm
    · exact hn.1 rfl
    · rcases hs k hm with h | h
      · exact hn.2 h
      · omega
theorem GrownAt.below {base : Nat} {w0 w : World} {b : Nat} {c : Ck} {bs : List Nat} (h : GrownAt base w0 b bs w c) {w1 : World} {B : Nat} (hB : Below B w1 w0) (hb : B ≤ b) (hbs : ∀ k ∈ bs, B ≤ k) (hBs : B ≤ w0.heap.size) : Below B w1 w :=
  h.turned.below hB hBs (fun k hk => by rcases List.mem_cons.1 hk with rfl | hk; exact hb; exact hbs k hk)
/-- A literal of a slice. -/
def LitE (base : Nat) (T : TypeId) (cs : Array Value) (n : Nat) : EP Unit := fun w v _ bs => ∃ b, v = .slice (some ⟨b, 0, none⟩) n n ∧ Bx w b T cs ∧ bs = [b] ∧ base ≤ b
theorem lit_ok (base : Nat) (T : TypeId) (cs : Array Value) (n : Nat) : EP.Ok base (LitE base T cs n) where
  kept := by rintro w w' v x bs ⟨b, rfl, hb, rfl, hl⟩ hs; exact ⟨b, rfl, hb.same (hs b (by simp)), rfl, hl⟩
  lt := by rintro w v x bs ⟨b, rfl, hb, rfl, hl⟩ k hk; rw [List.mem_singleton.1 hk]; exact ⟨hl, hb.lt⟩
  nodup := by rintro w v x bs ⟨b, rfl, hb, rfl, hl⟩; simp
theorem LitE.new {base : Nat} (T : TypeId) (cs : Array Value) (n : Nat) (w : World) (h : base ≤ w.heap.size) : LitE base T cs n (w.alloc (.cells cs T)) (.slice (some ⟨w.heap.size, 0, none⟩) n n) () [w.heap.size] := ⟨w.heap.size, rfl, Bx.new _ _ _, rfl, h⟩

theorem GrownAt.accept {base : Nat} {w0 wr W w5 : World} {b g n : Nat} {c : Ck} {bs : List Nat} {va vc vr vi v' : Value} {d1 d2 d3 d4 : List Nat} {x : Bool} {vs : List Value}
    (xb : Bx wr b 46 #[.int .i64 c.stack, .int .i64 c.start, va, vc, vr, vi]) (f1 : BoolsE base wr va c.accept d1) (f2 : Push2E base wr vc c.call d2) (f3 : Ints3E base wr vr c.ret d3) (f4 : Ints2E base wr vi c.inner d4)
    (hnd : (d1 ++ (d2 ++ (d3 ++ d4))).Nodup) (hnb : b ∉ d1 ++ (d2 ++ (d3 ++ d4))) (hsub : ∀ k ∈ d1 ++ (d2 ++ (d3 ++ d4)), k ∈ bs ∨ w0.heap.size ≤ k) (hT : Turned (b :: bs) w0 wr) (hb0 : base ≤ w0.heap.size) (hW : Below wr.heap.size wr W) (hn : c.accept.length = n)
    (hrow : W.ownsRow base 4 1 va n vs) (hown : w5.ownsRow base 4 1 v' (n + 1) (vs ++ [Value.bool x])) (hg : W.grownBy w5 va.ownBlock) (hv : v'.ownBlock = some g) (hat : va.ownBlock = some g ∨ g = W.heap.size) :
    GrownAt base w0 b bs (w5.setCell ⟨b, 2, none⟩ v') { c with accept := c.accept ++ [x] } := by
  have hbw := xb.lt
  have hbr := Nat.le_trans hb0 hT.size
  have hbl : ∀ k, va.ownBlock = some k → k ∈ d1 := fun k hk => by rw [f1.2, hk]; simp
  have t1 := fun k hk => (bools_ok _).lt f1 k hk
  have t2 := fun k hk => (push2_ok _).lt f2 k hk
  have t3 := fun k hk => (ints3_ok _).lt f3 k hk
  have t4 := fun k hk => (ints2_ok _).lt f4 k hk
  simp only [List.mem_append, not_or] at hnb
  obtain ⟨n1, n2, n3, n4⟩ := hnb
  have hsz := hW.size
  have hvs : vs = c.accept.flatMap fun x => [Value.bool x] := by
    have h2 := ((bools_ok _).later f1 hW).1
    rw [hn] at h2
    exact g_uniq hrow h2
  obtain ⟨e, hS, he⟩ : ∃ e, BoolsE base w5 v' (c.accept ++ [x]) e ∧ ∀ k ∈ e, k = g := by
    refine ⟨v'.ownBlock.toList, ⟨?_, rfl⟩, fun k hk => by rw [hv] at hk; simpa using hk⟩
    rw [List.length_append, List.length_singleton, hn, List.flatMap_append, ← hvs]
    exact hown
  have hold : ∀ k, k < wr.heap.size → k ∉ d1 → w5.heap[k]? = wr.heap[k]? := fun k hk hn => (hg.block k (by omega) (fun e => hn (hbl k e.symm))).trans (hW.block k hk)
  have hset : ∀ k, k ≠ b → (w5.setCell ⟨b, 2, none⟩ v').heap[k]? = w5.heap[k]? := fun k hk => Below.heap_setCell w5 ⟨b, 2, none⟩ v' k hk
  have x5 : Bx w5 b 46 #[.int .i64 c.stack, .int .i64 c.start, va, vc, vr, vi] := xb.same (hold b hbw n1)
  have x6 := x5.set 2 v'
  have hn2 := List.nodup_append.1 hnd
  have hn3 := List.nodup_append.1 hn2.2.1
  have hn4 := List.nodup_append.1 hn3.2.1
  have hgn : g ∈ d1 ∨ g = W.heap.size := by rcases hat with h | h; exact .inl (hbl g h); exact .inr h
  have hee : ∀ k ∈ e, k ∈ d1 ∨ wr.heap.size ≤ k := fun k hk => by
    have h := he k hk
    subst h
    rcases hgn with h | h
    · exact .inl h
    · exact .inr (by omega)
  have heb : b ∉ e := fun h => by rcases hee b h with h | h; exact n1 h; omega
  refine ⟨⟨e ++ (d2 ++ (d3 ++ d4)), ⟨v', vc, vr, vi, e, d2, d3, d4, x6, (bools_ok _).kept hS fun k hk => hset k (fun e' => heb (e' ▸ hk)), (push2_ok _).kept f2 fun k hk => (hset k (fun e' => n2 (e' ▸ hk))).trans (hold k (t2 k hk).2 (fun h => hn2.2.2 k h k (List.mem_append_left _ hk) rfl)), (ints3_ok _).kept f3 fun k hk => (hset k (fun e' => n3 (e' ▸ hk))).trans (hold k (t3 k hk).2 (fun h => hn2.2.2 k h k (List.mem_append_right _ (List.mem_append_left _ hk)) rfl)), (ints2_ok _).kept f4 fun k hk => (hset k (fun e' => n4 (e' ▸ hk))).trans (hold k (t4 k hk).2 (fun h => hn2.2.2 k h k (List.mem_append_right _ (List.mem_append_right _ hk)) rfl)), rfl, ?_, ?_⟩, ?_⟩, ?_, hb0⟩
  · have d : ∀ (x y : List Nat), x.Nodup → y.Nodup → (∀ b ∈ x, b ∉ y) → (x ++ y).Nodup := fun x y h1 h2 h3 => List.nodup_append.2 ⟨h1, h2, fun b hb b' hb' e => h3 b hb (e ▸ hb')⟩
    have m := (bools_ok _).nodup hS
    have z01 : ∀ k ∈ e, k ∉ d2 := fun k h1 h2 => (by rcases hee k h1 with h | h; exact hn2.2.2 k h k (List.mem_append_left _ h2) rfl; have := (t2 k h2).2; omega)
    have z02 : ∀ k ∈ e, k ∉ d3 := fun k h1 h2 => (by rcases hee k h1 with h | h; exact hn2.2.2 k h k (List.mem_append_right _ (List.mem_append_left _ h2)) rfl; have := (t3 k h2).2; omega)
    have z03 : ∀ k ∈ e, k ∉ d4 := fun k h1 h2 => (by rcases hee k h1 with h | h; exact hn2.2.2 k h k (List.mem_append_right _ (List.mem_append_right _ h2)) rfl; have := (t4 k h2).2; omega)
    have z12 : ∀ k ∈ d2, k ∉ d3 := fun k h1 h2 => hn3.2.2 k h1 k (List.mem_append_left _ h2) rfl
    have z13 : ∀ k ∈ d2, k ∉ d4 := fun k h1 h2 => hn3.2.2 k h1 k (List.mem_append_right _ h2) rfl
    have z23 : ∀ k ∈ d3, k ∉ d4 := fun k h1 h2 => hn4.2.2 k h1 k h2 rfl
    exact d _ _ m (d _ _ hn3.1 (d _ _ hn4.1 hn4.2.1 z23) (fun k h1 h2 => by rcases List.mem_append.1 h2 with h2 | h2; exact z12 k h1 h2; exact z13 k h1 h2)) (fun k h1 h2 => by
      rcases List.mem_append.1 h2 with h2 | h2
      · exact z01 k h1 h2
      · rcases List.mem_append.1 h2 with h2 | h2
        · exact z02 k h1 h2
        · exact z03 k h1 h2)
  · simp only [List.mem_append, not_or]
    exact ⟨heb, n2, n3, n4⟩
  · intro k hk
    by_cases hm : k ∈ d1 ++ (d2 ++ (d3 ++ d4))
    · exact hsub k hm
    · refine .inr (Nat.le_trans hT.size ?_)
      simp only [List.mem_append, not_or] at hk hm
      rcases hk with hk | hk | hk | hk
      · rcases hee k hk with h | h
        · exact absurd h hm.1
        · exact h
      · exact absurd hk hm.2.1
      · exact absurd hk hm.2.2.1
      · exact absurd hk hm.2.2.2
  · have h5 : Turned (b :: bs) w0 w5 := by
      refine ⟨hg.os.trans (hW.os.trans hT.os), hg.tape.trans (hW.tape.trans hT.tape), hg.output.trans (hW.output.trans hT.output), Nat.le_trans hT.size (Nat.le_trans hsz hg.size), fun k hk hn => ?_⟩
      refine (hold k (Nat.lt_of_lt_of_le hk hT.size) (fun hm => ?_)).trans (hT.block k hk hn)
      rcases hsub k (List.mem_append_left _ hm) with h | h
      · exact hn (List.mem_cons_of_mem _ h)
      · omega
    exact h5.trans (turned_at (List.mem_cons_self ..) _ _ _)

theorem GrownAt.call {base : Nat} {w0 wr W w5 : World} {b g n : Nat} {c : Ck} {bs : List Nat} {va vc vr vi v' r : Value} {d1 d2 d3 d4 β : List Nat} {x : List (Int × Int)} {vs : List Value}
    (xb : Bx wr b 46 #[.int .i64 c.stack, .int .i64 c.start, va, vc, vr, vi]) (f1 : BoolsE base wr va c.accept d1) (f2 : Push2E base wr vc c.call d2) (f3 : Ints3E base wr vr c.ret d3) (f4 : Ints2E base wr vi c.inner d4)
    (hnd : (d1 ++ (d2 ++ (d3 ++ d4))).Nodup) (hnb : b ∉ d1 ++ (d2 ++ (d3 ++ d4))) (hsub : ∀ k ∈ d1 ++ (d2 ++ (d3 ++ d4)), k ∈ bs ∨ w0.heap.size ≤ k) (hT : Turned (b :: bs) w0 wr) (hb0 : base ≤ w0.heap.size) (hW : Below wr.heap.size wr W) (hr : PushE wr.heap.size W r x β) (hn : c.call.length = n)
    (hrow : W.ownsRow base 94 1 vc n vs) (hown : w5.ownsRow base 94 1 v' (n + 1) (vs ++ [r])) (hg : W.grownBy w5 vc.ownBlock) (hv : v'.ownBlock = some g) (hat : vc.ownBlock = some g ∨ g = W.heap.size) :
    GrownAt base w0 b bs (w5.setCell ⟨b, 3, none⟩ v') { c with call := c.call ++ [x] } := by
  have hbw := xb.lt
  have hbr := Nat.le_trans hb0 hT.size
  have hbl : ∀ k, vc.ownBlock = some k → k ∈ d2 := (ManyE.held f2).choose_spec.2
  have t1 := fun k hk => (bools_ok _).lt f1 k hk
  have t2 := fun k hk => (push2_ok _).lt f2 k hk
  have t3 := fun k hk => (ints3_ok _).lt f3 k hk
  have t4 := fun k hk => (ints2_ok _).lt f4 k hk
  simp only [List.mem_append, not_or] at hnb
  obtain ⟨n1, n2, n3, n4⟩ := hnb
  have hsz := hW.size
  have tr := fun k hk => (push_ok _).lt hr k hk
  have hr2 : PushE base W r x β := pushes_base hbr _ _ _ _ hr
  obtain ⟨e, hS, he⟩ := many_grow (push_ok _) ((push2_ok _).later f2 hW) hn hrow hr2 (fun k h1 h2 => by have := (t2 k h1).2; have := (tr k h2).1; omega) hown hg hv (by rcases hat with h | h; exact .inl h; exact .inr h)
  have hold : ∀ k, k < wr.heap.size → k ∉ d2 → w5.heap[k]? = wr.heap[k]? := fun k hk hn => (hg.block k (by omega) (fun e => hn (hbl k e.symm))).trans (hW.block k hk)
  have hset : ∀ k, k ≠ b → (w5.setCell ⟨b, 3, none⟩ v').heap[k]? = w5.heap[k]? := fun k hk => Below.heap_setCell w5 ⟨b, 3, none⟩ v' k hk
  have x5 : Bx w5 b 46 #[.int .i64 c.stack, .int .i64 c.start, va, vc, vr, vi] := xb.same (hold b hbw n2)
  have x6 := x5.set 3 v'
  have hn2 := List.nodup_append.1 hnd
  have hn3 := List.nodup_append.1 hn2.2.1
  have hn4 := List.nodup_append.1 hn3.2.1
  have hgn : g ∈ d2 ∨ g = W.heap.size := by rcases hat with h | h; exact .inl (hbl g h); exact .inr h
  have hee : ∀ k ∈ e, k ∈ d2 ∨ wr.heap.size ≤ k := fun k hk => by
    rcases he k hk with h | h | h
    · exact .inl h
    · exact .inr (tr k h).1
    · subst h
      rcases hgn with h | h
      · exact .inl h
      · exact .inr (by omega)
  have heb : b ∉ e := fun h => by rcases hee b h with h | h; exact n2 h; omega
  refine ⟨⟨d1 ++ (e ++ (d3 ++ d4)), ⟨va, v', vr, vi, d1, e, d3, d4, x6, (bools_ok _).kept f1 fun k hk => (hset k (fun e' => n1 (e' ▸ hk))).trans (hold k (t1 k hk).2 (fun h => hn2.2.2 k hk k (List.mem_append_left _ h) rfl)), (push2_ok _).kept hS fun k hk => hset k (fun e' => heb (e' ▸ hk)), (ints3_ok _).kept f3 fun k hk => (hset k (fun e' => n3 (e' ▸ hk))).trans (hold k (t3 k hk).2 (fun h => hn3.2.2 k h k (List.mem_append_left _ hk) rfl)), (ints2_ok _).kept f4 fun k hk => (hset k (fun e' => n4 (e' ▸ hk))).trans (hold k (t4 k hk).2 (fun h => hn3.2.2 k h k (List.mem_append_right _ hk) rfl)), rfl, ?_, ?_⟩, ?_⟩, ?_, hb0⟩
  · have d : ∀ (x y : List Nat), x.Nodup → y.Nodup → (∀ b ∈ x, b ∉ y) → (x ++ y).Nodup := fun x y h1 h2 h3 => List.nodup_append.2 ⟨h1, h2, fun b hb b' hb' e => h3 b hb (e ▸ hb')⟩
    have m := (push2_ok _).nodup hS
    have z01 : ∀ k ∈ d1, k ∉ e := fun k h1 h2 => (by rcases hee k h2 with h | h; exact hn2.2.2 k h1 k (List.mem_append_left _ h) rfl; have := (t1 k h1).2; omega)
    have z02 : ∀ k ∈ d1, k ∉ d3 := fun k h1 h2 => hn2.2.2 k h1 k (List.mem_append_right _ (List.mem_append_left _ h2)) rfl
    have z03 : ∀ k ∈ d1, k ∉ d4 := fun k h1 h2 => hn2.2.2 k h1 k (List.mem_append_right _ (List.mem_append_right _ h2)) rfl
    have z12 : ∀ k ∈ e, k ∉ d3 := fun k h1 h2 => (by rcases hee k h1 with h | h; exact hn3.2.2 k h k (List.mem_append_left _ h2) rfl; have := (t3 k h2).2; omega)
    have z13 : ∀ k ∈ e, k ∉ d4 := fun k h1 h2 => (by rcases hee k h1 with h | h; exact hn3.2.2 k h k (List.mem_append_right _ h2) rfl; have := (t4 k h2).2; omega)
    have z23 : ∀ k ∈ d3, k ∉ d4 := fun k h1 h2 => hn4.2.2 k h1 k h2 rfl
    exact d _ _ hn2.1 (d _ _ m (d _ _ hn4.1 hn4.2.1 z23) (fun k h1 h2 => by rcases List.mem_append.1 h2 with h2 | h2; exact z12 k h1 h2; exact z13 k h1 h2)) (fun k h1 h2 => by
      rcases List.mem_append.1 h2 with h2 | h2
      · exact z01 k h1 h2
      · rcases List.mem_append.1 h2 with h2 | h2
        · exact z02 k h1 h2
        · exact z03 k h1 h2)
  · simp only [List.mem_append, not_or]
    exact ⟨n1, heb, n3, n4⟩
  · intro k hk
    by_cases hm : k ∈ d1 ++ (d2 ++ (d3 ++ d4))
    · exact hsub k hm
    · refine .inr (Nat.le_trans hT.size ?_)
      simp only [List.mem_append, not_or] at hk hm
      rcases hk with hk | hk | hk | hk
      · exact absurd hk hm.1
      · rcases hee k hk with h | h
        · exact absurd h hm.2.1
        · exact h
      · exact absurd hk hm.2.2.1
      · exact absurd hk hm.2.2.2
  · have h5 : Turned (b :: bs) w0 w5 := by
      refine ⟨hg.os.trans (hW.os.trans hT.os), hg.tape.trans (hW.tape.trans hT.tape), hg.output.trans (hW.output.trans hT.output), Nat.le_trans hT.size (Nat.le_trans hsz hg.size), fun k hk hn => ?_⟩
      refine (hold k (Nat.lt_of_lt_of_le hk hT.size) (fun hm => ?_)).trans (hT.block k hk hn)
      rcases hsub k (List.mem_append_right _ (List.mem_append_left _ hm)) with h | h
      · exact hn (List.mem_cons_of_mem _ h)
      · omega
    exact h5.trans (turned_at (List.mem_cons_self ..) _ _ _)

theorem GrownAt.ret {base : Nat} {w0 wr W w5 : World} {b g n : Nat} {c : Ck} {bs : List Nat} {va vc vr vi v' r : Value} {d1 d2 d3 d4 β : List Nat} {x : List (List Int)} {vs : List Value}
    (xb : Bx wr b 46 #[.int .i64 c.stack, .int .i64 c.start, va, vc, vr, vi]) (f1 : BoolsE base wr va c.accept d1) (f2 : Push2E base wr vc c.call d2) (f3 : Ints3E base wr vr c.ret d3) (f4 : Ints2E base wr vi c.inner d4)
    (hnd : (d1 ++ (d2 ++ (d3 ++ d4))).Nodup) (hnb : b ∉ d1 ++ (d2 ++ (d3 ++ d4))) (hsub : ∀ k ∈ d1 ++ (d2 ++ (d3 ++ d4)), k ∈ bs ∨ w0.heap.size ≤ k) (hT : Turned (b :: bs) w0 wr) (hb0 : base ≤ w0.heap.size) (hW : Below wr.heap.size wr W) (hr : Ints2E wr.heap.size W r x β) (hn : c.ret.length = n)
    (hrow : W.ownsRow base 38 1 vr n vs) (hown : w5.ownsRow base 38 1 v' (n + 1) (vs ++ [r])) (hg : W.grownBy w5 vr.ownBlock) (hv : v'.ownBlock = some g) (hat : vr.ownBlock = some g ∨ g = W.heap.size) :
    GrownAt base w0 b bs (w5.setCell ⟨b, 4, none⟩ v') { c with ret := c.ret ++ [x] } := by
  have hbw := xb.lt
  have hbr := Nat.le_trans hb0 hT.size
  have hbl : ∀ k, vr.ownBlock = some k → k ∈ d3 := (ManyE.held f3).choose_spec.2
  have t1 := fun k hk => (bools_ok _).lt f1 k hk
  have t2 := fun k hk => (push2_ok _).lt f2 k hk
  have t3 := fun k hk => (ints3_ok _).lt f3 k hk
  have t4 := fun k hk => (ints2_ok _).lt f4 k hk
  simp only [List.mem_append, not_or] at hnb
  obtain ⟨n1, n2, n3, n4⟩ := hnb
  have hsz := hW.size
  have tr := fun k hk => (ints2_ok _).lt hr k hk
  have hr2 : Ints2E base W r x β := ints2_base hbr _ _ _ _ hr
  obtain ⟨e, hS, he⟩ := many_grow (ints2_ok _) ((ints3_ok _).later f3 hW) hn hrow hr2 (fun k h1 h2 => by have := (t3 k h1).2; have := (tr k h2).1; omega) hown hg hv (by rcases hat with h | h; exact .inl h; exact .inr h)
  have hold : ∀ k, k < wr.heap.size → k ∉ d3 → w5.heap[k]? = wr.heap[k]? := fun k hk hn => (hg.block k (by omega) (fun e => hn (hbl k e.symm))).trans (hW.block k hk)
  have hset : ∀ k, k ≠ b → (w5.setCell ⟨b, 4, none⟩ v').heap[k]? = w5.heap[k]? := fun k hk => Below.heap_setCell w5 ⟨b, 4, none⟩ v' k hk
  have x5 : Bx w5 b 46 #[.int .i64 c.stack, .int .i64 c.start, va, vc, vr, vi] := xb.same (hold b hbw n3)
  have x6 := x5.set 4 v'
  have hn2 := List.nodup_append.1 hnd
  have hn3 := List.nodup_append.1 hn2.2.1
  have hn4 := List.nodup_append.1 hn3.2.1
  have hgn : g ∈ d3 ∨ g = W.heap.size := by rcases hat with h | h; exact .inl (hbl g h); exact .inr h
  have hee : ∀ k ∈ e, k ∈ d3 ∨ wr.heap.size ≤ k := fun k hk => by
    rcases he k hk with h | h | h
    · exact .inl h
    · exact .inr (tr k h).1
    · subst h
      rcases hgn with h | h
      · exact .inl h
      · exact .inr (by omega)
  have heb : b ∉ e := fun h => by rcases hee b h with h | h; exact n3 h; omega
  refine ⟨⟨d1 ++ (d2 ++ (e ++ d4)), ⟨va, vc, v', vi, d1, d2, e, d4, x6, (bools_ok _).kept f1 fun k hk => (hset k (fun e' => n1 (e' ▸ hk))).trans (hold k (t1 k hk).2 (fun h => hn2.2.2 k hk k (List.mem_append_right _ (List.mem_append_left _ h)) rfl)), (push2_ok _).kept f2 fun k hk => (hset k (fun e' => n2 (e' ▸ hk))).trans (hold k (t2 k hk).2 (fun h => hn3.2.2 k hk k (List.mem_append_left _ h) rfl)), (ints3_ok _).kept hS fun k hk => hset k (fun e' => heb (e' ▸ hk)), (ints2_ok _).kept f4 fun k hk => (hset k (fun e' => n4 (e' ▸ hk))).trans (hold k (t4 k hk).2 (fun h => hn4.2.2 k h k hk rfl)), rfl, ?_, ?_⟩, ?_⟩, ?_, hb0⟩
  · have d : ∀ (x y : List Nat), x.Nodup → y.Nodup → (∀ b ∈ x, b ∉ y) → (x ++ y).Nodup := fun x y h1 h2 h3 => List.nodup_append.2 ⟨h1, h2, fun b hb b' hb' e => h3 b hb (e ▸ hb')⟩
    have m := (ints3_ok _).nodup hS
    have z01 : ∀ k ∈ d1, k ∉ d2 := fun k h1 h2 => hn2.2.2 k h1 k (List.mem_append_left _ h2) rfl
    have z02 : ∀ k ∈ d1, k ∉ e := fun k h1 h2 => (by rcases hee k h2 with h | h; exact hn2.2.2 k h1 k (List.mem_append_right _ (List.mem_append_left _ h)) rfl; have := (t1 k h1).2; omega)
    have z03 : ∀ k ∈ d1, k ∉ d4 := fun k h1 h2 => hn2.2.2 k h1 k (List.mem_append_right _ (List.mem_append_right _ h2)) rfl
    have z12 : ∀ k ∈ d2, k ∉ e := fun k h1 h2 => (by rcases hee k h2 with h | h; exact hn3.2.2 k h1 k (List.mem_append_left _ h) rfl; have := (t2 k h1).2; omega)
    have z13 : ∀ k ∈ d2, k ∉ d4 := fun k h1 h2 => hn3.2.2 k h1 k (List.mem_append_right _ h2) rfl
    have z23 : ∀ k ∈ e, k ∉ d4 := fun k h1 h2 => (by rcases hee k h1 with h | h; exact hn4.2.2 k h k h2 rfl; have := (t4 k h2).2; omega)
    exact d _ _ hn2.1 (d _ _ hn3.1 (d _ _ m hn4.2.1 z23) (fun k h1 h2 => by rcases List.mem_append.1 h2 with h2 | h2; exact z12 k h1 h2; exact z13 k h1 h2)) (fun k h1 h2 => by
      rcases List.mem_append.1 h2 with h2 | h2
      · exact z01 k h1 h2
      · rcases List.mem_append.1 h2 with h2 | h2
        · exact z02 k h1 h2
        · exact z03 k h1 h2)
  · simp only [List.mem_append, not_or]
    exact ⟨n1, n2, heb, n4⟩
  · intro k hk
    by_cases hm : k ∈ d1 ++ (d2 ++ (d3 ++ d4))
    · exact hsub k hm
    · refine .inr (Nat.le_trans hT.size ?_)
      simp only [List.mem_append, not_or] at hk hm
      rcases hk with hk | hk | hk | hk
      · exact absurd hk hm.1
      · exact absurd hk hm.2.1
      · rcases hee k hk with h | h
        · exact absurd h hm.2.2.1
        · exact h
      · exact absurd hk hm.2.2.2
  · have h5 : Turned (b :: bs) w0 w5 := by
      refine ⟨hg.os.trans (hW.os.trans hT.os), hg.tape.trans (hW.tape.trans hT.tape), hg.output.trans (hW.output.trans hT.output), Nat.le_trans hT.size (Nat.le_trans hsz hg.size), fun k hk hn => ?_⟩
      refine (hold k (Nat.lt_of_lt_of_le hk hT.size) (fun hm => ?_)).trans (hT.block k hk hn)
      rcases hsub k (List.mem_append_right _ (List.mem_append_right _ (List.mem_append_left _ hm))) with h | h
      · exact hn (List.mem_cons_of_mem _ h)
      · omega
    exact h5.trans (turned_at (List.mem_cons_self ..) _ _ _)

theorem GrownAt.inner {base : Nat} {w0 wr W w5 : World} {b g n : Nat} {c : Ck} {bs : List Nat} {va vc vr vi v' r : Value} {d1 d2 d3 d4 β : List Nat} {x : List Int} {vs : List Value}
    (xb : Bx wr b 46 #[.int .i64 c.stack, .int .i64 c.start, va, vc, vr, vi]) (f1 : BoolsE base wr va c.accept d1) (f2 : Push2E base wr vc c.call d2) (f3 : Ints3E base wr vr c.ret d3) (f4 : Ints2E base wr vi c.inner d4)
    (hnd : (d1 ++ (d2 ++ (d3 ++ d4))).Nodup) (hnb : b ∉ d1 ++ (d2 ++ (d3 ++ d4))) (hsub : ∀ k ∈ d1 ++ (d2 ++ (d3 ++ d4)), k ∈ bs ∨ w0.heap.size ≤ k) (hT : Turned (b :: bs) w0 wr) (hb0 : base ≤ w0.heap.size) (hW : Below wr.heap.size wr W) (hr : IntsE wr.heap.size W r x β) (hn : c.inner.length = n)
    (hrow : W.ownsRow base 22 1 vi n vs) (hown : w5.ownsRow base 22 1 v' (n + 1) (vs ++ [r])) (hg : W.grownBy w5 vi.ownBlock) (hv : v'.ownBlock = some g) (hat : vi.ownBlock = some g ∨ g = W.heap.size) :
    GrownAt base w0 b bs (w5.setCell ⟨b, 5, none⟩ v') { c with inner := c.inner ++ [x] } := by
  have hbw := xb.lt
  have hbr := Nat.le_trans hb0 hT.size
  have hbl : ∀ k, vi.ownBlock = some k → k ∈ d4 := (ManyE.held f4).choose_spec.2
  have t1 := fun k hk => (bools_ok _).lt f1 k hk
  have t2 := fun k hk => (push2_ok _).lt f2 k hk
  have t3 := fun k hk => (ints3_ok _).lt f3 k hk
  have t4 := fun k hk => (ints2_ok _).lt f4 k hk
  simp only [List.mem_append, not_or] at hnb
  obtain ⟨n1, n2, n3, n4⟩ := hnb
  have hsz := hW.size
  have tr := fun k hk => (ints_ok _).lt hr k hk
  have hr2 : IntsE base W r x β := ints_base hbr _ _ _ _ hr
  obtain ⟨e, hS, he⟩ := many_grow (ints_ok _) ((ints2_ok _).later f4 hW) hn hrow hr2 (fun k h1 h2 => by have := (t4 k h1).2; have := (tr k h2).1; omega) hown hg hv (by rcases hat with h | h; exact .inl h; exact .inr h)
  have hold : ∀ k, k < wr.heap.size → k ∉ d4 → w5.heap[k]? = wr.heap[k]? := fun k hk hn => (hg.block k (by omega) (fun e => hn (hbl k e.symm))).trans (hW.block k hk)
  have hset : ∀ k, k ≠ b → (w5.setCell ⟨b, 5, none⟩ v').heap[k]? = w5.heap[k]? := fun k hk => Below.heap_setCell w5 ⟨b, 5, none⟩ v' k hk
  have x5 : Bx w5 b 46 #[.int .i64 c.stack, .int .i64 c.start, va, vc, vr, vi] := xb.same (hold b hbw n4)
  have x6 := x5.set 5 v'
  have hn2 := List.nodup_append.1 hnd
  have hn3 := List.nodup_append.1 hn2.2.1
  have hn4 := List.nodup_append.1 hn3.2.1
  have hgn : g ∈ d4 ∨ g = W.heap.size := by rcases hat with h | h; exact .inl (hbl g h); exact .inr h
  have hee : ∀ k ∈ e, k ∈ d4 ∨ wr.heap.size ≤ k := fun k hk => by
    rcases he k hk with h | h | h
    · exact .inl h
    · exact .inr (tr k h).1
    · subst h
      rcases hgn with h | h
      · exact .inl h
      · exact .inr (by omega)
  have heb : b ∉ e := fun h => by rcases hee b h with h | h; exact n4 h; omega
  refine ⟨⟨d1 ++ (d2 ++ (d3 ++ e)), ⟨va, vc, vr, v', d1, d2, d3, e, x6, (bools_ok _).kept f1 fun k hk => (hset k (fun e' => n1 (e' ▸ hk))).trans (hold k (t1 k hk).2 (fun h => hn2.2.2 k hk k (List.mem_append_right _ (List.mem_append_right _ h)) rfl)), (push2_ok _).kept f2 fun k hk => (hset k (fun e' => n2 (e' ▸ hk))).trans (hold k (t2 k hk).2 (fun h => hn3.2.2 k hk k (List.mem_append_right _ h) rfl)), (ints3_ok _).kept f3 fun k hk => (hset k (fun e' => n3 (e' ▸ hk))).trans (hold k (t3 k hk).2 (fun h => hn4.2.2 k hk k h rfl)), (ints2_ok _).kept hS fun k hk => hset k (fun e' => heb (e' ▸ hk)), rfl, ?_, ?_⟩, ?_⟩, ?_, hb0⟩
  · have d : ∀ (x y : List Nat), x.Nodup → y.Nodup → (∀ b ∈ x, b ∉ y) → (x ++ y).Nodup := fun x y h1 h2 h3 => List.nodup_append.2 ⟨h1, h2, fun b hb b' hb' e => h3 b hb (e ▸ hb')⟩
    have m := (ints2_ok _).nodup hS
    have z01 : ∀ k ∈ d1, k ∉ d2 := fun k h1 h2 => hn2.2.2 k h1 k (List.mem_append_left _ h2) rfl
    have z02 : ∀ k ∈ d1, k ∉ d3 := fun k h1 h2 => hn2.2.2 k h1 k (List.mem_append_right _ (List.mem_append_left _ h2)) rfl
    have z03 : ∀ k ∈ d1, k ∉ e := fun k h1 h2 => (by rcases hee k h2 with h | h; exact hn2.2.2 k h1 k (List.mem_append_right _ (List.mem_append_right _ h)) rfl; have := (t1 k h1).2; omega)
    have z12 : ∀ k ∈ d2, k ∉ d3 := fun k h1 h2 => hn3.2.2 k h1 k (List.mem_append_left _ h2) rfl
    have z13 : ∀ k ∈ d2, k ∉ e := fun k h1 h2 => (by rcases hee k h2 with h | h; exact hn3.2.2 k h1 k (List.mem_append_right _ h) rfl; have := (t2 k h1).2; omega)
    have z23 : ∀ k ∈ d3, k ∉ e := fun k h1 h2 => (by rcases hee k h2 with h | h; exact hn4.2.2 k h1 k h rfl; have := (t3 k h1).2; omega)
    exact d _ _ hn2.1 (d _ _ hn3.1 (d _ _ hn4.1 m z23) (fun k h1 h2 => by rcases List.mem_append.1 h2 with h2 | h2; exact z12 k h1 h2; exact z13 k h1 h2)) (fun k h1 h2 => by
      rcases List.mem_append.1 h2 with h2 | h2
      · exact z01 k h1 h2
      · rcases List.mem_append.1 h2 with h2 | h2
        · exact z02 k h1 h2
        · exact z03 k h1 h2)
  · simp only [List.mem_append, not_or]
    exact ⟨n1, n2, n3, heb⟩
  · intro k hk
    by_cases hm : k ∈ d1 ++ (d2 ++ (d3 ++ d4))
    · exact hsub k hm
    · refine .inr (Nat.le_trans hT.size ?_)
      simp only [List.mem_append, not_or] at hk hm
      rcases hk with hk | hk | hk | hk
      · exact absurd hk hm.1
      · exact absurd hk hm.2.1
      · exact absurd hk hm.2.2.1
      · rcases hee k hk with h | h
        · exact absurd h hm.2.2.2
        · exact h
  · have h5 : Turned (b :: bs) w0 w5 := by
      refine ⟨hg.os.trans (hW.os.trans hT.os), hg.tape.trans (hW.tape.trans hT.tape), hg.output.trans (hW.output.trans hT.output), Nat.le_trans hT.size (Nat.le_trans hsz hg.size), fun k hk hn => ?_⟩
      refine (hold k (Nat.lt_of_lt_of_le hk hT.size) (fun hm => ?_)).trans (hT.block k hk hn)
      rcases hsub k (List.mem_append_right _ (List.mem_append_right _ (List.mem_append_right _ hm))) with h | h
      · exact hn (List.mem_cons_of_mem _ h)
      · omega
    exact h5.trans (turned_at (List.mem_cons_self ..) _ _ _)
end Go.Proofs.Yticmekdfdilcpaa
