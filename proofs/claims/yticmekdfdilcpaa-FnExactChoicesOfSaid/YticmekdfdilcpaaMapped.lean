/- mapped of the program: what a function makes of each element. -/
import Derived.Test.YticmekdfdilcpaaGrow
import Derived.Test.YticmekdfdilcpaaBox
import Derived.Test.YticmekdfdilcpaaRows3
import Derived.Deep.AppendLies
import Derived.OwnWalk
namespace Go.Proofs.Yticmekdfdilcpaa
open Go.RowKit
set_option linter.unusedVariables false

/-- What has been made of the first j elements. -/
def mapT {α β : Type} (F : α → β) (xs : List α) (j : Nat) : List β := (xs.take j).map F
theorem map_take_succ {α β : Type} {xs : List α} {j : Nat} {x : α} (F : α → β) (h : xs[j]? = some x) : mapT F xs (j + 1) = mapT F xs j ++ [F x] := by
  unfold mapT; rw [List.take_add_one, h]; simp
theorem len_map_take {α β : Type} {xs : List α} {j : Nat} (F : α → β) (h : j ≤ xs.length) : (mapT F xs j).length = j := by unfold mapT; simp; omega
theorem one_sing {v : Value} (h : v.oneCell' = true) : ∀ u ∈ [v], u.oneCell' = true := by intro u hu; rw [List.mem_singleton.1 hu]; exact h
theorem one_pair {x y : Int} : ∀ u ∈ [Value.int .i64 x, Value.int .i64 y], u.oneCell' = true := by
  intro u hu
  rcases List.mem_cons.1 hu with rfl | hu
  · rfl
  · rw [List.mem_singleton.1 hu]; rfl
theorem below_grown {w w' : World} (h : w.grownBy w' none) : Below w.heap.size w w' := ⟨h.os, h.tape, h.output, h.size, fun k hk => h.block k hk (by simp)⟩

set_option maxHeartbeats 3200000 in
set_option maxRecDepth 100000 in
theorem mapped_int_int {base : Nat} {v : Value} {xs : List (Int)} {bs : List Nat} (w : World) (F : (Int) → Int) (f : FuncId) (cap : Array Value) (hcf : ∀ args w, (callFunc f args).run Try.prog w = .ok (.enter f args) w) (hn : xs.length ≤ 1048576) (h : IntsE base w v xs bs)
    (hf : ∀ x ∈ xs, ∀ W, Below w.heap.size w W → Calls Try.prog f (#[.int .i64 x] ++ cap) W (fun e w' => e = .returned (.int .i64 (F x)) ∧ Below W.heap.size W w')) :
    Calls Try.prog 110 #[v, .func (.func f) #[] cap] w (NewPost IntsE (xs.map F) w) := by
  obtain ⟨i0, hi, hz0, hz1, hz2⟩ := info_parts toInfo_i64
  obtain ⟨A, ka, rfl⟩ := RowE.slice h
  have Hcf := Lib.hid hcf
  clear hcf
  have Hf := Lib.hid hf
  have Hh := Lib.hid h
  have Hm := Lib.hid (fun (j : Nat) (x : Int) (hx : xs[j]? = some x) => map_take_succ F hx)
  have Hl := Lib.hid (fun (j : Nat) (hj : j ≤ xs.length) => len_map_take F hj)
  have Ht := Lib.hid (show mapT F xs xs.length = xs.map F by unfold mapT; rw [List.take_length])
  have Hx := Lib.hid (fun (j : Nat) (hj : j < xs.length) => (⟨_, List.getElem?_eq_getElem hj⟩ : ∃ x, xs[j]? = some x))
  obtain ⟨n, hn'⟩ : ∃ n, n = xs.length := ⟨_, rfl⟩
  rw [← hn'] at hn Hl Hx Ht Hh ⊢
  have Hn := Lib.hid hn'
  clear hf h hn'
  go_enter Try.func110, Try.ntmps110
  go_wp2_with (refine wpList_make_own _ rfl _ _ 22 rfl w.heap.size 2 i0 (.int .i64 0) 1 Try.underlying22 hi hz0 hz1 .i64 .i64 _ n rfl rfl rfl ?b2 ?b3 (Nat.le_refl _) ?_)
  case b2 => rw [hz2]; omega
  case b3 => unfold maxLen; omega
  intro w0 hown0 hg0
  have hB0 := below_grown hg0
  clear hg0
  have hS0 : IntsE w.heap.size w0 (.slice (some ⟨w.heap.size, 0, none⟩) 0 n) (mapT F xs 0) [w.heap.size] := ⟨hown0, rfl⟩
  have HS0 := Lib.hid (And.intro hS0 hB0)
  clear hown0 hS0 hB0
  go_wp2_with fail
  go_loopw [5, 13] (fun sm i wr => ∃ j : Nat, j ≤ n ∧ i = .int .i64 j ∧ (∃ bs, IntsE w.heap.size wr sm (mapT F xs j) bs) ∧ Below w.heap.size w wr) (fun _ i _ => n - (intOf i).toNat)
  case atStart => exact ⟨0, Nat.zero_le _, rfl, ⟨_, HS0.out.1⟩, HS0.out.2⟩
  case round =>
    obtain ⟨j, hj, rfl, ⟨bs, hS⟩, hB⟩ := hrel
    obtain ⟨A', ca, e'⟩ := RowE.slice hS
    rw [Hl.out j hj] at e'
    subst e'
    by_cases hlt : j < n
    · obtain ⟨x, hx⟩ := Hx.out j hlt
      have hmem := List.mem_of_getElem? hx
      have hwr := (ints_ok _).later Hh.out hB
      obtain ⟨g, hAg, hg, _⟩ := RowE.head hwr (by rw [← Hn.out]; exact hlt)
      subst hAg
      have hc : wr.cell? ⟨g, j, none⟩ = _ := IntsE.cell' hwr hx
      have hq := Hf.out x hmem wr hB
      have Hq := Lib.hid hq
      have Hy := Lib.hid (Hm.out j x hx)
      have HS := Lib.hid (And.intro hS hB)
      clear hq hx hmem hwr hS hB
      have hcf := Hcf.out
      go_wp2_with fail
      clear hcf
      refine Hq.out.mono ?_
      rintro e w1 ⟨rfl, hb1⟩
      have hS1 := (ints_ok _).later HS.out.1 hb1
      have hB1 := HS.out.2.trans (hb1.mono HS.out.2.size)
      have hrow := hS1.1
      rw [Hl.out j hj] at hrow
      have Hb := Lib.hid (And.intro hS1 (And.intro hB1 hrow))
      have hz3 := hB1.size
      clear hS1 hB1 hrow hb1 Hq
      obtain ⟨y, hy⟩ : ∃ y, y = F x := ⟨_, rfl⟩
      rw [← hy]
      have HF := Lib.hid hy.symm
      clear hy
      go_wp2_with (at_builtin; refine wpList_append_lies _ rfl _ _ 22 rfl w.heap.size 2 i0 (.int .i64 0) 1 8 Try.underlying22 hi hz0 hz1 hz2 rfl (by decide) _ j _ rfl (Hb.out.2.2.alloc _) ⟨w1.heap.size, 0, none⟩ 1 1 [.int .i64 y] rfl rfl (World.news_of_block (Bx.new w1 _ _)) (one_sing rfl) (by decide) ?c1 ?c2 ?c3 _ rfl ?_)
      case c1 => unfold maxLen; omega
      case c2 => omega
      case c3 => simp; omega
      intro g1 cap1 w5 hown hg5 hat hltg
      have hB6 : Below w.heap.size w w5 := (Hb.out.2.1.alloc Hb.out.2.1.size _).grown hg5 (by simp; omega) (fun k hk => ((ints_ok _).lt Hb.out.1 k (by rw [Hb.out.1.2, hk]; simp)).1)
      have hS6 : IntsE w.heap.size w5 (.slice (some ⟨g1, 0, none⟩) (j + 1) cap1) (mapT F xs (j + 1)) [g1] := by
        rw [Hy.out, HF.out]
        refine ⟨?_, rfl⟩
        rw [List.length_append, Hl.out j hj, List.flatMap_append]
        exact hown
      clear hown hg5 hat
      go_wp2
      go_roundw
      case rel => exact ⟨j + 1, by omega, by go_num, ⟨_, hS6⟩, hB6⟩
      case measure => simp [intOf]; omega
    · have e : j = n := by omega
      subst e
      rw [Ht.out] at hS
      go_wp2
      go_ret
      exact ⟨_, bs, rfl, hS, hB⟩

set_option maxHeartbeats 3200000 in
set_option maxRecDepth 100000 in
theorem mapped_push_push {base : Nat} {v : Value} {xs : List (Int × Int)} {bs : List Nat} (w : World) (F : (Int × Int) → Int × Int) (f : FuncId) (cap : Array Value) (hcf : ∀ args w, (callFunc f args).run Try.prog w = .ok (.enter f args) w) (hn : xs.length ≤ 1048576) (h : PushE base w v xs bs)
    (hf : ∀ x ∈ xs, ∀ W, Below w.heap.size w W → Calls Try.prog f (#[.agg #[.int .i64 x.1, .int .i64 x.2]] ++ cap) W (fun e w' => e = .returned (.agg #[.int .i64 (F x).1, .int .i64 (F x).2]) ∧ Below W.heap.size W w')) :
    Calls Try.prog 113 #[v, .func (.func f) #[] cap] w (NewPost PushE (xs.map F) w) := by
  obtain ⟨i0, hi, hz0, hz1, hz2⟩ := info_parts toInfo_push
  obtain ⟨A, ka, rfl⟩ := RowE.slice h
  have Hcf := Lib.hid hcf
  clear hcf
  have Hf := Lib.hid hf
  have Hh := Lib.hid h
  have Hm := Lib.hid (fun (j : Nat) (x : Int × Int) (hx : xs[j]? = some x) => map_take_succ F hx)
  have Hl := Lib.hid (fun (j : Nat) (hj : j ≤ xs.length) => len_map_take F hj)
  have Ht := Lib.hid (show mapT F xs xs.length = xs.map F by unfold mapT; rw [List.take_length])
  have Hx := Lib.hid (fun (j : Nat) (hj : j < xs.length) => (⟨_, List.getElem?_eq_getElem hj⟩ : ∃ x, xs[j]? = some x))
  obtain ⟨n, hn'⟩ : ∃ n, n = xs.length := ⟨_, rfl⟩
  rw [← hn'] at hn Hl Hx Ht Hh ⊢
  have Hn := Lib.hid hn'
  clear hf h hn'
  go_enter Try.func113, Try.ntmps113
  go_wp2_with (refine wpList_make_own _ rfl _ _ 94 rfl w.heap.size 97 i0 (.agg #[.int .i64 0, .int .i64 0]) 2 Try.underlying94 hi hz0 hz1 .i64 .i64 _ n rfl rfl rfl ?b2 ?b3 (Nat.le_refl _) ?_)
  case b2 => rw [hz2]; omega
  case b3 => unfold maxLen; omega
  intro w0 hown0 hg0
  have hB0 := below_grown hg0
  clear hg0
  have hS0 : PushE w.heap.size w0 (.slice (some ⟨w.heap.size, 0, none⟩) 0 n) (mapT F xs 0) [w.heap.size] := ⟨hown0, rfl⟩
  have HS0 := Lib.hid (And.intro hS0 hB0)
  clear hown0 hS0 hB0
  go_wp2_with fail
  go_loopw [5, 13] (fun sm i wr => ∃ j : Nat, j ≤ n ∧ i = .int .i64 j ∧ (∃ bs, PushE w.heap.size wr sm (mapT F xs j) bs) ∧ Below w.heap.size w wr) (fun _ i _ => n - (intOf i).toNat)
  case atStart => exact ⟨0, Nat.zero_le _, rfl, ⟨_, HS0.out.1⟩, HS0.out.2⟩
  case round =>
    obtain ⟨j, hj, rfl, ⟨bs, hS⟩, hB⟩ := hrel
    obtain ⟨A', ca, e'⟩ := RowE.slice hS
    rw [Hl.out j hj] at e'
    subst e'
    by_cases hlt : j < n
    · obtain ⟨x, hx⟩ := Hx.out j hlt
      have hmem := List.mem_of_getElem? hx
      have hwr := (push_ok _).later Hh.out hB
      obtain ⟨g, hAg, hg, _⟩ := RowE.head hwr (by rw [← Hn.out]; exact hlt)
      subst hAg
      have hc : wr.cell? ⟨g, j * 2, none⟩ = _ := (PushE.cell' hwr hx).1
      have hc' : wr.cell? ⟨g, j * 2 + 1, none⟩ = _ := (PushE.cell' hwr hx).2
      have hnx := (Below.refl wr.heap.size wr).alloc (Nat.le_refl _) (.cells #[.int .i64 x.1, .int .i64 x.2] 97)
      replace hS := (push_ok _).later hS hnx
      replace hB := hB.trans (hnx.mono hB.size)
      have hq := Hf.out x hmem _ hB
      have Hq := Lib.hid hq
      have Hy := Lib.hid (Hm.out j x hx)
      have HS := Lib.hid (And.intro hS hB)
      clear hq hx hmem hwr hS hB hnx
      have hcf := Hcf.out
      go_wp2_with fail
      clear hcf
      refine Hq.out.mono ?_
      rintro e w1 ⟨rfl, hb1⟩
      have hS1 := (push_ok _).later HS.out.1 hb1
      have hB1 := HS.out.2.trans (hb1.mono HS.out.2.size)
      have hrow := hS1.1
      rw [Hl.out j hj] at hrow
      have Hb := Lib.hid (And.intro hS1 (And.intro hB1 hrow))
      have hz3 := hB1.size
      clear hS1 hB1 hrow hb1 Hq
      obtain ⟨y0, hy0⟩ : ∃ y, y = (F x).1 := ⟨_, rfl⟩
      obtain ⟨y1, hy1⟩ : ∃ y, y = (F x).2 := ⟨_, rfl⟩
      have hy : F x = (y0, y1) := by rw [hy0, hy1]
      rw [← hy0, ← hy1]
      have HF := Lib.hid hy
      clear hy hy0 hy1
      go_wp2_with (at_builtin; refine wpList_append_lies _ rfl _ _ 94 rfl w.heap.size 97 i0 (.agg #[.int .i64 0, .int .i64 0]) 2 16 Try.underlying94 hi hz0 hz1 hz2 rfl (by decide) _ j _ rfl (Hb.out.2.2.alloc _) ⟨w1.heap.size, 0, none⟩ 1 1 [.int .i64 y0, .int .i64 y1] rfl rfl (World.news_of_block (Bx.new w1 _ _)) one_pair (by decide) ?c1 ?c2 ?c3 _ rfl ?_)
      case c1 => unfold maxLen; omega
      case c2 => omega
      case c3 => simp; omega
      intro g1 cap1 w5 hown hg5 hat hltg
      have hB6 : Below w.heap.size w w5 := (Hb.out.2.1.alloc Hb.out.2.1.size _).grown hg5 (by simp; omega) (fun k hk => ((push_ok _).lt Hb.out.1 k (by rw [Hb.out.1.2, hk]; simp)).1)
      have hS6 : PushE w.heap.size w5 (.slice (some ⟨g1, 0, none⟩) (j + 1) cap1) (mapT F xs (j + 1)) [g1] := by
        rw [Hy.out, HF.out]
        refine ⟨?_, rfl⟩
        rw [List.length_append, Hl.out j hj, List.flatMap_append]
        exact hown
      clear hown hg5 hat
      go_wp2
      go_roundw
      case rel => exact ⟨j + 1, by omega, by go_num, ⟨_, hS6⟩, hB6⟩
      case measure => simp [intOf]; omega
    · have e : j = n := by omega
      subst e
      rw [Ht.out] at hS
      go_wp2
      go_ret
      exact ⟨_, bs, rfl, hS, hB⟩

set_option maxHeartbeats 3200000 in
set_option maxRecDepth 100000 in
theorem mapped_int_ints {base : Nat} {v : Value} {xs : List (Int)} {bs : List Nat} (w : World) (F : (Int) → List Int) (f : FuncId) (cap : Array Value) (hcf : ∀ args w, (callFunc f args).run Try.prog w = .ok (.enter f args) w) (hn : xs.length ≤ 1048576) (h : IntsE base w v xs bs)
    (hf : ∀ x ∈ xs, ∀ W, Below w.heap.size w W → Calls Try.prog f (#[.int .i64 x] ++ cap) W (NewPost IntsE (F x) W)) :
    Calls Try.prog 103 #[v, .func (.func f) #[] cap] w (NewPost Ints2E (xs.map F) w) := by
  obtain ⟨i0, hi, hz0, hz1, hz2⟩ := info_parts toInfo_ints
  obtain ⟨A, ka, rfl⟩ := RowE.slice h
  have Hcf := Lib.hid hcf
  clear hcf
  have Hf := Lib.hid hf
  have Hh := Lib.hid h
  have Hm := Lib.hid (fun (j : Nat) (x : Int) (hx : xs[j]? = some x) => map_take_succ F hx)
  have Hl := Lib.hid (fun (j : Nat) (hj : j ≤ xs.length) => len_map_take F hj)
  have Ht := Lib.hid (show mapT F xs xs.length = xs.map F by unfold mapT; rw [List.take_length])
  have Hx := Lib.hid (fun (j : Nat) (hj : j < xs.length) => (⟨_, List.getElem?_eq_getElem hj⟩ : ∃ x, xs[j]? = some x))
  obtain ⟨n, hn'⟩ : ∃ n, n = xs.length := ⟨_, rfl⟩
  rw [← hn'] at hn Hl Hx Ht Hh ⊢
  have Hn := Lib.hid hn'
  clear hf h hn'
  go_enter Try.func103, Try.ntmps103
  go_wp2_with (refine wpList_make_own _ rfl _ _ 38 rfl w.heap.size 22 i0 (.slice none 0 0) 1 Try.underlying38 hi hz0 hz1 .i64 .i64 _ n rfl rfl rfl ?b2 ?b3 (Nat.le_refl _) ?_)
  case b2 => rw [hz2]; omega
  case b3 => unfold maxLen; omega
  intro w0 hown0 hg0
  have hB0 := below_grown hg0
  clear hg0
  have hS0 : Ints2E w.heap.size w0 (.slice (some ⟨w.heap.size, 0, none⟩) 0 n) (mapT F xs 0) [w.heap.size] := ⟨[], [], hown0, rfl, fun j x u cs h => by simp [mapT] at h, by simp [Value.ownBlock], by simp⟩
  have HS0 := Lib.hid (And.intro hS0 hB0)
  clear hown0 hS0 hB0
  go_wp2_with fail
  go_loopw [5, 13] (fun sm i wr => ∃ j : Nat, j ≤ n ∧ i = .int .i64 j ∧ (∃ bs, Ints2E w.heap.size wr sm (mapT F xs j) bs) ∧ Below w.heap.size w wr) (fun _ i _ => n - (intOf i).toNat)
  case atStart => exact ⟨0, Nat.zero_le _, rfl, ⟨_, HS0.out.1⟩, HS0.out.2⟩
  case round =>
    obtain ⟨j, hj, rfl, ⟨bs, hS⟩, hB⟩ := hrel
    obtain ⟨A', ca, e'⟩ := ManyE.slice hS
    rw [Hl.out j hj] at e'
    subst e'
    by_cases hlt : j < n
    · obtain ⟨x, hx⟩ := Hx.out j hlt
      have hmem := List.mem_of_getElem? hx
      have hwr := (ints_ok _).later Hh.out hB
      obtain ⟨g, hAg, hg, _⟩ := RowE.head hwr (by rw [← Hn.out]; exact hlt)
      subst hAg
      have hc : wr.cell? ⟨g, j, none⟩ = _ := IntsE.cell' hwr hx
      have hq := Hf.out x hmem wr hB
      have Hq := Lib.hid hq
      have Hy := Lib.hid (Hm.out j x hx)
      have HS := Lib.hid (And.intro hS hB)
      clear hq hx hmem hwr hS hB
      have hcf := Hcf.out
      go_wp2_with fail
      clear hcf
      refine Hq.out.mono ?_
      rintro e w1 ⟨v1, cs1, rfl, hE1, hb1⟩
      have hS1 := (ints2_ok _).later HS.out.1 hb1
      have hB1 := HS.out.2.trans (hb1.mono HS.out.2.size)
      obtain ⟨vs, hrow, _⟩ := hS1.held
      rw [Hl.out j hj] at hrow
      have hd : ∀ b ∈ bs, b ∉ cs1 := fun b h1 h2 => by have t1 := ((ints2_ok _).lt HS.out.1 b h1).2; have t2 := ((ints_ok _).lt hE1 b h2).1; omega
      have hE2 : IntsE w.heap.size w1 v1 (F x) cs1 := ints_base HS.out.2.size _ _ _ _ hE1
      obtain ⟨A1, n1, k1, rfl⟩ : ∃ A1 n1 k1, v1 = .slice A1 n1 k1 := by obtain ⟨A1, k1, e⟩ := RowE.slice hE1; exact ⟨_, _, _, e⟩
      have Hb := Lib.hid (And.intro hS1 (And.intro hB1 (And.intro hrow (And.intro hd hE2))))
      have hz3 := hB1.size
      clear hS1 hB1 hrow hd hE1 hE2 hb1 Hq
      go_wp2_with (at_builtin; refine wpList_append_lies _ rfl _ _ 38 rfl w.heap.size 22 i0 (.slice none 0 0) 1 24 Try.underlying38 hi hz0 hz1 hz2 rfl (by decide) _ j _ rfl (Hb.out.2.2.1.alloc _) ⟨w1.heap.size, 0, none⟩ 1 1 [.slice A1 n1 k1] rfl rfl (World.news_of_block (Bx.new w1 _ _)) (one_sing rfl) (by decide) ?c1 ?c2 ?c3 _ rfl ?_)
      case c1 => unfold maxLen; omega
      case c2 => omega
      case c3 => simp; omega
      intro g1 cap1 w5 hown hg5 hat hltg
      have hB6 : Below w.heap.size w w5 := (Hb.out.2.1.alloc Hb.out.2.1.size _).grown hg5 (by simp; omega) (fun k hk => ((ints2_ok _).lt Hb.out.1 k (by exact Hb.out.1.held.choose_spec.2 k hk)).1)
      obtain ⟨bs6, hS6, _⟩ := many_grow (ints_ok _) ((ints2_ok _).later Hb.out.1 ((Below.refl _ _).alloc (Nat.le_refl _) _)) (Hl.out j hj) (Hb.out.2.2.1.alloc _) ((ints_ok _).later Hb.out.2.2.2.2 ((Below.refl _ _).alloc (Nat.le_refl _) _)) Hb.out.2.2.2.1 hown hg5 rfl (by rcases hat with h | h; exact .inl h; exact .inr (by rw [World.size_alloc]; exact h))
      rw [← Hy.out] at hS6
      clear hown hg5 hat
      go_wp2
      go_roundw
      case rel => exact ⟨j + 1, by omega, by go_num, ⟨_, hS6⟩, hB6⟩
      case measure => simp [intOf]; omega
    · have e : j = n := by omega
      subst e
      rw [Ht.out] at hS
      go_wp2
      go_ret
      exact ⟨_, bs, rfl, hS, hB⟩

set_option maxHeartbeats 3200000 in
set_option maxRecDepth 100000 in
theorem mapped_ints_ints {base : Nat} {v : Value} {xs : List (List Int)} {bs : List Nat} (w : World) (F : (List Int) → List Int) (f : FuncId) (cap : Array Value) (hcf : ∀ args w, (callFunc f args).run Try.prog w = .ok (.enter f args) w) (hn : xs.length ≤ 1048576) (h : Ints2E base w v xs bs)
    (hf : ∀ x ∈ xs, ∀ W u b c, Below w.heap.size w W → IntsE b W u x c → Calls Try.prog f (#[u] ++ cap) W (NewPost IntsE (F x) W)) :
    Calls Try.prog 116 #[v, .func (.func f) #[] cap] w (NewPost Ints2E (xs.map F) w) := by
  obtain ⟨i0, hi, hz0, hz1, hz2⟩ := info_parts toInfo_ints
  obtain ⟨A, ka, rfl⟩ := ManyE.slice h
  have Hcf := Lib.hid hcf
  clear hcf
  have Hf := Lib.hid hf
  have Hh := Lib.hid h
  have Hm := Lib.hid (fun (j : Nat) (x : List Int) (hx : xs[j]? = some x) => map_take_succ F hx)
  have Hl := Lib.hid (fun (j : Nat) (hj : j ≤ xs.length) => len_map_take F hj)
  have Ht := Lib.hid (show mapT F xs xs.length = xs.map F by unfold mapT; rw [List.take_length])
  have Hx := Lib.hid (fun (j : Nat) (hj : j < xs.length) => (⟨_, List.getElem?_eq_getElem hj⟩ : ∃ x, xs[j]? = some x))
  obtain ⟨n, hn'⟩ : ∃ n, n = xs.length := ⟨_, rfl⟩
  rw [← hn'] at hn Hl Hx Ht Hh ⊢
  have Hn := Lib.hid hn'
  clear hf h hn'
  go_enter Try.func116, Try.ntmps116
  go_wp2_with (refine wpList_make_own _ rfl _ _ 38 rfl w.heap.size 22 i0 (.slice none 0 0) 1 Try.underlying38 hi hz0 hz1 .i64 .i64 _ n rfl rfl rfl ?b2 ?b3 (Nat.le_refl _) ?_)
  case b2 => rw [hz2]; omega
  case b3 => unfold maxLen; omega
  intro w0 hown0 hg0
  have hB0 := below_grown hg0
  clear hg0
  have hS0 : Ints2E w.heap.size w0 (.slice (some ⟨w.heap.size, 0, none⟩) 0 n) (mapT F xs 0) [w.heap.size] := ⟨[], [], hown0, rfl, fun j x u cs h => by simp [mapT] at h, by simp [Value.ownBlock], by simp⟩
  have HS0 := Lib.hid (And.intro hS0 hB0)
  clear hown0 hS0 hB0
  go_wp2_with fail
  go_loopw [5, 13] (fun sm i wr => ∃ j : Nat, j ≤ n ∧ i = .int .i64 j ∧ (∃ bs, Ints2E w.heap.size wr sm (mapT F xs j) bs) ∧ Below w.heap.size w wr) (fun _ i _ => n - (intOf i).toNat)
  case atStart => exact ⟨0, Nat.zero_le _, rfl, ⟨_, HS0.out.1⟩, HS0.out.2⟩
  case round =>
    obtain ⟨j, hj, rfl, ⟨bs, hS⟩, hB⟩ := hrel
    obtain ⟨A', ca, e'⟩ := ManyE.slice hS
    rw [Hl.out j hj] at e'
    subst e'
    by_cases hlt : j < n
    · obtain ⟨x, hx⟩ := Hx.out j hlt
      have hmem := List.mem_of_getElem? hx
      have hwr := (ints2_ok _).later Hh.out hB
      obtain ⟨g, us, u, d, hv, hc, hE, hg, _⟩ := hwr.at_ (ints_ok _) hx
      simp only [Value.slice.injEq] at hv
      obtain ⟨hAg, h8, h9⟩ := hv
      subst hAg
      clear h8 h9
      have hq := Hf.out x hmem wr u _ _ hB hE
      obtain ⟨A2, k2, rfl⟩ := RowE.slice hE
      have Hq := Lib.hid hq
      have Hy := Lib.hid (Hm.out j x hx)
      have HS := Lib.hid (And.intro hS hB)
      clear hq hx hmem hwr hS hB hE
      have hcf := Hcf.out
      go_wp2_with fail
      clear hcf
      refine Hq.out.mono ?_
      rintro e w1 ⟨v1, cs1, rfl, hE1, hb1⟩
      have hS1 := (ints2_ok _).later HS.out.1 hb1
      have hB1 := HS.out.2.trans (hb1.mono HS.out.2.size)
      obtain ⟨vs, hrow, _⟩ := hS1.held
      rw [Hl.out j hj] at hrow
      have hd : ∀ b ∈ bs, b ∉ cs1 := fun b h1 h2 => by have t1 := ((ints2_ok _).lt HS.out.1 b h1).2; have t2 := ((ints_ok _).lt hE1 b h2).1; omega
      have hE2 : IntsE w.heap.size w1 v1 (F x) cs1 := ints_base HS.out.2.size _ _ _ _ hE1
      obtain ⟨A1, n1, k1, rfl⟩ : ∃ A1 n1 k1, v1 = .slice A1 n1 k1 := by obtain ⟨A1, k1, e⟩ := RowE.slice hE1; exact ⟨_, _, _, e⟩
      have Hb := Lib.hid (And.intro hS1 (And.intro hB1 (And.intro hrow (And.intro hd hE2))))
      have hz3 := hB1.size
      clear hS1 hB1 hrow hd hE1 hE2 hb1 Hq
      go_wp2_with (at_builtin; refine wpList_append_lies _ rfl _ _ 38 rfl w.heap.size 22 i0 (.slice none 0 0) 1 24 Try.underlying38 hi hz0 hz1 hz2 rfl (by decide) _ j _ rfl (Hb.out.2.2.1.alloc _) ⟨w1.heap.size, 0, none⟩ 1 1 [.slice A1 n1 k1] rfl rfl (World.news_of_block (Bx.new w1 _ _)) (one_sing rfl) (by decide) ?c1 ?c2 ?c3 _ rfl ?_)
      case c1 => unfold maxLen; omega
      case c2 => omega
      case c3 => simp; omega
      intro g1 cap1 w5 hown hg5 hat hltg
      have hB6 : Below w.heap.size w w5 := (Hb.out.2.1.alloc Hb.out.2.1.size _).grown hg5 (by simp; omega) (fun k hk => ((ints2_ok _).lt Hb.out.1 k (by exact Hb.out.1.held.choose_spec.2 k hk)).1)
      obtain ⟨bs6, hS6, _⟩ := many_grow (ints_ok _) ((ints2_ok _).later Hb.out.1 ((Below.refl _ _).alloc (Nat.le_refl _) _)) (Hl.out j hj) (Hb.out.2.2.1.alloc _) ((ints_ok _).later Hb.out.2.2.2.2 ((Below.refl _ _).alloc (Nat.le_refl _) _)) Hb.out.2.2.2.1 hown hg5 rfl (by rcases hat with h | h; exact .inl h; exact .inr (by rw [World.size_alloc]; exact h))
      rw [← Hy.out] at hS6
      clear hown hg5 hat
      go_wp2
      go_roundw
      case rel => exact ⟨j + 1, by omega, by go_num, ⟨_, hS6⟩, hB6⟩
      case measure => simp [intOf]; omega
    · have e : j = n := by omega
      subst e
      rw [Ht.out] at hS
      go_wp2
      go_ret
      exact ⟨_, bs, rfl, hS, hB⟩

set_option maxHeartbeats 3200000 in
set_option maxRecDepth 100000 in
theorem mapped_push_pushes {base : Nat} {v : Value} {xs : List (Int × Int)} {bs : List Nat} (w : World) (F : (Int × Int) → List (Int × Int)) (f : FuncId) (cap : Array Value) (hcf : ∀ args w, (callFunc f args).run Try.prog w = .ok (.enter f args) w) (hn : xs.length ≤ 1048576) (h : PushE base w v xs bs)
    (hf : ∀ x ∈ xs, ∀ W, Below w.heap.size w W → Calls Try.prog f (#[.agg #[.int .i64 x.1, .int .i64 x.2]] ++ cap) W (NewPost PushE (F x) W)) :
    Calls Try.prog 101 #[v, .func (.func f) #[] cap] w (NewPost Push2E (xs.map F) w) := by
  obtain ⟨i0, hi, hz0, hz1, hz2⟩ := info_parts toInfo_pushes
  obtain ⟨A, ka, rfl⟩ := RowE.slice h
  have Hcf := Lib.hid hcf
  clear hcf
  have Hf := Lib.hid hf
  have Hh := Lib.hid h
  have Hm := Lib.hid (fun (j : Nat) (x : Int × Int) (hx : xs[j]? = some x) => map_take_succ F hx)
  have Hl := Lib.hid (fun (j : Nat) (hj : j ≤ xs.length) => len_map_take F hj)
  have Ht := Lib.hid (show mapT F xs xs.length = xs.map F by unfold mapT; rw [List.take_length])
  have Hx := Lib.hid (fun (j : Nat) (hj : j < xs.length) => (⟨_, List.getElem?_eq_getElem hj⟩ : ∃ x, xs[j]? = some x))
  obtain ⟨n, hn'⟩ : ∃ n, n = xs.length := ⟨_, rfl⟩
  rw [← hn'] at hn Hl Hx Ht Hh ⊢
  have Hn := Lib.hid hn'
  clear hf h hn'
  go_enter Try.func101, Try.ntmps101
  go_wp2_with (refine wpList_make_own _ rfl _ _ 44 rfl w.heap.size 94 i0 (.slice none 0 0) 1 Try.underlying44 hi hz0 hz1 .i64 .i64 _ n rfl rfl rfl ?b2 ?b3 (Nat.le_refl _) ?_)
  case b2 => rw [hz2]; omega
  case b3 => unfold maxLen; omega
  intro w0 hown0 hg0
  have hB0 := below_grown hg0
  clear hg0
  have hS0 : Push2E w.heap.size w0 (.slice (some ⟨w.heap.size, 0, none⟩) 0 n) (mapT F xs 0) [w.heap.size] := ⟨[], [], hown0, rfl, fun j x u cs h => by simp [mapT] at h, by simp [Value.ownBlock], by simp⟩
  have HS0 := Lib.hid (And.intro hS0 hB0)
  clear hown0 hS0 hB0
  go_wp2_with fail
  go_loopw [5, 13] (fun sm i wr => ∃ j : Nat, j ≤ n ∧ i = .int .i64 j ∧ (∃ bs, Push2E w.heap.size wr sm (mapT F xs j) bs) ∧ Below w.heap.size w wr) (fun _ i _ => n - (intOf i).toNat)
  case atStart => exact ⟨0, Nat.zero_le _, rfl, ⟨_, HS0.out.1⟩, HS0.out.2⟩
  case round =>
    obtain ⟨j, hj, rfl, ⟨bs, hS⟩, hB⟩ := hrel
    obtain ⟨A', ca, e'⟩ := ManyE.slice hS
    rw [Hl.out j hj] at e'
    subst e'
    by_cases hlt : j < n
    · obtain ⟨x, hx⟩ := Hx.out j hlt
      have hmem := List.mem_of_getElem? hx
      have hwr := (push_ok _).later Hh.out hB
      obtain ⟨g, hAg, hg, _⟩ := RowE.head hwr (by rw [← Hn.out]; exact hlt)
      subst hAg
      have hc : wr.cell? ⟨g, j * 2, none⟩ = _ := (PushE.cell' hwr hx).1
      have hc' : wr.cell? ⟨g, j * 2 + 1, none⟩ = _ := (PushE.cell' hwr hx).2
      have hnx := (Below.refl wr.heap.size wr).alloc (Nat.le_refl _) (.cells #[.int .i64 x.1, .int .i64 x.2] 97)
      replace hS := (push2_ok _).later hS hnx
      replace hB := hB.trans (hnx.mono hB.size)
      have hq := Hf.out x hmem _ hB
      have Hq := Lib.hid hq
      have Hy := Lib.hid (Hm.out j x hx)
      have HS := Lib.hid (And.intro hS hB)
      clear hq hx hmem hwr hS hB hnx
      have hcf := Hcf.out
      go_wp2_with fail
      clear hcf
      refine Hq.out.mono ?_
      rintro e w1 ⟨v1, cs1, rfl, hE1, hb1⟩
      have hS1 := (push2_ok _).later HS.out.1 hb1
      have hB1 := HS.out.2.trans (hb1.mono HS.out.2.size)
      obtain ⟨vs, hrow, _⟩ := hS1.held
      rw [Hl.out j hj] at hrow
      have hd : ∀ b ∈ bs, b ∉ cs1 := fun b h1 h2 => by have t1 := ((push2_ok _).lt HS.out.1 b h1).2; have t2 := ((push_ok _).lt hE1 b h2).1; omega
      have hE2 : PushE w.heap.size w1 v1 (F x) cs1 := pushes_base HS.out.2.size _ _ _ _ hE1
      obtain ⟨A1, n1, k1, rfl⟩ : ∃ A1 n1 k1, v1 = .slice A1 n1 k1 := by obtain ⟨A1, k1, e⟩ := RowE.slice hE1; exact ⟨_, _, _, e⟩
      have Hb := Lib.hid (And.intro hS1 (And.intro hB1 (And.intro hrow (And.intro hd hE2))))
      have hz3 := hB1.size
      clear hS1 hB1 hrow hd hE1 hE2 hb1 Hq
      go_wp2_with (at_builtin; refine wpList_append_lies _ rfl _ _ 44 rfl w.heap.size 94 i0 (.slice none 0 0) 1 24 Try.underlying44 hi hz0 hz1 hz2 rfl (by decide) _ j _ rfl (Hb.out.2.2.1.alloc _) ⟨w1.heap.size, 0, none⟩ 1 1 [.slice A1 n1 k1] rfl rfl (World.news_of_block (Bx.new w1 _ _)) (one_sing rfl) (by decide) ?c1 ?c2 ?c3 _ rfl ?_)
      case c1 => unfold maxLen; omega
      case c2 => omega
      case c3 => simp; omega
      intro g1 cap1 w5 hown hg5 hat hltg
      have hB6 : Below w.heap.size w w5 := (Hb.out.2.1.alloc Hb.out.2.1.size _).grown hg5 (by simp; omega) (fun k hk => ((push2_ok _).lt Hb.out.1 k (by exact Hb.out.1.held.choose_spec.2 k hk)).1)
      obtain ⟨bs6, hS6, _⟩ := many_grow (push_ok _) ((push2_ok _).later Hb.out.1 ((Below.refl _ _).alloc (Nat.le_refl _) _)) (Hl.out j hj) (Hb.out.2.2.1.alloc _) ((push_ok _).later Hb.out.2.2.2.2 ((Below.refl _ _).alloc (Nat.le_refl _) _)) Hb.out.2.2.2.1 hown hg5 rfl (by rcases hat with h | h; exact .inl h; exact .inr (by rw [World.size_alloc]; exact h))
      rw [← Hy.out] at hS6
      clear hown hg5 hat
      go_wp2
      go_roundw
      case rel => exact ⟨j + 1, by omega, by go_num, ⟨_, hS6⟩, hB6⟩
      case measure => simp [intOf]; omega
    · have e : j = n := by omega
      subst e
      rw [Ht.out] at hS
      go_wp2
      go_ret
      exact ⟨_, bs, rfl, hS, hB⟩

set_option maxHeartbeats 3200000 in
set_option maxRecDepth 100000 in
theorem mapped_pushes_pushes2 {base : Nat} {v : Value} {xs : List (List (Int × Int))} {bs : List Nat} (w : World) (F : (List (Int × Int)) → List (List (Int × Int))) (f : FuncId) (cap : Array Value) (hcf : ∀ args w, (callFunc f args).run Try.prog w = .ok (.enter f args) w) (hn : xs.length ≤ 1048576) (h : Push2E base w v xs bs)
    (hf : ∀ x ∈ xs, ∀ W u b c, Below w.heap.size w W → PushE b W u x c → Calls Try.prog f (#[u] ++ cap) W (NewPost Push2E (F x) W)) :
    Calls Try.prog 56 #[v, .func (.func f) #[] cap] w (NewPost Push3E (xs.map F) w) := by
  obtain ⟨i0, hi, hz0, hz1, hz2⟩ := info_parts toInfo_pushes2
  obtain ⟨A, ka, rfl⟩ := ManyE.slice h
  have Hcf := Lib.hid hcf
  clear hcf
  have Hf := Lib.hid hf
  have Hh := Lib.hid h
  have Hm := Lib.hid (fun (j : Nat) (x : List (Int × Int)) (hx : xs[j]? = some x) => map_take_succ F hx)
  have Hl := Lib.hid (fun (j : Nat) (hj : j ≤ xs.length) => len_map_take F hj)
  have Ht := Lib.hid (show mapT F xs xs.length = xs.map F by unfold mapT; rw [List.take_length])
  have Hx := Lib.hid (fun (j : Nat) (hj : j < xs.length) => (⟨_, List.getElem?_eq_getElem hj⟩ : ∃ x, xs[j]? = some x))
  obtain ⟨n, hn'⟩ : ∃ n, n = xs.length := ⟨_, rfl⟩
  rw [← hn'] at hn Hl Hx Ht Hh ⊢
  have Hn := Lib.hid hn'
  clear hf h hn'
  go_enter Try.func56, Try.ntmps56
  go_wp2_with (refine wpList_make_own _ rfl _ _ 31 rfl w.heap.size 44 i0 (.slice none 0 0) 1 Try.underlying31 hi hz0 hz1 .i64 .i64 _ n rfl rfl rfl ?b2 ?b3 (Nat.le_refl _) ?_)
  case b2 => rw [hz2]; omega
  case b3 => unfold maxLen; omega
  intro w0 hown0 hg0
  have hB0 := below_grown hg0
  clear hg0
  have hS0 : Push3E w.heap.size w0 (.slice (some ⟨w.heap.size, 0, none⟩) 0 n) (mapT F xs 0) [w.heap.size] := ⟨[], [], hown0, rfl, fun j x u cs h => by simp [mapT] at h, by simp [Value.ownBlock], by simp⟩
  have HS0 := Lib.hid (And.intro hS0 hB0)
  clear hown0 hS0 hB0
  go_wp2_with fail
  go_loopw [5, 13] (fun sm i wr => ∃ j : Nat, j ≤ n ∧ i = .int .i64 j ∧ (∃ bs, Push3E w.heap.size wr sm (mapT F xs j) bs) ∧ Below w.heap.size w wr) (fun _ i _ => n - (intOf i).toNat)
  case atStart => exact ⟨0, Nat.zero_le _, rfl, ⟨_, HS0.out.1⟩, HS0.out.2⟩
  case round =>
    obtain ⟨j, hj, rfl, ⟨bs, hS⟩, hB⟩ := hrel
    obtain ⟨A', ca, e'⟩ := ManyE.slice hS
    rw [Hl.out j hj] at e'
    subst e'
    by_cases hlt : j < n
    · obtain ⟨x, hx⟩ := Hx.out j hlt
      have hmem := List.mem_of_getElem? hx
      have hwr := (push2_ok _).later Hh.out hB
      obtain ⟨g, us, u, d, hv, hc, hE, hg, _⟩ := hwr.at_ (push_ok _) hx
      simp only [Value.slice.injEq] at hv
      obtain ⟨hAg, h8, h9⟩ := hv
      subst hAg
      clear h8 h9
      have hq := Hf.out x hmem wr u _ _ hB hE
      obtain ⟨A2, k2, rfl⟩ := RowE.slice hE
      have Hq := Lib.hid hq
      have Hy := Lib.hid (Hm.out j x hx)
      have HS := Lib.hid (And.intro hS hB)
      clear hq hx hmem hwr hS hB hE
      have hcf := Hcf.out
      go_wp2_with fail
      clear hcf
      refine Hq.out.mono ?_
      rintro e w1 ⟨v1, cs1, rfl, hE1, hb1⟩
      have hS1 := (push3_ok _).later HS.out.1 hb1
      have hB1 := HS.out.2.trans (hb1.mono HS.out.2.size)
      obtain ⟨vs, hrow, _⟩ := hS1.held
      rw [Hl.out j hj] at hrow
      have hd : ∀ b ∈ bs, b ∉ cs1 := fun b h1 h2 => by have t1 := ((push3_ok _).lt HS.out.1 b h1).2; have t2 := ((push2_ok _).lt hE1 b h2).1; omega
      have hE2 : Push2E w.heap.size w1 v1 (F x) cs1 := pushes2_base HS.out.2.size _ _ _ _ hE1
      obtain ⟨A1, n1, k1, rfl⟩ : ∃ A1 n1 k1, v1 = .slice A1 n1 k1 := by obtain ⟨A1, k1, e⟩ := ManyE.slice hE1; exact ⟨_, _, _, e⟩
      have Hb := Lib.hid (And.intro hS1 (And.intro hB1 (And.intro hrow (And.intro hd hE2))))
      have hz3 := hB1.size
      clear hS1 hB1 hrow hd hE1 hE2 hb1 Hq
      go_wp2_with (at_builtin; refine wpList_append_lies _ rfl _ _ 31 rfl w.heap.size 44 i0 (.slice none 0 0) 1 24 Try.underlying31 hi hz0 hz1 hz2 rfl (by decide) _ j _ rfl (Hb.out.2.2.1.alloc _) ⟨w1.heap.size, 0, none⟩ 1 1 [.slice A1 n1 k1] rfl rfl (World.news_of_block (Bx.new w1 _ _)) (one_sing rfl) (by decide) ?c1 ?c2 ?c3 _ rfl ?_)
      case c1 => unfold maxLen; omega
      case c2 => omega
      case c3 => simp; omega
      intro g1 cap1 w5 hown hg5 hat hltg
      have hB6 : Below w.heap.size w w5 := (Hb.out.2.1.alloc Hb.out.2.1.size _).grown hg5 (by simp; omega) (fun k hk => ((push3_ok _).lt Hb.out.1 k (by exact Hb.out.1.held.choose_spec.2 k hk)).1)
      obtain ⟨bs6, hS6, _⟩ := many_grow (push2_ok _) ((push3_ok _).later Hb.out.1 ((Below.refl _ _).alloc (Nat.le_refl _) _)) (Hl.out j hj) (Hb.out.2.2.1.alloc _) ((push2_ok _).later Hb.out.2.2.2.2 ((Below.refl _ _).alloc (Nat.le_refl _) _)) Hb.out.2.2.2.1 hown hg5 rfl (by rcases hat with h | h; exact .inl h; exact .inr (by rw [World.size_alloc]; exact h))
      rw [← Hy.out] at hS6
      clear hown hg5 hat
      go_wp2
      go_roundw
      case rel => exact ⟨j + 1, by omega, by go_num, ⟨_, hS6⟩, hB6⟩
      case measure => simp [intOf]; omega
    · have e : j = n := by omega
      subst e
      rw [Ht.out] at hS
      go_wp2
      go_ret
      exact ⟨_, bs, rfl, hS, hB⟩

set_option maxHeartbeats 3200000 in
set_option maxRecDepth 100000 in
theorem mapped_ints_ints2 {base : Nat} {v : Value} {xs : List (List Int)} {bs : List Nat} (w : World) (F : (List Int) → List (List Int)) (f : FuncId) (cap : Array Value) (hcf : ∀ args w, (callFunc f args).run Try.prog w = .ok (.enter f args) w) (hn : xs.length ≤ 1048576) (h : Ints2E base w v xs bs)
    (hf : ∀ x ∈ xs, ∀ W u b c, Below w.heap.size w W → IntsE b W u x c → Calls Try.prog f (#[u] ++ cap) W (NewPost Ints2E (F x) W)) :
    Calls Try.prog 60 #[v, .func (.func f) #[] cap] w (NewPost Ints3E (xs.map F) w) := by
  obtain ⟨i0, hi, hz0, hz1, hz2⟩ := info_parts toInfo_ints2
  obtain ⟨A, ka, rfl⟩ := ManyE.slice h
  have Hcf := Lib.hid hcf
  clear hcf
  have Hf := Lib.hid hf
  have Hh := Lib.hid h
  have Hm := Lib.hid (fun (j : Nat) (x : List Int) (hx : xs[j]? = some x) => map_take_succ F hx)
  have Hl := Lib.hid (fun (j : Nat) (hj : j ≤ xs.length) => len_map_take F hj)
  have Ht := Lib.hid (show mapT F xs xs.length = xs.map F by unfold mapT; rw [List.take_length])
  have Hx := Lib.hid (fun (j : Nat) (hj : j < xs.length) => (⟨_, List.getElem?_eq_getElem hj⟩ : ∃ x, xs[j]? = some x))
  obtain ⟨n, hn'⟩ : ∃ n, n = xs.length := ⟨_, rfl⟩
  rw [← hn'] at hn Hl Hx Ht Hh ⊢
  have Hn := Lib.hid hn'
  clear hf h hn'
  go_enter Try.func60, Try.ntmps60
  go_wp2_with (refine wpList_make_own _ rfl _ _ 26 rfl w.heap.size 38 i0 (.slice none 0 0) 1 Try.underlying26 hi hz0 hz1 .i64 .i64 _ n rfl rfl rfl ?b2 ?b3 (Nat.le_refl _) ?_)
  case b2 => rw [hz2]; omega
  case b3 => unfold maxLen; omega
  intro w0 hown0 hg0
  have hB0 := below_grown hg0
  clear hg0
  have hS0 : Ints3E w.heap.size w0 (.slice (some ⟨w.heap.size, 0, none⟩) 0 n) (mapT F xs 0) [w.heap.size] := ⟨[], [], hown0, rfl, fun j x u cs h => by simp [mapT] at h, by simp [Value.ownBlock], by simp⟩
  have HS0 := Lib.hid (And.intro hS0 hB0)
  clear hown0 hS0 hB0
  go_wp2_with fail
  go_loopw [5, 13] (fun sm i wr => ∃ j : Nat, j ≤ n ∧ i = .int .i64 j ∧ (∃ bs, Ints3E w.heap.size wr sm (mapT F xs j) bs) ∧ Below w.heap.size w wr) (fun _ i _ => n - (intOf i).toNat)
  case atStart => exact ⟨0, Nat.zero_le _, rfl, ⟨_, HS0.out.1⟩, HS0.out.2⟩
  case round =>
    obtain ⟨j, hj, rfl, ⟨bs, hS⟩, hB⟩ := hrel
    obtain ⟨A', ca, e'⟩ := ManyE.slice hS
    rw [Hl.out j hj] at e'
    subst e'
    by_cases hlt : j < n
    · obtain ⟨x, hx⟩ := Hx.out j hlt
      have hmem := List.mem_of_getElem? hx
      have hwr := (ints2_ok _).later Hh.out hB
      obtain ⟨g, us, u, d, hv, hc, hE, hg, _⟩ := hwr.at_ (ints_ok _) hx
      simp only [Value.slice.injEq] at hv
      obtain ⟨hAg, h8, h9⟩ := hv
      subst hAg
      clear h8 h9
      have hq := Hf.out x hmem wr u _ _ hB hE
      obtain ⟨A2, k2, rfl⟩ := RowE.slice hE
      have Hq := Lib.hid hq
      have Hy := Lib.hid (Hm.out j x hx)
      have HS := Lib.hid (And.intro hS hB)
      clear hq hx hmem hwr hS hB hE
      have hcf := Hcf.out
      go_wp2_with fail
      clear hcf
      refine Hq.out.mono ?_
      rintro e w1 ⟨v1, cs1, rfl, hE1, hb1⟩
      have hS1 := (ints3_ok _).later HS.out.1 hb1
      have hB1 := HS.out.2.trans (hb1.mono HS.out.2.size)
      obtain ⟨vs, hrow, _⟩ := hS1.held
      rw [Hl.out j hj] at hrow
      have hd : ∀ b ∈ bs, b ∉ cs1 := fun b h1 h2 => by have t1 := ((ints3_ok _).lt HS.out.1 b h1).2; have t2 := ((ints2_ok _).lt hE1 b h2).1; omega
      have hE2 : Ints2E w.heap.size w1 v1 (F x) cs1 := ints2_base HS.out.2.size _ _ _ _ hE1
      obtain ⟨A1, n1, k1, rfl⟩ : ∃ A1 n1 k1, v1 = .slice A1 n1 k1 := by obtain ⟨A1, k1, e⟩ := ManyE.slice hE1; exact ⟨_, _, _, e⟩
      have Hb := Lib.hid (And.intro hS1 (And.intro hB1 (And.intro hrow (And.intro hd hE2))))
      have hz3 := hB1.size
      clear hS1 hB1 hrow hd hE1 hE2 hb1 Hq
      go_wp2_with (at_builtin; refine wpList_append_lies _ rfl _ _ 26 rfl w.heap.size 38 i0 (.slice none 0 0) 1 24 Try.underlying26 hi hz0 hz1 hz2 rfl (by decide) _ j _ rfl (Hb.out.2.2.1.alloc _) ⟨w1.heap.size, 0, none⟩ 1 1 [.slice A1 n1 k1] rfl rfl (World.news_of_block (Bx.new w1 _ _)) (one_sing rfl) (by decide) ?c1 ?c2 ?c3 _ rfl ?_)
      case c1 => unfold maxLen; omega
      case c2 => omega
      case c3 => simp; omega
      intro g1 cap1 w5 hown hg5 hat hltg
      have hB6 : Below w.heap.size w w5 := (Hb.out.2.1.alloc Hb.out.2.1.size _).grown hg5 (by simp; omega) (fun k hk => ((ints3_ok _).lt Hb.out.1 k (by exact Hb.out.1.held.choose_spec.2 k hk)).1)
      obtain ⟨bs6, hS6, _⟩ := many_grow (ints2_ok _) ((ints3_ok _).later Hb.out.1 ((Below.refl _ _).alloc (Nat.le_refl _) _)) (Hl.out j hj) (Hb.out.2.2.1.alloc _) ((ints2_ok _).later Hb.out.2.2.2.2 ((Below.refl _ _).alloc (Nat.le_refl _) _)) Hb.out.2.2.2.1 hown hg5 rfl (by rcases hat with h | h; exact .inl h; exact .inr (by rw [World.size_alloc]; exact h))
      rw [← Hy.out] at hS6
      clear hown hg5 hat
      go_wp2
      go_roundw
      case rel => exact ⟨j + 1, by omega, by go_num, ⟨_, hS6⟩, hB6⟩
      case measure => simp [intOf]; omega
    · have e : j = n := by omega
      subst e
      rw [Ht.out] at hS
      go_wp2
      go_ret
      exact ⟨_, bs, rfl, hS, hB⟩

set_option maxHeartbeats 3200000 in
set_option maxRecDepth 100000 in
theorem mapped_ints2_ints3 {base : Nat} {v : Value} {xs : List (List (List Int))} {bs : List Nat} (w : World) (F : (List (List Int)) → List (List (List Int))) (f : FuncId) (cap : Array Value) (hcf : ∀ args w, (callFunc f args).run Try.prog w = .ok (.enter f args) w) (hn : xs.length ≤ 1048576) (h : Ints3E base w v xs bs)
    (hf : ∀ x ∈ xs, ∀ W u b c, Below w.heap.size w W → Ints2E b W u x c → Calls Try.prog f (#[u] ++ cap) W (NewPost Ints3E (F x) W)) :
    Calls Try.prog 58 #[v, .func (.func f) #[] cap] w (NewPost Ints4E (xs.map F) w) := by
  obtain ⟨i0, hi, hz0, hz1, hz2⟩ := info_parts toInfo_ints3
  obtain ⟨A, ka, rfl⟩ := ManyE.slice h
  have Hcf := Lib.hid hcf
  clear hcf
  have Hf := Lib.hid hf
  have Hh := Lib.hid h
  have Hm := Lib.hid (fun (j : Nat) (x : List (List Int)) (hx : xs[j]? = some x) => map_take_succ F hx)
  have Hl := Lib.hid (fun (j : Nat) (hj : j ≤ xs.length) => len_map_take F hj)
  have Ht := Lib.hid (show mapT F xs xs.length = xs.map F by unfold mapT; rw [List.take_length])
  have Hx := Lib.hid (fun (j : Nat) (hj : j < xs.length) => (⟨_, List.getElem?_eq_getElem hj⟩ : ∃ x, xs[j]? = some x))
  obtain ⟨n, hn'⟩ : ∃ n, n = xs.length := ⟨_, rfl⟩
  rw [← hn'] at hn Hl Hx Ht Hh ⊢
  have Hn := Lib.hid hn'
  clear hf h hn'
  go_enter Try.func58, Try.ntmps58
  go_wp2_with (refine wpList_make_own _ rfl _ _ 25 rfl w.heap.size 26 i0 (.slice none 0 0) 1 Try.underlying25 hi hz0 hz1 .i64 .i64 _ n rfl rfl rfl ?b2 ?b3 (Nat.le_refl _) ?_)
  case b2 => rw [hz2]; omega
  case b3 => unfold maxLen; omega
  intro w0 hown0 hg0
  have hB0 := below_grown hg0
  clear hg0
  have hS0 : Ints4E w.heap.size w0 (.slice (some ⟨w.heap.size, 0, none⟩) 0 n) (mapT F xs 0) [w.heap.size] := ⟨[], [], hown0, rfl, fun j x u cs h => by simp [mapT] at h, by simp [Value.ownBlock], by simp⟩
  have HS0 := Lib.hid (And.intro hS0 hB0)
  clear hown0 hS0 hB0
  go_wp2_with fail
  go_loopw [5, 13] (fun sm i wr => ∃ j : Nat, j ≤ n ∧ i = .int .i64 j ∧ (∃ bs, Ints4E w.heap.size wr sm (mapT F xs j) bs) ∧ Below w.heap.size w wr) (fun _ i _ => n - (intOf i).toNat)
  case atStart => exact ⟨0, Nat.zero_le _, rfl, ⟨_, HS0.out.1⟩, HS0.out.2⟩
  case round =>
    obtain ⟨j, hj, rfl, ⟨bs, hS⟩, hB⟩ := hrel
    obtain ⟨A', ca, e'⟩ := ManyE.slice hS
    rw [Hl.out j hj] at e'
    subst e'
    by_cases hlt : j < n
    · obtain ⟨x, hx⟩ := Hx.out j hlt
      have hmem := List.mem_of_getElem? hx
      have hwr := (ints3_ok _).later Hh.out hB
      obtain ⟨g, us, u, d, hv, hc, hE, hg, _⟩ := hwr.at_ (ints2_ok _) hx
      simp only [Value.slice.injEq] at hv
      obtain ⟨hAg, h8, h9⟩ := hv
      subst hAg
      clear h8 h9
      have hq := Hf.out x hmem wr u _ _ hB hE
      obtain ⟨A2, k2, rfl⟩ := ManyE.slice hE
      have Hq := Lib.hid hq
      have Hy := Lib.hid (Hm.out j x hx)
      have HS := Lib.hid (And.intro hS hB)
      clear hq hx hmem hwr hS hB hE
      have hcf := Hcf.out
      go_wp2_with fail
      clear hcf
      refine Hq.out.mono ?_
      rintro e w1 ⟨v1, cs1, rfl, hE1, hb1⟩
      have hS1 := (ints4_ok _).later HS.out.1 hb1
      have hB1 := HS.out.2.trans (hb1.mono HS.out.2.size)
      obtain ⟨vs, hrow, _⟩ := hS1.held
      rw [Hl.out j hj] at hrow
      have hd : ∀ b ∈ bs, b ∉ cs1 := fun b h1 h2 => by have t1 := ((ints4_ok _).lt HS.out.1 b h1).2; have t2 := ((ints3_ok _).lt hE1 b h2).1; omega
      have hE2 : Ints3E w.heap.size w1 v1 (F x) cs1 := ints3_base HS.out.2.size _ _ _ _ hE1
      obtain ⟨A1, n1, k1, rfl⟩ : ∃ A1 n1 k1, v1 = .slice A1 n1 k1 := by obtain ⟨A1, k1, e⟩ := ManyE.slice hE1; exact ⟨_, _, _, e⟩
      have Hb := Lib.hid (And.intro hS1 (And.intro hB1 (And.intro hrow (And.intro hd hE2))))
      have hz3 := hB1.size
      clear hS1 hB1 hrow hd hE1 hE2 hb1 Hq
      go_wp2_with (at_builtin; refine wpList_append_lies _ rfl _ _ 25 rfl w.heap.size 26 i0 (.slice none 0 0) 1 24 Try.underlying25 hi hz0 hz1 hz2 rfl (by decide) _ j _ rfl (Hb.out.2.2.1.alloc _) ⟨w1.heap.size, 0, none⟩ 1 1 [.slice A1 n1 k1] rfl rfl (World.news_of_block (Bx.new w1 _ _)) (one_sing rfl) (by decide) ?c1 ?c2 ?c3 _ rfl ?_)
      case c1 => unfold maxLen; omega
      case c2 => omega
      case c3 => simp; omega
      intro g1 cap1 w5 hown hg5 hat hltg
      have hB6 : Below w.heap.size w w5 := (Hb.out.2.1.alloc Hb.out.2.1.size _).grown hg5 (by simp; omega) (fun k hk => ((ints4_ok _).lt Hb.out.1 k (by exact Hb.out.1.held.choose_spec.2 k hk)).1)
      obtain ⟨bs6, hS6, _⟩ := many_grow (ints3_ok _) ((ints4_ok _).later Hb.out.1 ((Below.refl _ _).alloc (Nat.le_refl _) _)) (Hl.out j hj) (Hb.out.2.2.1.alloc _) ((ints3_ok _).later Hb.out.2.2.2.2 ((Below.refl _ _).alloc (Nat.le_refl _) _)) Hb.out.2.2.2.1 hown hg5 rfl (by rcases hat with h | h; exact .inl h; exact .inr (by rw [World.size_alloc]; exact h))
      rw [← Hy.out] at hS6
      clear hown hg5 hat
      go_wp2
      go_roundw
      case rel => exact ⟨j + 1, by omega, by go_num, ⟨_, hS6⟩, hB6⟩
      case measure => simp [intOf]; omega
    · have e : j = n := by omega
      subst e
      rw [Ht.out] at hS
      go_wp2
      go_ret
      exact ⟨_, bs, rfl, hS, hB⟩

end Go.Proofs.Yticmekdfdilcpaa
