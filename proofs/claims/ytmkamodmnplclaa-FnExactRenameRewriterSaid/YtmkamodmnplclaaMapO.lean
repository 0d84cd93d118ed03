/- mapped of the program over symbols: what a function makes of each one; for moves that write. -/
import Derived.Test.YtmkamodmnplclaaGrow
import Derived.Test.YtmkamodmnplclaaBox
import Derived.Test.YtmkamodmnplclaaRw
import Derived.Test.YtmkamodmnplclaaMapped
import Derived.Deep.AppendLies
import Derived.OwnWalk
namespace Go.Proofs.Ytmkamodmnplclaa
open Go.RowKit
set_option linter.unusedVariables false

abbrev SymE (base : Nat) : EP (List Int) := RowE base 83 1 fun x : Int => [Value.int .u8 x]
theorem sym_ok (base : Nat) : EP.Ok base (SymE base) := RowE.ok _ _ _ _
theorem SymE.cell' {base g n c : Nat} {w : World} {xs : List Int} {bs : List Nat} (h : SymE base w (.slice (some ⟨g, 0, none⟩) n c) xs bs) {j : Nat} {x : Int} (hx : xs[j]? = some x) : w.cell? ⟨g, j, none⟩ = some (.int .u8 x) := by
  have := RowE.cell h (fun _ => rfl) (i := 0) hx rfl
  simpa using this
theorem one_om {x : Int} {y : ByteArray} : ∀ u ∈ [Value.int .i64 x, Value.string y], u.oneCell' = true := by
  intro u hu
  rcases List.mem_cons.1 hu with rfl | hu
  · rfl
  · rw [List.mem_singleton.1 hu]; rfl
theorem one_op {x z : Int} {y : ByteArray} : ∀ u ∈ [Value.int .i64 x, Value.int .i64 z, Value.string y], u.oneCell' = true := by
  intro u hu
  rcases List.mem_cons.1 hu with rfl | hu
  · rfl
  · exact one_om u hu

set_option maxHeartbeats 3200000 in
set_option maxRecDepth 100000 in
theorem mapped_sym_op {base : Nat} {v : Value} {xs : List Int} {bs : List Nat} (w : World) (F : Int → Int × Int × ByteArray) (f : FuncId) (cap : Array Value) (hcf : ∀ args w, (callFunc f args).run Try.prog w = .ok (.enter f args) w) (hn : xs.length ≤ 1048576) (h : SymE base w v xs bs)
    (hf : ∀ x ∈ xs, ∀ W, Below w.heap.size w W → Calls Try.prog f (#[.int .u8 x] ++ cap) W (fun e w' => e = .returned (.agg #[.int .i64 (F x).1, .int .i64 (F x).2.1, .string (F x).2.2]) ∧ Below W.heap.size W w')) :
    Calls Try.prog 88 #[v, .func (.func f) #[] cap] w (NewPost OpE (xs.map F) w) := by
  obtain ⟨i0, hi, hz0, hz1, hz2⟩ := info_parts toInfo_op
  obtain ⟨A, ka, rfl⟩ := RowE.slice h
  have Hcf := Lib.hid hcf
  clear hcf
  have Hf := Lib.hid hf
  have Hh := Lib.hid h
  have Hm := Lib.hid (fun (j : Nat) (x : Int) (hx : xs[j]? = some x) => map_take_succ F hx)
  have Hl := Lib.hid (fun (j : Nat) (hj : j ≤ xs.length) => len_map_take F hj)
  have Ht := Lib.hid (show mapT F xs xs.length = xs.map F by unfold mapT; rw [List.take_length])
  have Hx := Lib.hid (fun (j : Nat) (hj : j < xs.length) => (⟨_, List.getElem?_eq_getElem hj⟩ : ∃ x, xs[j]? = some x))
  obtain ⟨n, hn'⟩ : ∃ n, n = xs.length := ⟨_, rfl⟩
  rw [← hn'] at hn Hl Hx Ht Hh ⊢
  have Hn := Lib.hid hn'
  clear hf h hn'
  go_enter Try.func88, Try.ntmps88
  go_wp2_with (refine wpList_make_own _ rfl _ _ 76 rfl w.heap.size 75 i0 (.agg #[.int .i64 0, .int .i64 0, .string ⟨#[]⟩]) 3 Try.underlying76 hi hz0 hz1 .i64 .i64 _ n rfl rfl rfl ?b2 ?b3 (Nat.le_refl _) ?_)
  case b2 => rw [hz2]; omega
  case b3 => unfold maxLen; omega
  intro w0 hown0 hg0
  have hB0 := below_grown hg0
  clear hg0
  have hS0 : OpE w.heap.size w0 (.slice (some ⟨w.heap.size, 0, none⟩) 0 n) (mapT F xs 0) [w.heap.size] := ⟨hown0, rfl⟩
  have HS0 := Lib.hid (And.intro hS0 hB0)
  clear hown0 hS0 hB0
  go_wp2_with fail
  go_loopw [5, 13] (fun sm i wr => ∃ j : Nat, j ≤ n ∧ i = .int .i64 j ∧ (∃ bs, OpE w.heap.size wr sm (mapT F xs j) bs) ∧ Below w.heap.size w wr) (fun _ i _ => n - (intOf i).toNat)
  case atStart => exact ⟨0, Nat.zero_le _, rfl, ⟨_, HS0.out.1⟩, HS0.out.2⟩
  case round =>
    obtain ⟨j, hj, rfl, ⟨bs, hS⟩, hB⟩ := hrel
    obtain ⟨A', ca, e'⟩ := RowE.slice hS
    rw [Hl.out j hj] at e'
    subst e'
    by_cases hlt : j < n
    · obtain ⟨x, hx⟩ := Hx.out j hlt
      have hmem := List.mem_of_getElem? hx
      have hwr := (sym_ok _).later Hh.out hB
      obtain ⟨g, hAg, hg, _⟩ := RowE.head hwr (by rw [← Hn.out]; exact hlt)
      subst hAg
      have hc : wr.cell? ⟨g, j, none⟩ = _ := SymE.cell' hwr hx
      have hq := Hf.out x hmem wr hB
      have Hq := Lib.hid hq
      have Hy := Lib.hid (Hm.out j x hx)
      have HS := Lib.hid (And.intro hS hB)
      clear hq hx hmem hwr hS hB
      have hcf := Hcf.out
      go_wp2_with fail
      clear hcf
      refine Hq.out.mono ?_
      rintro e w1 ⟨rfl, hb1⟩
      have hS1 := (op_ok _).later HS.out.1 hb1
      have hB1 := HS.out.2.trans (hb1.mono HS.out.2.size)
      have hrow := hS1.1
      rw [Hl.out j hj] at hrow
      have Hb := Lib.hid (And.intro hS1 (And.intro hB1 hrow))
      have hz3 := hB1.size
      clear hS1 hB1 hrow hb1 Hq
      obtain ⟨y0, hy0⟩ : ∃ y, y = (F x).1 := ⟨_, rfl⟩
      obtain ⟨y1, hy1⟩ : ∃ y, y = (F x).2.1 := ⟨_, rfl⟩
      obtain ⟨y2, hy2⟩ : ∃ y, y = (F x).2.2 := ⟨_, rfl⟩
      have hy : F x = (y0, y1, y2) := by rw [hy0, hy1, hy2]
      rw [← hy0, ← hy1, ← hy2]
      have HF := Lib.hid hy
      clear hy hy0 hy1 hy2
      go_wp2_with (at_builtin; refine wpList_append_lies _ rfl _ _ 76 rfl w.heap.size 75 i0 (.agg #[.int .i64 0, .int .i64 0, .string ⟨#[]⟩]) 3 32 Try.underlying76 hi hz0 hz1 hz2 rfl (by decide) _ j _ rfl (Hb.out.2.2.alloc _) ⟨w1.heap.size, 0, none⟩ 1 1 [.int .i64 y0, .int .i64 y1, .string y2] rfl rfl (World.news_of_block (Bx.new w1 _ _)) one_op (by decide) ?c1 ?c2 ?c3 _ rfl ?_)
      case c1 => unfold maxLen; omega
      case c2 => omega
      case c3 => simp; omega
      intro g1 cap1 w5 hown hg5 hat hltg
      have hB6 : Below w.heap.size w w5 := (Hb.out.2.1.alloc Hb.out.2.1.size _).grown hg5 (by simp; omega) (fun k hk => ((op_ok _).lt Hb.out.1 k (by rw [Hb.out.1.2, hk]; simp)).1)
      have hS6 : OpE w.heap.size w5 (.slice (some ⟨g1, 0, none⟩) (j + 1) cap1) (mapT F xs (j + 1)) [g1] := by
        rw [Hy.out, HF.out]
        refine ⟨?_, rfl⟩
        rw [List.length_append, Hl.out j hj, List.flatMap_append]
        exact hown
      clear hown hg5 hat
      go_wp2
      go_roundw
      case rel => exact ⟨j + 1, by omega, by go_num, ⟨_, hS6⟩, hB6⟩
      case measure => simp [intOf]; omega
    · have e : j = n := by omega
      subst e
      rw [Ht.out] at hS
      go_wp2
      go_ret
      exact ⟨_, bs, rfl, hS, hB⟩

set_option maxHeartbeats 3200000 in
set_option maxRecDepth 100000 in
theorem mapped_sym_om {base : Nat} {v : Value} {xs : List Int} {bs : List Nat} (w : World) (F : Int → Int × ByteArray) (f : FuncId) (cap : Array Value) (hcf : ∀ args w, (callFunc f args).run Try.prog w = .ok (.enter f args) w) (hn : xs.length ≤ 1048576) (h : SymE base w v xs bs)
    (hf : ∀ x ∈ xs, ∀ W, Below w.heap.size w W → Calls Try.prog f (#[.int .u8 x] ++ cap) W (fun e w' => e = .returned (.agg #[.int .i64 (F x).1, .string (F x).2]) ∧ Below W.heap.size W w')) :
    Calls Try.prog 92 #[v, .func (.func f) #[] cap] w (NewPost OmE (xs.map F) w) := by
  obtain ⟨i0, hi, hz0, hz1, hz2⟩ := info_parts toInfo_om
  obtain ⟨A, ka, rfl⟩ := RowE.slice h
  have Hcf := Lib.hid hcf
  clear hcf
  have Hf := Lib.hid hf
  have Hh := Lib.hid h
  have Hm := Lib.hid (fun (j : Nat) (x : Int) (hx : xs[j]? = some x) => map_take_succ F hx)
  have Hl := Lib.hid (fun (j : Nat) (hj : j ≤ xs.length) => len_map_take F hj)
  have Ht := Lib.hid (show mapT F xs xs.length = xs.map F by unfold mapT; rw [List.take_length])
  have Hx := Lib.hid (fun (j : Nat) (hj : j < xs.length) => (⟨_, List.getElem?_eq_getElem hj⟩ : ∃ x, xs[j]? = some x))
  obtain ⟨n, hn'⟩ : ∃ n, n = xs.length := ⟨_, rfl⟩
  rw [← hn'] at hn Hl Hx Ht Hh ⊢
  have Hn := Lib.hid hn'
  clear hf h hn'
  go_enter Try.func92, Try.ntmps92
  go_wp2_with (refine wpList_make_own _ rfl _ _ 79 rfl w.heap.size 78 i0 (.agg #[.int .i64 0, .string ⟨#[]⟩]) 2 Try.underlying79 hi hz0 hz1 .i64 .i64 _ n rfl rfl rfl ?b2 ?b3 (Nat.le_refl _) ?_)
  case b2 => rw [hz2]; omega
  case b3 => unfold maxLen; omega
  intro w0 hown0 hg0
  have hB0 := below_grown hg0
  clear hg0
  have hS0 : OmE w.heap.size w0 (.slice (some ⟨w.heap.size, 0, none⟩) 0 n) (mapT F xs 0) [w.heap.size] := ⟨hown0, rfl⟩
  have HS0 := Lib.hid (And.intro hS0 hB0)
  clear hown0 hS0 hB0
  go_wp2_with fail
  go_loopw [5, 13] (fun sm i wr => ∃ j : Nat, j ≤ n ∧ i = .int .i64 j ∧ (∃ bs, OmE w.heap.size wr sm (mapT F xs j) bs) ∧ Below w.heap.size w wr) (fun _ i _ => n - (intOf i).toNat)
  case atStart => exact ⟨0, Nat.zero_le _, rfl, ⟨_, HS0.out.1⟩, HS0.out.2⟩
  case round =>
    obtain ⟨j, hj, rfl, ⟨bs, hS⟩, hB⟩ := hrel
    obtain ⟨A', ca, e'⟩ := RowE.slice hS
    rw [Hl.out j hj] at e'
    subst e'
    by_cases hlt : j < n
    · obtain ⟨x, hx⟩ := Hx.out j hlt
      have hmem := List.mem_of_getElem? hx
      have hwr := (sym_ok _).later Hh.out hB
      obtain ⟨g, hAg, hg, _⟩ := RowE.head hwr (by rw [← Hn.out]; exact hlt)
      subst hAg
      have hc : wr.cell? ⟨g, j, none⟩ = _ := SymE.cell' hwr hx
      have hq := Hf.out x hmem wr hB
      have Hq := Lib.hid hq
      have Hy := Lib.hid (Hm.out j x hx)
      have HS := Lib.hid (And.intro hS hB)
      clear hq hx hmem hwr hS hB
      have hcf := Hcf.out
      go_wp2_with fail
      clear hcf
      refine Hq.out.mono ?_
      rintro e w1 ⟨rfl, hb1⟩
      have hS1 := (om_ok _).later HS.out.1 hb1
      have hB1 := HS.out.2.trans (hb1.mono HS.out.2.size)
      have hrow := hS1.1
      rw [Hl.out j hj] at hrow
      have Hb := Lib.hid (And.intro hS1 (And.intro hB1 hrow))
      have hz3 := hB1.size
      clear hS1 hB1 hrow hb1 Hq
      obtain ⟨y0, hy0⟩ : ∃ y, y = (F x).1 := ⟨_, rfl⟩
      obtain ⟨y1, hy1⟩ : ∃ y, y = (F x).2 := ⟨_, rfl⟩
      have hy : F x = (y0, y1) := by rw [hy0, hy1]
      rw [← hy0, ← hy1]
      have HF := Lib.hid hy
      clear hy hy0 hy1
      go_wp2_with (at_builtin; refine wpList_append_lies _ rfl _ _ 79 rfl w.heap.size 78 i0 (.agg #[.int .i64 0, .string ⟨#[]⟩]) 2 24 Try.underlying79 hi hz0 hz1 hz2 rfl (by decide) _ j _ rfl (Hb.out.2.2.alloc _) ⟨w1.heap.size, 0, none⟩ 1 1 [.int .i64 y0, .string y1] rfl rfl (World.news_of_block (Bx.new w1 _ _)) one_om (by decide) ?c1 ?c2 ?c3 _ rfl ?_)
      case c1 => unfold maxLen; omega
      case c2 => omega
      case c3 => simp; omega
      intro g1 cap1 w5 hown hg5 hat hltg
      have hB6 : Below w.heap.size w w5 := (Hb.out.2.1.alloc Hb.out.2.1.size _).grown hg5 (by simp; omega) (fun k hk => ((om_ok _).lt Hb.out.1 k (by rw [Hb.out.1.2, hk]; simp)).1)
      have hS6 : OmE w.heap.size w5 (.slice (some ⟨g1, 0, none⟩) (j + 1) cap1) (mapT F xs (j + 1)) [g1] := by
        rw [Hy.out, HF.out]
        refine ⟨?_, rfl⟩
        rw [List.length_append, Hl.out j hj, List.flatMap_append]
        exact hown
      clear hown hg5 hat
      go_wp2
      go_roundw
      case rel => exact ⟨j + 1, by omega, by go_num, ⟨_, hS6⟩, hB6⟩
      case measure => simp [intOf]; omega
    · have e : j = n := by omega
      subst e
      rw [Ht.out] at hS
      go_wp2
      go_ret
      exact ⟨_, bs, rfl, hS, hB⟩

set_option maxHeartbeats 3200000 in
set_option maxRecDepth 100000 in
theorem mapped_sym_oms {base : Nat} {v : Value} {xs : List Int} {bs : List Nat} (w : World) (F : Int → List (Int × ByteArray)) (f : FuncId) (cap : Array Value) (hcf : ∀ args w, (callFunc f args).run Try.prog w = .ok (.enter f args) w) (hn : xs.length ≤ 1048576) (h : SymE base w v xs bs)
    (hf : ∀ x ∈ xs, ∀ W, Below w.heap.size w W → Calls Try.prog f (#[.int .u8 x] ++ cap) W (NewPost OmE (F x) W)) :
    Calls Try.prog 90 #[v, .func (.func f) #[] cap] w (NewPost Om2E (xs.map F) w) := by
  obtain ⟨i0, hi, hz0, hz1, hz2⟩ := info_parts toInfo_oms
  obtain ⟨A, ka, rfl⟩ := RowE.slice h
  have Hcf := Lib.hid hcf
  clear hcf
  have Hf := Lib.hid hf
  have Hh := Lib.hid h
  have Hm := Lib.hid (fun (j : Nat) (x : Int) (hx : xs[j]? = some x) => map_take_succ F hx)
  have Hl := Lib.hid (fun (j : Nat) (hj : j ≤ xs.length) => len_map_take F hj)
  have Ht := Lib.hid (show mapT F xs xs.length = xs.map F by unfold mapT; rw [List.take_length])
  have Hx := Lib.hid (fun (j : Nat) (hj : j < xs.length) => (⟨_, List.getElem?_eq_getElem hj⟩ : ∃ x, xs[j]? = some x))
  obtain ⟨n, hn'⟩ : ∃ n, n = xs.length := ⟨_, rfl⟩
  rw [← hn'] at hn Hl Hx Ht Hh ⊢
  have Hn := Lib.hid hn'
  clear hf h hn'
  go_enter Try.func90, Try.ntmps90
  go_wp2_with (refine wpList_make_own _ rfl _ _ 34 rfl w.heap.size 79 i0 (.slice none 0 0) 1 Try.underlying34 hi hz0 hz1 .i64 .i64 _ n rfl rfl rfl ?b2 ?b3 (Nat.le_refl _) ?_)
  case b2 => rw [hz2]; omega
  case b3 => unfold maxLen; omega
  intro w0 hown0 hg0
  have hB0 := below_grown hg0
  clear hg0
  have hS0 : Om2E w.heap.size w0 (.slice (some ⟨w.heap.size, 0, none⟩) 0 n) (mapT F xs 0) [w.heap.size] := ⟨[], [], hown0, rfl, fun j x u cs h => by simp [mapT] at h, by simp [Value.ownBlock], by simp⟩
  have HS0 := Lib.hid (And.intro hS0 hB0)
  clear hown0 hS0 hB0
  go_wp2_with fail
  go_loopw [5, 13] (fun sm i wr => ∃ j : Nat, j ≤ n ∧ i = .int .i64 j ∧ (∃ bs, Om2E w.heap.size wr sm (mapT F xs j) bs) ∧ Below w.heap.size w wr) (fun _ i _ => n - (intOf i).toNat)
  case atStart => exact ⟨0, Nat.zero_le _, rfl, ⟨_, HS0.out.1⟩, HS0.out.2⟩
  case round =>
    obtain ⟨j, hj, rfl, ⟨bs, hS⟩, hB⟩ := hrel
    obtain ⟨A', ca, e'⟩ := ManyE.slice hS
    rw [Hl.out j hj] at e'
    subst e'
    by_cases hlt : j < n
    · obtain ⟨x, hx⟩ := Hx.out j hlt
      have hmem := List.mem_of_getElem? hx
      have hwr := (sym_ok _).later Hh.out hB
      obtain ⟨g, hAg, hg, _⟩ := RowE.head hwr (by rw [← Hn.out]; exact hlt)
      subst hAg
      have hc : wr.cell? ⟨g, j, none⟩ = _ := SymE.cell' hwr hx
      have hq := Hf.out x hmem wr hB
      have Hq := Lib.hid hq
      have Hy := Lib.hid (Hm.out j x hx)
      have HS := Lib.hid (And.intro hS hB)
      clear hq hx hmem hwr hS hB
      have hcf := Hcf.out
      go_wp2_with fail
      clear hcf
      refine Hq.out.mono ?_
      rintro e w1 ⟨v1, cs1, rfl, hE1, hb1⟩
      have hS1 := (om2_ok _).later HS.out.1 hb1
      have hB1 := HS.out.2.trans (hb1.mono HS.out.2.size)
      obtain ⟨vs, hrow, _⟩ := hS1.held
      rw [Hl.out j hj] at hrow
      have hd : ∀ b ∈ bs, b ∉ cs1 := fun b h1 h2 => by have t1 := ((om2_ok _).lt HS.out.1 b h1).2; have t2 := ((om_ok _).lt hE1 b h2).1; omega
      have hE2 : OmE w.heap.size w1 v1 (F x) cs1 := oms_base HS.out.2.size _ _ _ _ hE1
      obtain ⟨A1, n1, k1, rfl⟩ : ∃ A1 n1 k1, v1 = .slice A1 n1 k1 := by obtain ⟨A1, k1, e⟩ := RowE.slice hE1; exact ⟨_, _, _, e⟩
      have Hb := Lib.hid (And.intro hS1 (And.intro hB1 (And.intro hrow (And.intro hd hE2))))
      have hz3 := hB1.size
      clear hS1 hB1 hrow hd hE1 hE2 hb1 Hq
      go_wp2_with (at_builtin; refine wpList_append_lies _ rfl _ _ 34 rfl w.heap.size 79 i0 (.slice none 0 0) 1 24 Try.underlying34 hi hz0 hz1 hz2 rfl (by decide) _ j _ rfl (Hb.out.2.2.1.alloc _) ⟨w1.heap.size, 0, none⟩ 1 1 [.slice A1 n1 k1] rfl rfl (World.news_of_block (Bx.new w1 _ _)) (one_sing rfl) (by decide) ?c1 ?c2 ?c3 _ rfl ?_)
      case c1 => unfold maxLen; omega
      case c2 => omega
      case c3 => simp; omega
      intro g1 cap1 w5 hown hg5 hat hltg
      have hB6 : Below w.heap.size w w5 := (Hb.out.2.1.alloc Hb.out.2.1.size _).grown hg5 (by simp; omega) (fun k hk => ((om2_ok _).lt Hb.out.1 k (by exact Hb.out.1.held.choose_spec.2 k hk)).1)
      obtain ⟨bs6, hS6, _⟩ := many_grow (om_ok _) ((om2_ok _).later Hb.out.1 ((Below.refl _ _).alloc (Nat.le_refl _) _)) (Hl.out j hj) (Hb.out.2.2.1.alloc _) ((om_ok _).later Hb.out.2.2.2.2 ((Below.refl _ _).alloc (Nat.le_refl _) _)) Hb.out.2.2.2.1 hown hg5 rfl (by rcases hat with h | h; exact .inl h; exact .inr (by rw [World.size_alloc]; exact h))
      rw [← Hy.out] at hS6
      clear hown hg5 hat
      go_wp2
      go_roundw
      case rel => exact ⟨j + 1, by omega, by go_num, ⟨_, hS6⟩, hB6⟩
      case measure => simp [intOf]; omega
    · have e : j = n := by omega
      subst e
      rw [Ht.out] at hS
      go_wp2
      go_ret
      exact ⟨_, bs, rfl, hS, hB⟩

end Go.Proofs.Ytmkamodmnplclaa
