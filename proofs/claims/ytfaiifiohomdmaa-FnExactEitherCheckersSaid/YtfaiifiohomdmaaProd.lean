/- productOf and sideBySide of the program: what a function makes of each pair of elements. -/
import Derived.Test.YtfaiifiohomdmaaMapped
import Derived.Test.YtfaiifiohomdmaaProdM
import Derived.Test.YtfaiifiohomdmaaGrown
import Derived.Test.YtfaiifiohomdmaaFree2
namespace Go.Proofs.Ytfaiifiohomdmaa
open Go.RowKit
set_option linter.unusedVariables false
theorem cellL {w W : World} {p : Addr} {v : Value} (h : w.cell? p = some v) (hb : Below w.heap.size w W) : W.cell? p = some v := (hb.cell (World.block_lt_of_cell? _ _ h)).trans h

set_option maxHeartbeats 3200000 in
set_option maxRecDepth 100000 in
theorem prod_bool {base base' : Nat} {v v' : Value} {xs ys : List (Bool)} {bs bs' : List Nat} (w : World) (F : (Bool) → (Bool) → (Bool)) (f : FuncId) (pre : Array Value) (hcf : ∀ args w, (callFunc f args).run Try.prog w = .ok (.enter f args) w) (hnx : xs.length ≤ 1000) (hny : ys.length ≤ 1000) (h : BoolsE base w v xs bs) (h' : BoolsE base' w v' ys bs')
    (hf : ∀ x ∈ xs, ∀ y ∈ ys, ∀ W, Below w.heap.size w W → Calls Try.prog f (pre ++ #[.bool x, .bool y]) W (fun e w' => e = .returned (.bool (F x y)) ∧ Below W.heap.size W w')) :
    Calls Try.prog 191 #[v, v', .func (.func f) pre #[]] w (NewPost BoolsE (prodL F xs ys) w) := by
  obtain ⟨i0, hi, hz0, hz1, hz2⟩ := info_parts toInfo_bool
  obtain ⟨A, ka, rfl⟩ := RowE.slice h
  obtain ⟨A', ka', rfl⟩ := RowE.slice h'
  have Hcf := Lib.hid hcf
  have Hf := Lib.hid hf
  have Hh := Lib.hid h
  have Hh' := Lib.hid h'
  clear hcf
  have Hm := Lib.hid (fun (s t : Nat) (x y : Bool) (hx : xs[s]? = some x) (hy : ys[t]? = some y) => prodT_more (f := F) hx hy)
  have Hl := Lib.hid (fun (s t : Nat) (hs : s < xs.length) (ht : t ≤ ys.length) => prodT_len F xs ys hs ht)
  have Hl0 := Lib.hid (fun (s : Nat) (hs : s ≤ xs.length) => prodT_len0 F xs ys hs)
  have Hnx := Lib.hid (fun (s : Nat) (hs : s < xs.length) => prodT_next (f := F) (ys := ys) hs)
  have Hz := Lib.hid (prodT_zero F xs ys)
  have Ha := Lib.hid (prodT_all F xs ys)
  have Hx := Lib.hid (fun (j : Nat) (hj : j < xs.length) => (⟨_, List.getElem?_eq_getElem hj⟩ : ∃ x, xs[j]? = some x))
  have Hy := Lib.hid (fun (j : Nat) (hj : j < ys.length) => (⟨_, List.getElem?_eq_getElem hj⟩ : ∃ x, ys[j]? = some x))
  obtain ⟨n, hn'⟩ : ∃ n, n = xs.length := ⟨_, rfl⟩
  obtain ⟨m, hm'⟩ : ∃ m, m = ys.length := ⟨_, rfl⟩
  rw [← hn'] at hnx Hl Hl0 Hx Hh Hnx Ha ⊢
  rw [← hm'] at hny Hl Hl0 Hy Hh' Hnx ⊢
  have Hn := Lib.hid hn'
  have HM := Lib.hid hm'
  clear hf h h' hn' hm'
  go_enter Try.func191, Try.ntmps191
  go_wp2_with fail
  go_loopw [7, 14] (fun sm i wr => ∃ s : Nat, s ≤ n ∧ i = .int .i64 s ∧ (∃ bs, BoolsE w.heap.size wr sm (prodT F xs ys s 0) bs) ∧ Below w.heap.size w wr) (fun _ i _ => n - (intOf i).toNat)
  case atStart =>
    refine ⟨0, Nat.zero_le _, rfl, ⟨[], ?_⟩, Below.refl _ _⟩
    rw [Hz.out]
    exact ⟨by simpa using World.ownsRow_nil w w.heap.size _ _, by simp [Value.ownBlock]⟩
  case round =>
    obtain ⟨s, hs, rfl, ⟨bsO, hSO⟩, hBO⟩ := hrel
    obtain ⟨Wo, rfl⟩ : ∃ y, y = wr := ⟨_, rfl⟩
    obtain ⟨Ao, co, e'⟩ := RowE.slice hSO
    rw [Hl0.out s hs] at e'
    subst e'
    by_cases hlt : s < n
    · obtain ⟨x, hx⟩ := Hx.out s hlt
      have hmem := List.mem_of_getElem? hx
      have hwo := (bools_ok _).later Hh.out hBO
      obtain ⟨g, hAg, hg, _⟩ := RowE.head hwo (by rw [← Hn.out]; exact hlt)
      subst hAg
      have hc : Wo.cell? ⟨g, s, none⟩ = _ := BoolsE.cell' hwo hx
      have HSO := Lib.hid (And.intro hSO hBO)
      have Hxx := Lib.hid hx
      have Hmem := Lib.hid hmem
      clear hx hmem hwo hSO hBO
      go_wp2_with fail
      go_loopw [7, 20] (fun sm i wr => ∃ t : Nat, t ≤ m ∧ i = .int .i64 t ∧ (∃ bs, BoolsE w.heap.size wr sm (prodT F xs ys s t) bs) ∧ Below w.heap.size w wr) (fun _ i _ => m - (intOf i).toNat)
      case atStart => exact ⟨0, Nat.zero_le _, rfl, ⟨_, HSO.out.1⟩, HSO.out.2⟩
      case round =>
        obtain ⟨t, ht, rfl, ⟨bs, hS⟩, hB⟩ := hrel
        obtain ⟨A1', ca, e'⟩ := RowE.slice hS
        rw [Hl.out s t hlt ht] at e'
        subst e'
        by_cases hlt2 : t < m
        · obtain ⟨y, hy⟩ := Hy.out t hlt2
          have hmemy := List.mem_of_getElem? hy
          have hwr := (bools_ok _).later Hh'.out hB
          have hst : s * m + t < 1000000 := by
            have h1 : s * m ≤ 999 * 1000 := Nat.mul_le_mul (by omega) hny
            omega
          obtain ⟨g', hAg, hg', _⟩ := RowE.head hwr (by rw [← HM.out]; exact hlt2)
          subst hAg
          have hc : wr.cell? ⟨g', t, none⟩ = _ := BoolsE.cell' hwr hy
          have hq := Hf.out x Hmem.out y hmemy wr hB
          have Hq := Lib.hid hq
          have Hw := Lib.hid (Hm.out s t x y Hxx.out hy)
          have HS := Lib.hid (And.intro hS hB)
          clear hq hy hmemy hwr hS hB
          have hcf := Hcf.out
          go_wp2_with fail
          clear hcf
          refine Hq.out.mono ?_
          rintro e w1 ⟨rfl, hb1⟩
          have hS1 := (bools_ok _).later HS.out.1 hb1
          have hB1 := HS.out.2.trans (hb1.mono HS.out.2.size)
          have hrow := hS1.1
          rw [Hl.out s t hlt ht] at hrow
          have Hb := Lib.hid (And.intro hS1 (And.intro hB1 hrow))
          have hz3 := hB1.size
          clear hS1 hB1 hrow hb1 Hq
          obtain ⟨z, hy⟩ : ∃ z, z = F x y := ⟨_, rfl⟩
          rw [← hy]
          have HF := Lib.hid hy.symm
          clear hy
          go_wp2_with (at_builtin; refine wpList_append_lies _ rfl _ _ 22 rfl w.heap.size 4 i0 (.bool false) 1 1 Try.underlying22 hi hz0 hz1 hz2 rfl (by decide) _ (s * m + t) _ rfl (Hb.out.2.2.alloc _) ⟨w1.heap.size, 0, none⟩ 1 1 [.bool z] rfl rfl (World.news_of_block (Bx.new w1 _ _)) (one_sing rfl) (by decide) ?c1 ?c2 ?c3 _ rfl ?_)
          case c1 => unfold maxLen; omega
          case c2 => omega
          case c3 => simp; omega
          intro g1 cap1 w5 hown hg5 hat hltg
          have hB6 : Below w.heap.size w w5 := (Hb.out.2.1.alloc Hb.out.2.1.size _).grown hg5 (by simp; omega) (fun k hk => ((bools_ok _).lt Hb.out.1 k (by rw [Hb.out.1.2, hk]; simp)).1)
          have hS6 : BoolsE w.heap.size w5 (.slice (some ⟨g1, 0, none⟩) (s * m + t + 1) cap1) (prodT F xs ys s (t + 1)) [g1] := by
            rw [Hw.out, HF.out]
            refine ⟨?_, rfl⟩
            rw [List.length_append, Hl.out s t hlt ht, List.flatMap_append]
            exact hown
          clear hown hg5 hat
          go_wp2
          go_roundw
          case rel => exact ⟨t + 1, by omega, by go_num, ⟨_, hS6⟩, hB6⟩
          case measure => simp [intOf]; omega
        · have e : t = m := by omega
          subst e
          rw [Hnx.out s hlt] at hS
          have e9 : s * t + t = (s + 1) * t := by rw [Nat.add_mul, Nat.one_mul]
          have HS9 := Lib.hid (And.intro hS hB)
          clear hS hB
          go_wp2
          go_roundw
          case rel => exact ⟨s + 1, by omega, by go_num, ⟨_, HS9.out.1⟩, HS9.out.2⟩
          case measure => simp [intOf]; omega
    · have e : s = n := by omega
      subst e
      rw [Ha.out] at hSO
      go_wp2
      go_ret
      exact ⟨_, bsO, rfl, hSO, hBO⟩

set_option maxHeartbeats 3200000 in
set_option maxRecDepth 100000 in
theorem prod_int {base base' : Nat} {v v' : Value} {xs ys : List (Int)} {bs bs' : List Nat} (w : World) (F : (Int) → (Int) → (Int)) (f : FuncId) (pre : Array Value) (hcf : ∀ args w, (callFunc f args).run Try.prog w = .ok (.enter f args) w) (hnx : xs.length ≤ 1000) (hny : ys.length ≤ 1000) (h : IntsE base w v xs bs) (h' : IntsE base' w v' ys bs')
    (hf : ∀ x ∈ xs, ∀ y ∈ ys, ∀ W, Below w.heap.size w W → Calls Try.prog f (pre ++ #[.int .i64 x, .int .i64 y]) W (fun e w' => e = .returned (.int .i64 (F x y)) ∧ Below W.heap.size W w')) :
    Calls Try.prog 230 #[v, v', .func (.func f) pre #[]] w (NewPost IntsE (prodL F xs ys) w) := by
  obtain ⟨i0, hi, hz0, hz1, hz2⟩ := info_parts toInfo_i64
  obtain ⟨A, ka, rfl⟩ := RowE.slice h
  obtain ⟨A', ka', rfl⟩ := RowE.slice h'
  have Hcf := Lib.hid hcf
  have Hf := Lib.hid hf
  have Hh := Lib.hid h
  have Hh' := Lib.hid h'
  clear hcf
  have Hm := Lib.hid (fun (s t : Nat) (x y : Int) (hx : xs[s]? = some x) (hy : ys[t]? = some y) => prodT_more (f := F) hx hy)
  have Hl := Lib.hid (fun (s t : Nat) (hs : s < xs.length) (ht : t ≤ ys.length) => prodT_len F xs ys hs ht)
  have Hl0 := Lib.hid (fun (s : Nat) (hs : s ≤ xs.length) => prodT_len0 F xs ys hs)
  have Hnx := Lib.hid (fun (s : Nat) (hs : s < xs.length) => prodT_next (f := F) (ys := ys) hs)
  have Hz := Lib.hid (prodT_zero F xs ys)
  have Ha := Lib.hid (prodT_all F xs ys)
  have Hx := Lib.hid (fun (j : Nat) (hj : j < xs.length) => (⟨_, List.getElem?_eq_getElem hj⟩ : ∃ x, xs[j]? = some x))
  have Hy := Lib.hid (fun (j : Nat) (hj : j < ys.length) => (⟨_, List.getElem?_eq_getElem hj⟩ : ∃ x, ys[j]? = some x))
  obtain ⟨n, hn'⟩ : ∃ n, n = xs.length := ⟨_, rfl⟩
  obtain ⟨m, hm'⟩ : ∃ m, m = ys.length := ⟨_, rfl⟩
  rw [← hn'] at hnx Hl Hl0 Hx Hh Hnx Ha ⊢
  rw [← hm'] at hny Hl Hl0 Hy Hh' Hnx ⊢
  have Hn := Lib.hid hn'
  have HM := Lib.hid hm'
  clear hf h h' hn' hm'
  go_enter Try.func230, Try.ntmps230
  go_wp2_with fail
  go_loopw [7, 14] (fun sm i wr => ∃ s : Nat, s ≤ n ∧ i = .int .i64 s ∧ (∃ bs, IntsE w.heap.size wr sm (prodT F xs ys s 0) bs) ∧ Below w.heap.size w wr) (fun _ i _ => n - (intOf i).toNat)
  case atStart =>
    refine ⟨0, Nat.zero_le _, rfl, ⟨[], ?_⟩, Below.refl _ _⟩
    rw [Hz.out]
    exact ⟨by simpa using World.ownsRow_nil w w.heap.size _ _, by simp [Value.ownBlock]⟩
  case round =>
    obtain ⟨s, hs, rfl, ⟨bsO, hSO⟩, hBO⟩ := hrel
    obtain ⟨Wo, rfl⟩ : ∃ y, y = wr := ⟨_, rfl⟩
    obtain ⟨Ao, co, e'⟩ := RowE.slice hSO
    rw [Hl0.out s hs] at e'
    subst e'
    by_cases hlt : s < n
    · obtain ⟨x, hx⟩ := Hx.out s hlt
      have hmem := List.mem_of_getElem? hx
      have hwo := (ints_ok _).later Hh.out hBO
      obtain ⟨g, hAg, hg, _⟩ := RowE.head hwo (by rw [← Hn.out]; exact hlt)
      subst hAg
      have hc : Wo.cell? ⟨g, s, none⟩ = _ := IntsE.cell' hwo hx
      have HSO := Lib.hid (And.intro hSO hBO)
      have Hxx := Lib.hid hx
      have Hmem := Lib.hid hmem
      clear hx hmem hwo hSO hBO
      go_wp2_with fail
      go_loopw [7, 20] (fun sm i wr => ∃ t : Nat, t ≤ m ∧ i = .int .i64 t ∧ (∃ bs, IntsE w.heap.size wr sm (prodT F xs ys s t) bs) ∧ Below w.heap.size w wr) (fun _ i _ => m - (intOf i).toNat)
      case atStart => exact ⟨0, Nat.zero_le _, rfl, ⟨_, HSO.out.1⟩, HSO.out.2⟩
      case round =>
        obtain ⟨t, ht, rfl, ⟨bs, hS⟩, hB⟩ := hrel
        obtain ⟨A1', ca, e'⟩ := RowE.slice hS
        rw [Hl.out s t hlt ht] at e'
        subst e'
        by_cases hlt2 : t < m
        · obtain ⟨y, hy⟩ := Hy.out t hlt2
          have hmemy := List.mem_of_getElem? hy
          have hwr := (ints_ok _).later Hh'.out hB
          have hst : s * m + t < 1000000 := by
            have h1 : s * m ≤ 999 * 1000 := Nat.mul_le_mul (by omega) hny
            omega
          obtain ⟨g', hAg, hg', _⟩ := RowE.head hwr (by rw [← HM.out]; exact hlt2)
          subst hAg
          have hc : wr.cell? ⟨g', t, none⟩ = _ := IntsE.cell' hwr hy
          have hq := Hf.out x Hmem.out y hmemy wr hB
          have Hq := Lib.hid hq
          have Hw := Lib.hid (Hm.out s t x y Hxx.out hy)
          have HS := Lib.hid (And.intro hS hB)
          clear hq hy hmemy hwr hS hB
          have hcf := Hcf.out
          go_wp2_with fail
          clear hcf
          refine Hq.out.mono ?_
          rintro e w1 ⟨rfl, hb1⟩
          have hS1 := (ints_ok _).later HS.out.1 hb1
          have hB1 := HS.out.2.trans (hb1.mono HS.out.2.size)
          have hrow := hS1.1
          rw [Hl.out s t hlt ht] at hrow
          have Hb := Lib.hid (And.intro hS1 (And.intro hB1 hrow))
          have hz3 := hB1.size
          clear hS1 hB1 hrow hb1 Hq
          obtain ⟨z, hy⟩ : ∃ z, z = F x y := ⟨_, rfl⟩
          rw [← hy]
          have HF := Lib.hid hy.symm
          clear hy
          go_wp2_with (at_builtin; refine wpList_append_lies _ rfl _ _ 38 rfl w.heap.size 2 i0 (.int .i64 0) 1 8 Try.underlying38 hi hz0 hz1 hz2 rfl (by decide) _ (s * m + t) _ rfl (Hb.out.2.2.alloc _) ⟨w1.heap.size, 0, none⟩ 1 1 [.int .i64 z] rfl rfl (World.news_of_block (Bx.new w1 _ _)) (one_sing rfl) (by decide) ?c1 ?c2 ?c3 _ rfl ?_)
          case c1 => unfold maxLen; omega
          case c2 => omega
          case c3 => simp; omega
          intro g1 cap1 w5 hown hg5 hat hltg
          have hB6 : Below w.heap.size w w5 := (Hb.out.2.1.alloc Hb.out.2.1.size _).grown hg5 (by simp; omega) (fun k hk => ((ints_ok _).lt Hb.out.1 k (by rw [Hb.out.1.2, hk]; simp)).1)
          have hS6 : IntsE w.heap.size w5 (.slice (some ⟨g1, 0, none⟩) (s * m + t + 1) cap1) (prodT F xs ys s (t + 1)) [g1] := by
            rw [Hw.out, HF.out]
            refine ⟨?_, rfl⟩
            rw [List.length_append, Hl.out s t hlt ht, List.flatMap_append]
            exact hown
          clear hown hg5 hat
          go_wp2
          go_roundw
          case rel => exact ⟨t + 1, by omega, by go_num, ⟨_, hS6⟩, hB6⟩
          case measure => simp [intOf]; omega
        · have e : t = m := by omega
          subst e
          rw [Hnx.out s hlt] at hS
          have e9 : s * t + t = (s + 1) * t := by rw [Nat.add_mul, Nat.one_mul]
          have HS9 := Lib.hid (And.intro hS hB)
          clear hS hB
          go_wp2
          go_roundw
          case rel => exact ⟨s + 1, by omega, by go_num, ⟨_, HS9.out.1⟩, HS9.out.2⟩
          case measure => simp [intOf]; omega
    · have e : s = n := by omega
      subst e
      rw [Ha.out] at hSO
      go_wp2
      go_ret
      exact ⟨_, bsO, rfl, hSO, hBO⟩

set_option maxHeartbeats 3200000 in
set_option maxRecDepth 100000 in
theorem prod_pushes {base base' : Nat} {v v' : Value} {xs ys : List (List (Int × Int))} {bs bs' : List Nat} (w : World) (F : (List (Int × Int)) → (List (Int × Int)) → (List (Int × Int))) (f : FuncId) (pre : Array Value) (hcf : ∀ args w, (callFunc f args).run Try.prog w = .ok (.enter f args) w) (hnx : xs.length ≤ 1000) (hny : ys.length ≤ 1000) (h : Push2E base w v xs bs) (h' : Push2E base' w v' ys bs')
    (hf : ∀ x ∈ xs, ∀ y ∈ ys, ∀ W u u' b b' c c', Below w.heap.size w W → PushE b W u x c → PushE b' W u' y c' → Calls Try.prog f (pre ++ #[u, u']) W (NewPost PushE (F x y) W)) :
    Calls Try.prog 192 #[v, v', .func (.func f) pre #[]] w (NewPost Push2E (prodL F xs ys) w) := by
  obtain ⟨i0, hi, hz0, hz1, hz2⟩ := info_parts toInfo_pushes
  obtain ⟨A, ka, rfl⟩ := ManyE.slice h
  obtain ⟨A', ka', rfl⟩ := ManyE.slice h'
  have Hcf := Lib.hid hcf
  have Hf := Lib.hid hf
  have Hh := Lib.hid h
  have Hh' := Lib.hid h'
  clear hcf
  have Hm := Lib.hid (fun (s t : Nat) (x y : List (Int × Int)) (hx : xs[s]? = some x) (hy : ys[t]? = some y) => prodT_more (f := F) hx hy)
  have Hl := Lib.hid (fun (s t : Nat) (hs : s < xs.length) (ht : t ≤ ys.length) => prodT_len F xs ys hs ht)
  have Hl0 := Lib.hid (fun (s : Nat) (hs : s ≤ xs.length) => prodT_len0 F xs ys hs)
  have Hnx := Lib.hid (fun (s : Nat) (hs : s < xs.length) => prodT_next (f := F) (ys := ys) hs)
  have Hz := Lib.hid (prodT_zero F xs ys)
  have Ha := Lib.hid (prodT_all F xs ys)
  have Hx := Lib.hid (fun (j : Nat) (hj : j < xs.length) => (⟨_, List.getElem?_eq_getElem hj⟩ : ∃ x, xs[j]? = some x))
  have Hy := Lib.hid (fun (j : Nat) (hj : j < ys.length) => (⟨_, List.getElem?_eq_getElem hj⟩ : ∃ x, ys[j]? = some x))
  obtain ⟨n, hn'⟩ : ∃ n, n = xs.length := ⟨_, rfl⟩
  obtain ⟨m, hm'⟩ : ∃ m, m = ys.length := ⟨_, rfl⟩
  rw [← hn'] at hnx Hl Hl0 Hx Hh Hnx Ha ⊢
  rw [← hm'] at hny Hl Hl0 Hy Hh' Hnx ⊢
  have Hn := Lib.hid hn'
  have HM := Lib.hid hm'
  clear hf h h' hn' hm'
  go_enter Try.func192, Try.ntmps192
  go_wp2_with fail
  go_loopw [7, 14] (fun sm i wr => ∃ s : Nat, s ≤ n ∧ i = .int .i64 s ∧ (∃ bs, Push2E w.heap.size wr sm (prodT F xs ys s 0) bs) ∧ Below w.heap.size w wr) (fun _ i _ => n - (intOf i).toNat)
  case atStart =>
    refine ⟨0, Nat.zero_le _, rfl, ⟨[], ?_⟩, Below.refl _ _⟩
    rw [Hz.out]
    exact ManyE.nil _ _ _ _
  case round =>
    obtain ⟨s, hs, rfl, ⟨bsO, hSO⟩, hBO⟩ := hrel
    obtain ⟨Wo, rfl⟩ : ∃ y, y = wr := ⟨_, rfl⟩
    obtain ⟨Ao, co, e'⟩ := ManyE.slice hSO
    rw [Hl0.out s hs] at e'
    subst e'
    by_cases hlt : s < n
    · obtain ⟨x, hx⟩ := Hx.out s hlt
      have hmem := List.mem_of_getElem? hx
      have hwo := (push2_ok _).later Hh.out hBO
      obtain ⟨g, us, ux, dx, hv, hc0, hE, hg, _⟩ := Hh.out.at_ (push_ok _) hx
      simp only [Value.slice.injEq] at hv
      obtain ⟨hAg, h8, h9⟩ := hv
      subst hAg
      clear h8 h9
      obtain ⟨A2, n2, k2, e2⟩ : ∃ A2 n2 k2, ux = .slice A2 n2 k2 := by obtain ⟨A2, k2, e⟩ := RowE.slice hE; exact ⟨_, _, _, e⟩
      subst e2
      have hc : Wo.cell? ⟨g, s, none⟩ = _ := (hBO.cell (p := ⟨g, s, none⟩) hg).trans hc0
      have HE := Lib.hid hE
      clear hE hc0
      have HSO := Lib.hid (And.intro hSO hBO)
      have Hxx := Lib.hid hx
      have Hmem := Lib.hid hmem
      clear hx hmem hwo hSO hBO
      go_wp2_with fail
      go_loopw [7, 20] (fun sm i wr => ∃ t : Nat, t ≤ m ∧ i = .int .i64 t ∧ (∃ bs, Push2E w.heap.size wr sm (prodT F xs ys s t) bs) ∧ Below w.heap.size w wr) (fun _ i _ => m - (intOf i).toNat)
      case atStart => exact ⟨0, Nat.zero_le _, rfl, ⟨_, HSO.out.1⟩, HSO.out.2⟩
      case round =>
        obtain ⟨t, ht, rfl, ⟨bs, hS⟩, hB⟩ := hrel
        obtain ⟨A1', ca, e'⟩ := ManyE.slice hS
        rw [Hl.out s t hlt ht] at e'
        subst e'
        by_cases hlt2 : t < m
        · obtain ⟨y, hy⟩ := Hy.out t hlt2
          have hmemy := List.mem_of_getElem? hy
          have hwr := (push2_ok _).later Hh'.out hB
          have hst : s * m + t < 1000000 := by
            have h1 : s * m ≤ 999 * 1000 := Nat.mul_le_mul (by omega) hny
            omega
          obtain ⟨g', us', uy, dy, hv, hc, hE, hg', _⟩ := hwr.at_ (push_ok _) hy
          simp only [Value.slice.injEq] at hv
          obtain ⟨hAg, h8, h9⟩ := hv
          subst hAg
          clear h8 h9
          have hq := Hf.out x Hmem.out y hmemy wr _ uy _ _ _ _ hB ((push_ok _).later HE.out hB) hE
          obtain ⟨A3, k3, rfl⟩ := RowE.slice hE
          have Hq := Lib.hid hq
          have Hw := Lib.hid (Hm.out s t x y Hxx.out hy)
          have HS := Lib.hid (And.intro hS hB)
          clear hq hy hmemy hwr hS hB hE
          have hcf := Hcf.out
          go_wp2_with fail
          clear hcf
          refine Hq.out.mono ?_
          rintro e w1 ⟨v1, cs1, rfl, hE1, hb1⟩
          have hS1 := (push2_ok _).later HS.out.1 hb1
          have hB1 := HS.out.2.trans (hb1.mono HS.out.2.size)
          obtain ⟨vs, hrow, _⟩ := hS1.held
          rw [Hl.out s t hlt ht] at hrow
          have hd : ∀ b ∈ bs, b ∉ cs1 := fun b h1 h2 => by have t1 := ((push2_ok _).lt HS.out.1 b h1).2; have t2 := ((push_ok _).lt hE1 b h2).1; omega
          have hE2 : PushE w.heap.size w1 v1 (F x y) cs1 := pushes_base HS.out.2.size _ _ _ _ hE1
          obtain ⟨A1, n1, k1, rfl⟩ : ∃ A1 n1 k1, v1 = .slice A1 n1 k1 := by obtain ⟨A1, k1, e⟩ := RowE.slice hE1; exact ⟨_, _, _, e⟩
          have Hb := Lib.hid (And.intro hS1 (And.intro hB1 (And.intro hrow (And.intro hd hE2))))
          have hz3 := hB1.size
          clear hS1 hB1 hrow hd hE1 hE2 hb1 Hq
          go_wp2_with (at_builtin; refine wpList_append_lies _ rfl _ _ 29 rfl w.heap.size 112 i0 (.slice none 0 0) 1 24 Try.underlying29 hi hz0 hz1 hz2 rfl (by decide) _ (s * m + t) _ rfl (Hb.out.2.2.1.alloc _) ⟨w1.heap.size, 0, none⟩ 1 1 [.slice A1 n1 k1] rfl rfl (World.news_of_block (Bx.new w1 _ _)) (one_sing rfl) (by decide) ?c1 ?c2 ?c3 _ rfl ?_)
          case c1 => unfold maxLen; omega
          case c2 => omega
          case c3 => simp; omega
          intro g1 cap1 w5 hown hg5 hat hltg
          have hB6 : Below w.heap.size w w5 := (Hb.out.2.1.alloc Hb.out.2.1.size _).grown hg5 (by simp; omega) (fun k hk => ((push2_ok _).lt Hb.out.1 k (by exact Hb.out.1.held.choose_spec.2 k hk)).1)
          obtain ⟨bs6, hS6, _⟩ := many_grow (push_ok _) ((push2_ok _).later Hb.out.1 ((Below.refl _ _).alloc (Nat.le_refl _) _)) (Hl.out s t hlt ht) (Hb.out.2.2.1.alloc _) ((push_ok _).later Hb.out.2.2.2.2 ((Below.refl _ _).alloc (Nat.le_refl _) _)) Hb.out.2.2.2.1 hown hg5 rfl (by rcases hat with h | h; exact .inl h; exact .inr (by rw [World.size_alloc]; exact h))
          rw [← Hw.out] at hS6
          clear hown hg5 hat
          go_wp2
          go_roundw
          case rel => exact ⟨t + 1, by omega, by go_num, ⟨_, hS6⟩, hB6⟩
          case measure => simp [intOf]; omega
        · have e : t = m := by omega
          subst e
          rw [Hnx.out s hlt] at hS
          have e9 : s * t + t = (s + 1) * t := by rw [Nat.add_mul, Nat.one_mul]
          have HS9 := Lib.hid (And.intro hS hB)
          clear hS hB
          go_wp2
          go_roundw
          case rel => exact ⟨s + 1, by omega, by go_num, ⟨_, HS9.out.1⟩, HS9.out.2⟩
          case measure => simp [intOf]; omega
    · have e : s = n := by omega
      subst e
      rw [Ha.out] at hSO
      go_wp2
      go_ret
      exact ⟨_, bsO, rfl, hSO, hBO⟩

set_option maxHeartbeats 3200000 in
set_option maxRecDepth 100000 in
theorem prod_ints {base base' : Nat} {v v' : Value} {xs ys : List (List Int)} {bs bs' : List Nat} (w : World) (F : (List Int) → (List Int) → (List Int)) (f : FuncId) (pre : Array Value) (hcf : ∀ args w, (callFunc f args).run Try.prog w = .ok (.enter f args) w) (hnx : xs.length ≤ 1000) (hny : ys.length ≤ 1000) (h : Ints2E base w v xs bs) (h' : Ints2E base' w v' ys bs')
    (hf : ∀ x ∈ xs, ∀ y ∈ ys, ∀ W u u' b b' c c', Below w.heap.size w W → IntsE b W u x c → IntsE b' W u' y c' → Calls Try.prog f (pre ++ #[u, u']) W (NewPost IntsE (F x y) W)) :
    Calls Try.prog 196 #[v, v', .func (.func f) pre #[]] w (NewPost Ints2E (prodL F xs ys) w) := by
  obtain ⟨i0, hi, hz0, hz1, hz2⟩ := info_parts toInfo_ints
  obtain ⟨A, ka, rfl⟩ := ManyE.slice h
  obtain ⟨A', ka', rfl⟩ := ManyE.slice h'
  have Hcf := Lib.hid hcf
  have Hf := Lib.hid hf
  have Hh := Lib.hid h
  have Hh' := Lib.hid h'
  clear hcf
  have Hm := Lib.hid (fun (s t : Nat) (x y : List Int) (hx : xs[s]? = some x) (hy : ys[t]? = some y) => prodT_more (f := F) hx hy)
  have Hl := Lib.hid (fun (s t : Nat) (hs : s < xs.length) (ht : t ≤ ys.length) => prodT_len F xs ys hs ht)
  have Hl0 := Lib.hid (fun (s : Nat) (hs : s ≤ xs.length) => prodT_len0 F xs ys hs)
  have Hnx := Lib.hid (fun (s : Nat) (hs : s < xs.length) => prodT_next (f := F) (ys := ys) hs)
  have Hz := Lib.hid (prodT_zero F xs ys)
  have Ha := Lib.hid (prodT_all F xs ys)
  have Hx := Lib.hid (fun (j : Nat) (hj : j < xs.length) => (⟨_, List.getElem?_eq_getElem hj⟩ : ∃ x, xs[j]? = some x))
  have Hy := Lib.hid (fun (j : Nat) (hj : j < ys.length) => (⟨_, List.getElem?_eq_getElem hj⟩ : ∃ x, ys[j]? = some x))
  obtain ⟨n, hn'⟩ : ∃ n, n = xs.length := ⟨_, rfl⟩
  obtain ⟨m, hm'⟩ : ∃ m, m = ys.length := ⟨_, rfl⟩
  rw [← hn'] at hnx Hl Hl0 Hx Hh Hnx Ha ⊢
  rw [← hm'] at hny Hl Hl0 Hy Hh' Hnx ⊢
  have Hn := Lib.hid hn'
  have HM := Lib.hid hm'
  clear hf h h' hn' hm'
  go_enter Try.func196, Try.ntmps196
  go_wp2_with fail
  go_loopw [7, 14] (fun sm i wr => ∃ s : Nat, s ≤ n ∧ i = .int .i64 s ∧ (∃ bs, Ints2E w.heap.size wr sm (prodT F xs ys s 0) bs) ∧ Below w.heap.size w wr) (fun _ i _ => n - (intOf i).toNat)
  case atStart =>
    refine ⟨0, Nat.zero_le _, rfl, ⟨[], ?_⟩, Below.refl _ _⟩
    rw [Hz.out]
    exact ManyE.nil _ _ _ _
  case round =>
    obtain ⟨s, hs, rfl, ⟨bsO, hSO⟩, hBO⟩ := hrel
    obtain ⟨Wo, rfl⟩ : ∃ y, y = wr := ⟨_, rfl⟩
    obtain ⟨Ao, co, e'⟩ := ManyE.slice hSO
    rw [Hl0.out s hs] at e'
    subst e'
    by_cases hlt : s < n
    · obtain ⟨x, hx⟩ := Hx.out s hlt
      have hmem := List.mem_of_getElem? hx
      have hwo := (ints2_ok _).later Hh.out hBO
      obtain ⟨g, us, ux, dx, hv, hc0, hE, hg, _⟩ := Hh.out.at_ (ints_ok _) hx
      simp only [Value.slice.injEq] at hv
      obtain ⟨hAg, h8, h9⟩ := hv
      subst hAg
      clear h8 h9
      obtain ⟨A2, n2, k2, e2⟩ : ∃ A2 n2 k2, ux = .slice A2 n2 k2 := by obtain ⟨A2, k2, e⟩ := RowE.slice hE; exact ⟨_, _, _, e⟩
      subst e2
      have hc : Wo.cell? ⟨g, s, none⟩ = _ := (hBO.cell (p := ⟨g, s, none⟩) hg).trans hc0
      have HE := Lib.hid hE
      clear hE hc0
      have HSO := Lib.hid (And.intro hSO hBO)
      have Hxx := Lib.hid hx
      have Hmem := Lib.hid hmem
      clear hx hmem hwo hSO hBO
      go_wp2_with fail
      go_loopw [7, 20] (fun sm i wr => ∃ t : Nat, t ≤ m ∧ i = .int .i64 t ∧ (∃ bs, Ints2E w.heap.size wr sm (prodT F xs ys s t) bs) ∧ Below w.heap.size w wr) (fun _ i _ => m - (intOf i).toNat)
      case atStart => exact ⟨0, Nat.zero_le _, rfl, ⟨_, HSO.out.1⟩, HSO.out.2⟩
      case round =>
        obtain ⟨t, ht, rfl, ⟨bs, hS⟩, hB⟩ := hrel
        obtain ⟨A1', ca, e'⟩ := ManyE.slice hS
        rw [Hl.out s t hlt ht] at e'
        subst e'
        by_cases hlt2 : t < m
        · obtain ⟨y, hy⟩ := Hy.out t hlt2
          have hmemy := List.mem_of_getElem? hy
          have hwr := (ints2_ok _).later Hh'.out hB
          have hst : s * m + t < 1000000 := by
            have h1 : s * m ≤ 999 * 1000 := Nat.mul_le_mul (by omega) hny
            omega
          obtain ⟨g', us', uy, dy, hv, hc, hE, hg', _⟩ := hwr.at_ (ints_ok _) hy
          simp only [Value.slice.injEq] at hv
          obtain ⟨hAg, h8, h9⟩ := hv
          subst hAg
          clear h8 h9
          have hq := Hf.out x Hmem.out y hmemy wr _ uy _ _ _ _ hB ((ints_ok _).later HE.out hB) hE
          obtain ⟨A3, k3, rfl⟩ := RowE.slice hE
          have Hq := Lib.hid hq
          have Hw := Lib.hid (Hm.out s t x y Hxx.out hy)
          have HS := Lib.hid (And.intro hS hB)
          clear hq hy hmemy hwr hS hB hE
          have hcf := Hcf.out
          go_wp2_with fail
          clear hcf
          refine Hq.out.mono ?_
          rintro e w1 ⟨v1, cs1, rfl, hE1, hb1⟩
          have hS1 := (ints2_ok _).later HS.out.1 hb1
          have hB1 := HS.out.2.trans (hb1.mono HS.out.2.size)
          obtain ⟨vs, hrow, _⟩ := hS1.held
          rw [Hl.out s t hlt ht] at hrow
          have hd : ∀ b ∈ bs, b ∉ cs1 := fun b h1 h2 => by have t1 := ((ints2_ok _).lt HS.out.1 b h1).2; have t2 := ((ints_ok _).lt hE1 b h2).1; omega
          have hE2 : IntsE w.heap.size w1 v1 (F x y) cs1 := ints_base HS.out.2.size _ _ _ _ hE1
          obtain ⟨A1, n1, k1, rfl⟩ : ∃ A1 n1 k1, v1 = .slice A1 n1 k1 := by obtain ⟨A1, k1, e⟩ := RowE.slice hE1; exact ⟨_, _, _, e⟩
          have Hb := Lib.hid (And.intro hS1 (And.intro hB1 (And.intro hrow (And.intro hd hE2))))
          have hz3 := hB1.size
          clear hS1 hB1 hrow hd hE1 hE2 hb1 Hq
          go_wp2_with (at_builtin; refine wpList_append_lies _ rfl _ _ 25 rfl w.heap.size 38 i0 (.slice none 0 0) 1 24 Try.underlying25 hi hz0 hz1 hz2 rfl (by decide) _ (s * m + t) _ rfl (Hb.out.2.2.1.alloc _) ⟨w1.heap.size, 0, none⟩ 1 1 [.slice A1 n1 k1] rfl rfl (World.news_of_block (Bx.new w1 _ _)) (one_sing rfl) (by decide) ?c1 ?c2 ?c3 _ rfl ?_)
          case c1 => unfold maxLen; omega
          case c2 => omega
          case c3 => simp; omega
          intro g1 cap1 w5 hown hg5 hat hltg
          have hB6 : Below w.heap.size w w5 := (Hb.out.2.1.alloc Hb.out.2.1.size _).grown hg5 (by simp; omega) (fun k hk => ((ints2_ok _).lt Hb.out.1 k (by exact Hb.out.1.held.choose_spec.2 k hk)).1)
          obtain ⟨bs6, hS6, _⟩ := many_grow (ints_ok _) ((ints2_ok _).later Hb.out.1 ((Below.refl _ _).alloc (Nat.le_refl _) _)) (Hl.out s t hlt ht) (Hb.out.2.2.1.alloc _) ((ints_ok _).later Hb.out.2.2.2.2 ((Below.refl _ _).alloc (Nat.le_refl _) _)) Hb.out.2.2.2.1 hown hg5 rfl (by rcases hat with h | h; exact .inl h; exact .inr (by rw [World.size_alloc]; exact h))
          rw [← Hw.out] at hS6
          clear hown hg5 hat
          go_wp2
          go_roundw
          case rel => exact ⟨t + 1, by omega, by go_num, ⟨_, hS6⟩, hB6⟩
          case measure => simp [intOf]; omega
        · have e : t = m := by omega
          subst e
          rw [Hnx.out s hlt] at hS
          have e9 : s * t + t = (s + 1) * t := by rw [Nat.add_mul, Nat.one_mul]
          have HS9 := Lib.hid (And.intro hS hB)
          clear hS hB
          go_wp2
          go_roundw
          case rel => exact ⟨s + 1, by omega, by go_num, ⟨_, HS9.out.1⟩, HS9.out.2⟩
          case measure => simp [intOf]; omega
    · have e : s = n := by omega
      subst e
      rw [Ha.out] at hSO
      go_wp2
      go_ret
      exact ⟨_, bsO, rfl, hSO, hBO⟩

set_option maxHeartbeats 3200000 in
set_option maxRecDepth 100000 in
theorem prod_ints2 {base base' : Nat} {v v' : Value} {xs ys : List (List (List Int))} {bs bs' : List Nat} (w : World) (F : (List (List Int)) → (List (List Int)) → (List (List Int))) (f : FuncId) (pre : Array Value) (hcf : ∀ args w, (callFunc f args).run Try.prog w = .ok (.enter f args) w) (hnx : xs.length ≤ 1000) (hny : ys.length ≤ 1000) (h : Ints3E base w v xs bs) (h' : Ints3E base' w v' ys bs')
    (hf : ∀ x ∈ xs, ∀ y ∈ ys, ∀ W u u' b b' c c', Below w.heap.size w W → Ints2E b W u x c → Ints2E b' W u' y c' → Calls Try.prog f (pre ++ #[u, u']) W (NewPost Ints2E (F x y) W)) :
    Calls Try.prog 194 #[v, v', .func (.func f) pre #[]] w (NewPost Ints3E (prodL F xs ys) w) := by
  obtain ⟨i0, hi, hz0, hz1, hz2⟩ := info_parts toInfo_ints2
  obtain ⟨A, ka, rfl⟩ := ManyE.slice h
  obtain ⟨A', ka', rfl⟩ := ManyE.slice h'
  have Hcf := Lib.hid hcf
  have Hf := Lib.hid hf
  have Hh := Lib.hid h
  have Hh' := Lib.hid h'
  clear hcf
  have Hm := Lib.hid (fun (s t : Nat) (x y : List (List Int)) (hx : xs[s]? = some x) (hy : ys[t]? = some y) => prodT_more (f := F) hx hy)
  have Hl := Lib.hid (fun (s t : Nat) (hs : s < xs.length) (ht : t ≤ ys.length) => prodT_len F xs ys hs ht)
  have Hl0 := Lib.hid (fun (s : Nat) (hs : s ≤ xs.length) => prodT_len0 F xs ys hs)
  have Hnx := Lib.hid (fun (s : Nat) (hs : s < xs.length) => prodT_next (f := F) (ys := ys) hs)
  have Hz := Lib.hid (prodT_zero F xs ys)
  have Ha := Lib.hid (prodT_all F xs ys)
  have Hx := Lib.hid (fun (j : Nat) (hj : j < xs.length) => (⟨_, List.getElem?_eq_getElem hj⟩ : ∃ x, xs[j]? = some x))
  have Hy := Lib.hid (fun (j : Nat) (hj : j < ys.length) => (⟨_, List.getElem?_eq_getElem hj⟩ : ∃ x, ys[j]? = some x))
  obtain ⟨n, hn'⟩ : ∃ n, n = xs.length := ⟨_, rfl⟩
  obtain ⟨m, hm'⟩ : ∃ m, m = ys.length := ⟨_, rfl⟩
  rw [← hn'] at hnx Hl Hl0 Hx Hh Hnx Ha ⊢
  rw [← hm'] at hny Hl Hl0 Hy Hh' Hnx ⊢
  have Hn := Lib.hid hn'
  have HM := Lib.hid hm'
  clear hf h h' hn' hm'
  go_enter Try.func194, Try.ntmps194
  go_wp2_with fail
  go_loopw [7, 14] (fun sm i wr => ∃ s : Nat, s ≤ n ∧ i = .int .i64 s ∧ (∃ bs, Ints3E w.heap.size wr sm (prodT F xs ys s 0) bs) ∧ Below w.heap.size w wr) (fun _ i _ => n - (intOf i).toNat)
  case atStart =>
    refine ⟨0, Nat.zero_le _, rfl, ⟨[], ?_⟩, Below.refl _ _⟩
    rw [Hz.out]
    exact ManyE.nil _ _ _ _
  case round =>
    obtain ⟨s, hs, rfl, ⟨bsO, hSO⟩, hBO⟩ := hrel
    obtain ⟨Wo, rfl⟩ : ∃ y, y = wr := ⟨_, rfl⟩
    obtain ⟨Ao, co, e'⟩ := ManyE.slice hSO
    rw [Hl0.out s hs] at e'
    subst e'
    by_cases hlt : s < n
    · obtain ⟨x, hx⟩ := Hx.out s hlt
      have hmem := List.mem_of_getElem? hx
      have hwo := (ints3_ok _).later Hh.out hBO
      obtain ⟨g, us, ux, dx, hv, hc0, hE, hg, _⟩ := Hh.out.at_ (ints2_ok _) hx
      simp only [Value.slice.injEq] at hv
      obtain ⟨hAg, h8, h9⟩ := hv
      subst hAg
      clear h8 h9
      obtain ⟨A2, n2, k2, e2⟩ : ∃ A2 n2 k2, ux = .slice A2 n2 k2 := by obtain ⟨A2, k2, e⟩ := ManyE.slice hE; exact ⟨_, _, _, e⟩
      subst e2
      have hc : Wo.cell? ⟨g, s, none⟩ = _ := (hBO.cell (p := ⟨g, s, none⟩) hg).trans hc0
      have HE := Lib.hid hE
      clear hE hc0
      have HSO := Lib.hid (And.intro hSO hBO)
      have Hxx := Lib.hid hx
      have Hmem := Lib.hid hmem
      clear hx hmem hwo hSO hBO
      go_wp2_with fail
      go_loopw [7, 20] (fun sm i wr => ∃ t : Nat, t ≤ m ∧ i = .int .i64 t ∧ (∃ bs, Ints3E w.heap.size wr sm (prodT F xs ys s t) bs) ∧ Below w.heap.size w wr) (fun _ i _ => m - (intOf i).toNat)
      case atStart => exact ⟨0, Nat.zero_le _, rfl, ⟨_, HSO.out.1⟩, HSO.out.2⟩
      case round =>
        obtain ⟨t, ht, rfl, ⟨bs, hS⟩, hB⟩ := hrel
        obtain ⟨A1', ca, e'⟩ := ManyE.slice hS
        rw [Hl.out s t hlt ht] at e'
        subst e'
        by_cases hlt2 : t < m
        · obtain ⟨y, hy⟩ := Hy.out t hlt2
          have hmemy := List.mem_of_getElem? hy
          have hwr := (ints3_ok _).later Hh'.out hB
          have hst : s * m + t < 1000000 := by
            have h1 : s * m ≤ 999 * 1000 := Nat.mul_le_mul (by omega) hny
            omega
          obtain ⟨g', us', uy, dy, hv, hc, hE, hg', _⟩ := hwr.at_ (ints2_ok _) hy
          simp only [Value.slice.injEq] at hv
          obtain ⟨hAg, h8, h9⟩ := hv
          subst hAg
          clear h8 h9
          have hq := Hf.out x Hmem.out y hmemy wr _ uy _ _ _ _ hB ((ints2_ok _).later HE.out hB) hE
          obtain ⟨A3, k3, rfl⟩ := ManyE.slice hE
          have Hq := Lib.hid hq
          have Hw := Lib.hid (Hm.out s t x y Hxx.out hy)
          have HS := Lib.hid (And.intro hS hB)
          clear hq hy hmemy hwr hS hB hE
          have hcf := Hcf.out
          go_wp2_with fail
          clear hcf
          refine Hq.out.mono ?_
          rintro e w1 ⟨v1, cs1, rfl, hE1, hb1⟩
          have hS1 := (ints3_ok _).later HS.out.1 hb1
          have hB1 := HS.out.2.trans (hb1.mono HS.out.2.size)
          obtain ⟨vs, hrow, _⟩ := hS1.held
          rw [Hl.out s t hlt ht] at hrow
          have hd : ∀ b ∈ bs, b ∉ cs1 := fun b h1 h2 => by have t1 := ((ints3_ok _).lt HS.out.1 b h1).2; have t2 := ((ints2_ok _).lt hE1 b h2).1; omega
          have hE2 : Ints2E w.heap.size w1 v1 (F x y) cs1 := ints2_base HS.out.2.size _ _ _ _ hE1
          obtain ⟨A1, n1, k1, rfl⟩ : ∃ A1 n1 k1, v1 = .slice A1 n1 k1 := by obtain ⟨A1, k1, e⟩ := ManyE.slice hE1; exact ⟨_, _, _, e⟩
          have Hb := Lib.hid (And.intro hS1 (And.intro hB1 (And.intro hrow (And.intro hd hE2))))
          have hz3 := hB1.size
          clear hS1 hB1 hrow hd hE1 hE2 hb1 Hq
          go_wp2_with (at_builtin; refine wpList_append_lies _ rfl _ _ 24 rfl w.heap.size 25 i0 (.slice none 0 0) 1 24 Try.underlying24 hi hz0 hz1 hz2 rfl (by decide) _ (s * m + t) _ rfl (Hb.out.2.2.1.alloc _) ⟨w1.heap.size, 0, none⟩ 1 1 [.slice A1 n1 k1] rfl rfl (World.news_of_block (Bx.new w1 _ _)) (one_sing rfl) (by decide) ?c1 ?c2 ?c3 _ rfl ?_)
          case c1 => unfold maxLen; omega
          case c2 => omega
          case c3 => simp; omega
          intro g1 cap1 w5 hown hg5 hat hltg
          have hB6 : Below w.heap.size w w5 := (Hb.out.2.1.alloc Hb.out.2.1.size _).grown hg5 (by simp; omega) (fun k hk => ((ints3_ok _).lt Hb.out.1 k (by exact Hb.out.1.held.choose_spec.2 k hk)).1)
          obtain ⟨bs6, hS6, _⟩ := many_grow (ints2_ok _) ((ints3_ok _).later Hb.out.1 ((Below.refl _ _).alloc (Nat.le_refl _) _)) (Hl.out s t hlt ht) (Hb.out.2.2.1.alloc _) ((ints2_ok _).later Hb.out.2.2.2.2 ((Below.refl _ _).alloc (Nat.le_refl _) _)) Hb.out.2.2.2.1 hown hg5 rfl (by rcases hat with h | h; exact .inl h; exact .inr (by rw [World.size_alloc]; exact h))
          rw [← Hw.out] at hS6
          clear hown hg5 hat
          go_wp2
          go_roundw
          case rel => exact ⟨t + 1, by omega, by go_num, ⟨_, hS6⟩, hB6⟩
          case measure => simp [intOf]; omega
        · have e : t = m := by omega
          subst e
          rw [Hnx.out s hlt] at hS
          have e9 : s * t + t = (s + 1) * t := by rw [Nat.add_mul, Nat.one_mul]
          have HS9 := Lib.hid (And.intro hS hB)
          clear hS hB
          go_wp2
          go_roundw
          case rel => exact ⟨s + 1, by omega, by go_num, ⟨_, HS9.out.1⟩, HS9.out.2⟩
          case measure => simp [intOf]; omega
    · have e : s = n := by omega
      subst e
      rw [Ha.out] at hSO
      go_wp2
      go_ret
      exact ⟨_, bsO, rfl, hSO, hBO⟩

set_option maxHeartbeats 3200000 in
set_option maxRecDepth 100000 in
theorem side_push {base base' : Nat} {v v' : Value} {xs ys : List (Int × Int)} {bs bs' : List Nat} (w : World) (F : (Int × Int) → (Int × Int) → (Int × Int)) (f : FuncId) (pre : Array Value) (hcf : ∀ args w, (callFunc f args).run Try.prog w = .ok (.enter f args) w) (hnx : xs.length ≤ 1000) (hxy : xs.length = ys.length) (h : PushE base w v xs bs) (h' : PushE base' w v' ys bs')
    (hf : ∀ x ∈ xs, ∀ y ∈ ys, ∀ W, Below w.heap.size w W → Calls Try.prog f (pre ++ #[.agg #[.int .i64 x.1, .int .i64 x.2], .agg #[.int .i64 y.1, .int .i64 y.2]]) W (fun e w' => e = .returned (.agg #[.int .i64 (F x y).1, .int .i64 (F x y).2]) ∧ Below W.heap.size W w')) :
    Calls Try.prog 219 #[v, v', .func (.func f) pre #[]] w (NewPost PushE (List.zipWith F xs ys) w) := by
  obtain ⟨i0, hi, hz0, hz1, hz2⟩ := info_parts toInfo_push
  obtain ⟨A, ka, rfl⟩ := RowE.slice h
  obtain ⟨A', ka', rfl⟩ := RowE.slice h'
  have Hcf := Lib.hid hcf
  have Hf := Lib.hid hf
  have Hh := Lib.hid h
  have Hh' := Lib.hid h'
  clear hcf
  have Hm := Lib.hid (fun (t : Nat) (x y : Int × Int) (hx : xs[t]? = some x) (hy : ys[t]? = some y) => zipT_succ (f := F) hx hy)
  have Hl := Lib.hid (fun (t : Nat) (ht : t ≤ xs.length) => zipT_len F (xs := xs) (ys := ys) ht (by omega))
  have Ha := Lib.hid (zipT_all F (Nat.le_of_eq hxy))
  have Hz := Lib.hid (show zipT F xs ys 0 = [] by simp [zipT])
  have Hx := Lib.hid (fun (j : Nat) (hj : j < xs.length) => (⟨_, List.getElem?_eq_getElem hj⟩ : ∃ x, xs[j]? = some x))
  have Hy := Lib.hid (fun (j : Nat) (hj : j < xs.length) => (⟨_, List.getElem?_eq_getElem (by omega)⟩ : ∃ x, ys[j]? = some x))
  have Hxy := Lib.hid hxy
  rw [← hxy] at Hh' ⊢
  obtain ⟨n, hn'⟩ : ∃ n, n = xs.length := ⟨_, rfl⟩
  rw [← hn'] at hnx Hl Hx Hy Hh Hh' Ha ⊢
  have Hn := Lib.hid hn'
  clear hf h h' hn' hxy
  go_enter Try.func219, Try.ntmps219
  go_wp2_with fail
  go_loopw [7, 12] (fun sm i wr => ∃ t : Nat, t ≤ n ∧ i = .int .i64 t ∧ (∃ bs, PushE w.heap.size wr sm (zipT F xs ys t) bs) ∧ Below w.heap.size w wr) (fun _ i _ => n - (intOf i).toNat)
  case atStart =>
    refine ⟨0, Nat.zero_le _, rfl, ⟨[], ?_⟩, Below.refl _ _⟩
    rw [Hz.out]
    exact ⟨by simpa using World.ownsRow_nil w w.heap.size _ _, by simp [Value.ownBlock]⟩
  case round =>
    obtain ⟨t, ht, rfl, ⟨bs, hS⟩, hB⟩ := hrel
    obtain ⟨A1', ca, e'⟩ := RowE.slice hS
    rw [Hl.out t ht] at e'
    subst e'
    by_cases hlt : t < n
    · obtain ⟨x, hx⟩ := Hx.out t hlt
      obtain ⟨y, hy⟩ := Hy.out t hlt
      have hmem := List.mem_of_getElem? hx
      have hmemy := List.mem_of_getElem? hy
      have hwr := (push_ok _).later Hh.out hB
      have hwr' := (push_ok _).later Hh'.out hB
      obtain ⟨g, hAg, hg, _⟩ := RowE.head hwr (by rw [← Hn.out]; exact hlt)
      subst hAg
      obtain ⟨g', hAg, hg', _⟩ := RowE.head hwr' (by rw [← Hxy.out, ← Hn.out]; exact hlt)
      subst hAg
      have hc1 : wr.cell? ⟨g, t * 2, none⟩ = _ := (PushE.cell' hwr hx).1
      have hc2 : wr.cell? ⟨g, t * 2 + 1, none⟩ = _ := (PushE.cell' hwr hx).2
      have hc3 : wr.cell? ⟨g', t * 2, none⟩ = _ := (PushE.cell' hwr' hy).1
      have hc4 : wr.cell? ⟨g', t * 2 + 1, none⟩ = _ := (PushE.cell' hwr' hy).2
      have hnx2 := (Below.refl wr.heap.size wr).alloc (Nat.le_refl _) (.cells #[.int .i64 x.1, .int .i64 x.2] 115)
      replace hS := (push_ok _).later hS hnx2
      replace hB := hB.trans (hnx2.mono hB.size)
      have hc5 := (hnx2.cell (p := ⟨g', t * 2, none⟩) hg').trans hc3
      have hc6 := (hnx2.cell (p := ⟨g', t * 2 + 1, none⟩) hg').trans hc4
      have hq := fun W1 (h1 : Below (wr.alloc (.cells #[.int .i64 x.1, .int .i64 x.2] 115)).heap.size (wr.alloc (.cells #[.int .i64 x.1, .int .i64 x.2] 115)) W1) => Hf.out x hmem y hmemy W1 (hB.trans (h1.mono hB.size))
      have Hq := Lib.hid hq
      have Hw := Lib.hid (Hm.out t x y hx hy)
      have HS := Lib.hid (And.intro hS hB)
      clear hq hx hy hmem hmemy hwr hwr' hS hB hnx2
      have hbxx := Bx.new wr 115 #[.int .i64 x.1, .int .i64 x.2]
      go_upto_region 5 with fail
      obtain ⟨W0, hW0⟩ : ∃ W0, W0 = wr.alloc (.cells #[.int .i64 x.1, .int .i64 x.2] 115) := ⟨_, rfl⟩
      have Hb0 := Lib.hid (show wr.heap.size < W0.heap.size by rw [hW0]; simp)
      rw [← hW0] at hc5 hc6 Hq HS hbxx ⊢
      clear hW0 hc1 hc2 hc3 hc4
      refine wp_region_free_seq2 (by kernel_rfl) [
          .val [] (fun _ => .slice A1' t ca),
          .val [] (fun _ => .func (.func f) pre #[]),
          .val [] (fun _ => .agg #[.int .i64 x.1, .int .i64 x.2]),
          .val [] (fun _ => .slice (some ⟨g', 0, none⟩) n ka'),
          .val [] (fun _ => .int .i64 t),
          .val [] (fun _ => .pointer (some ⟨g', t * 2, none⟩)),
          .val [] (fun _ => .agg #[.int .i64 y.1, .int .i64 y.2]),
          .val [] (fun _ => .agg #[.int .i64 (F x y).1, .int .i64 (F x y).2]),
          .own (LitE W0.heap.size 115 #[.int .i64 (F x y).1, .int .i64 (F x y).2] 1) ()] 9 0 (.slice A1' t ca) rfl ?hsel ?hfree ?hready (fun c a w h => h) ?hy rfl rfl ?hp ?hfw ?deps ?oks ?hforced ?hf ?steps ?tail
      case hsel => kernel_rfl
      case hfree => kernel_rfl
      case hready => kernel_rfl
      case hforced => kernel_rfl
      case hf => kernel_rfl
      case hy => exact Or.inl ⟨by first | rfl | go_simp, fun w => by first | rfl | go_simp⟩
      case hp => kernel_rfl
      case hfw => kernel_rfl
      case deps => kernel_rfl
      case oks =>
        intro F hF
        simp only [List.mem_cons, List.not_mem_nil, or_false] at hF
        rcases hF with rfl | rfl | rfl | rfl | rfl | rfl | rfl | rfl | rfl
        · trivial
        · trivial
        · trivial
        · trivial
        · trivial
        · trivial
        · trivial
        · trivial
        · exact ⟨_, lit_ok _ _ _ _⟩
      case steps =>
        refine Steps.cons ?_ ?_
        · exact fun _ h => absurd rfl h
        refine Steps.cons ?_ ?_
        · intro _ _; refine FreeStep.val [] _ rfl rfl fun u β W hW hn fr hfr K hK => ?_
          simp only [frameL, putL, Act.put, List.setIfInBounds_toArray, List.set_cons_zero, List.set_cons_succ, Nat.zero_add, Nat.reduceAdd] at hfr
          subst hfr
          have HK := Lib.hid hK
          clear hK hn
          go_simp
          have h9 := HK.out
          revert h9
          clear HK
          go_simp
          try exact id
        refine Steps.cons ?_ ?_
        · intro _ _; refine FreeStep.val [] _ rfl rfl fun u β W hW hn fr hfr K hK => ?_
          simp only [frameL, putL, Act.put, List.setIfInBounds_toArray, List.set_cons_zero, List.set_cons_succ, Nat.zero_add, Nat.reduceAdd] at hfr
          subst hfr
          have c0 := cellL (hbxx.cell 0 _ rfl) hW
          have c1 := cellL (hbxx.cell 1 _ rfl) hW
          have HK := Lib.hid hK
          clear hK hn
          go_simp
          have h9 := HK.out
          revert h9
          clear HK
          go_simp
          try exact id
        refine Steps.cons ?_ ?_
        · intro _ _; refine FreeStep.val [] _ rfl rfl fun u β W hW hn fr hfr K hK => ?_
          simp only [frameL, putL, Act.put, List.setIfInBounds_toArray, List.set_cons_zero, List.set_cons_succ, Nat.zero_add, Nat.reduceAdd] at hfr
          subst hfr
          have HK := Lib.hid hK
          clear hK hn
          go_simp
          have h9 := HK.out
          revert h9
          clear HK
          go_simp
          try exact id
        refine Steps.cons ?_ ?_
        · intro _ _; refine FreeStep.val [] _ rfl rfl fun u β W hW hn fr hfr K hK => ?_
          simp only [frameL, putL, Act.put, List.setIfInBounds_toArray, List.set_cons_zero, List.set_cons_succ, Nat.zero_add, Nat.reduceAdd] at hfr
          subst hfr
          have HK := Lib.hid hK
          clear hK hn
          go_simp
          have h9 := HK.out
          revert h9
          clear HK
          go_simp
          try exact id
        refine Steps.cons ?_ ?_
        · intro _ _; refine FreeStep.val [] _ rfl rfl fun u β W hW hn fr hfr K hK => ?_
          simp only [frameL, putL, Act.put, List.setIfInBounds_toArray, List.set_cons_zero, List.set_cons_succ, Nat.zero_add, Nat.reduceAdd] at hfr
          subst hfr
          have e3 : u 3 = .slice (some ⟨g', 0, none⟩) n ka' := Have.get (k := 3) hn rfl
          have e4 : u 4 = .int .i64 t := Have.get (k := 4) hn rfl
          simp only [e3, e4] at hK
          have HK := Lib.hid hK
          clear hK hn
          go_simp
          have h9 := HK.out
          revert h9
          clear HK
          go_simp
          try exact id
        refine Steps.cons ?_ ?_
        · intro _ _; refine FreeStep.val [] _ rfl rfl fun u β W hW hn fr hfr K hK => ?_
          simp only [frameL, putL, Act.put, List.setIfInBounds_toArray, List.set_cons_zero, List.set_cons_succ, Nat.zero_add, Nat.reduceAdd] at hfr
          subst hfr
          have e5 : u 5 = .pointer (some ⟨g', t * 2, none⟩) := Have.get (k := 5) hn rfl
          simp only [e5] at hK
          have c0 := cellL hc5 hW
          have c1 := cellL hc6 hW
          have HK := Lib.hid hK
          clear hK hn
          go_simp
          have h9 := HK.out
          revert h9
          clear HK
          go_simp
          try exact id
        refine Steps.cons ?_ ?_
        · intro _ _; refine FreeStep.calm [] _ rfl rfl fun u β W hW hn fr hfr K hK => ?_
          simp only [frameL, putL, Act.put, List.setIfInBounds_toArray, List.set_cons_zero, List.set_cons_succ, Nat.zero_add, Nat.reduceAdd] at hfr
          subst hfr
          have e1 : u 1 = .func (.func f) pre #[] := Have.get (k := 1) hn rfl
          have e2 : u 2 = .agg #[.int .i64 x.1, .int .i64 x.2] := Have.get (k := 2) hn rfl
          have e6 : u 6 = .agg #[.int .i64 y.1, .int .i64 y.2] := Have.get (k := 6) hn rfl
          simp only [e1, e2, e6] at hK
          have Q := Lib.hid (Hq.out W hW)
          have hcf := Hcf.out
          have HK := Lib.hid hK
          clear hK hn
          go_simp
          clear hcf
          refine Q.out.mono ?_
          rintro e w9 ⟨rfl, hb9⟩
          exact HK.out w9 hb9
        refine Steps.cons ?_ ?_
        · intro _ _; refine FreeStep.own (base := W0.heap.size) rfl (lit_ok _ _ _ _) fun u β W hW hn fr hfr K hK => ?_
          simp only [frameL, putL, Act.put, List.setIfInBounds_toArray, List.set_cons_zero, List.set_cons_succ, Nat.zero_add, Nat.reduceAdd] at hfr
          subst hfr
          have e7 : u 7 = .agg #[.int .i64 (F x y).1, .int .i64 (F x y).2] := Have.get (k := 7) hn rfl
          simp only [e7] at hK
          have hsz := hW.size
          have HK := Lib.hid hK
          clear hK hn
          go_simp
          exact HK.out _ [W.heap.size] _ ((Below.refl _ _).alloc (Nat.le_refl _) _) (LitE.new _ _ _ W hsz) (fun b hb => by rw [List.mem_singleton.1 hb]; exact Nat.le_refl _)
        refine Steps.cons ?_ ?_
        · exact fun h => absurd h (by decide)
        refine Steps.cons ?_ ?_
        · exact fun h => absurd h (by decide)
        exact Steps.nil
      case tail =>
        intro u β W hW hn hdis hbnd fr hfr
        simp only [frameL, putL, Act.put, List.setIfInBounds_toArray, List.set_cons_zero, List.set_cons_succ, Nat.zero_add, Nat.reduceAdd] at hfr
        subst hfr
        have z0 : u 0 = .slice A1' t ca := Have.get (k := 0) hn rfl
        have z1 : u 1 = .func (.func f) pre #[] := Have.get (k := 1) hn rfl
        have z2 : u 2 = .agg #[.int .i64 x.1, .int .i64 x.2] := Have.get (k := 2) hn rfl
        have z3 : u 3 = .slice (some ⟨g', 0, none⟩) n ka' := Have.get (k := 3) hn rfl
        have z4 : u 4 = .int .i64 t := Have.get (k := 4) hn rfl
        have z5 : u 5 = .pointer (some ⟨g', t * 2, none⟩) := Have.get (k := 5) hn rfl
        have z6 : u 6 = .agg #[.int .i64 y.1, .int .i64 y.2] := Have.get (k := 6) hn rfl
        have z7 : u 7 = .agg #[.int .i64 (F x y).1, .int .i64 (F x y).2] := Have.get (k := 7) hn rfl
        have f8 : (LitE W0.heap.size 115 #[.int .i64 (F x y).1, .int .i64 (F x y).2] 1) W (u 8) () (β 8) := Have.get (k := 8) hn rfl
        clear hn hdis hbnd
        show wpOps _ _ _ [9, 10] _ _
        obtain ⟨bo, go, hbo, _, hlo⟩ := f8
        have hS1 := (push_ok _).later HS.out.1 hW
        have hB1 := HS.out.2.trans (hW.mono HS.out.2.size)
        have hrow := hS1.1
        rw [Hl.out t ht] at hrow
        have Hb := Lib.hid (And.intro hS1 (And.intro hB1 hrow))
        have hz3 := hB1.size
        clear hS1 hB1 hrow Hq HS
        obtain ⟨y0, hy0⟩ : ∃ z, z = (F x y).1 := ⟨_, rfl⟩
        obtain ⟨y1, hy1⟩ : ∃ z, z = (F x y).2 := ⟨_, rfl⟩
        have hy : F x y = (y0, y1) := by rw [hy0, hy1]
        rw [← hy0, ← hy1] at hbo z7
        have HF := Lib.hid hy
        clear hy hy0 hy1
        rw [wpOps_cons]
        refine wpOp_step rfl (fun K hK => ?_)
        refine step_append_lies _ rfl _ _ 112 rfl w.heap.size 115 i0 (.agg #[.int .i64 0, .int .i64 0]) 2 16 Try.underlying112 hi hz0 hz1 hz2 rfl (by decide) _ t _ z0 Hb.out.2.2 ⟨bo, 0, none⟩ 1 1 [.int .i64 y0, .int .i64 y1] go rfl (World.news_of_block hbo) one_pair (by decide) ?c1 ?c2 ?c3 _ rfl ?_
        case c1 => unfold maxLen; omega
        case c2 => omega
        case c3 => omega
        intro g1 cap1 w5 hown hg5 hat hltg
        refine hK _ _ ?_
        have hB6 : Below w.heap.size w w5 := Hb.out.2.1.grown hg5 (by omega) (fun k hk => ((push_ok _).lt Hb.out.1 k (by rw [Hb.out.1.2, hk]; simp)).1)
        clear hK
        rw [wpOps_cons]
        refine wpOp_step rfl (fun K2 hK => ?_)
        go_simp
        refine hK _ _ ?_
        clear hK
        unfold wpOps
        have hS6 : PushE w.heap.size w5 (.slice (some ⟨g1, 0, none⟩) (t + 1) cap1) (zipT F xs ys (t + 1)) [g1] := by
          rw [Hw.out, HF.out]
          refine ⟨?_, rfl⟩
          rw [List.length_append, Hl.out t ht, List.flatMap_append]
          exact hown
        clear hown hg5 hat z0 z1 z2 z3 z4 z5 z6 z7 go hbo hlo
        generalize u 0 = s0; generalize u 1 = s1; generalize u 2 = s2; generalize u 3 = s3; generalize u 4 = s4; generalize u 5 = s5; generalize u 6 = s6; generalize u 7 = s7; generalize u 8 = s8
        go_wp2
        go_roundw
        case rel => exact ⟨t + 1, by omega, by go_num, ⟨_, hS6⟩, hB6⟩
        case measure => simp [intOf]; omega
    · have e : t = n := by omega
      subst e
      rw [Ha.out] at hS
      go_wp2
      go_ret
      exact ⟨_, bs, rfl, hS, hB⟩

set_option maxHeartbeats 3200000 in
set_option maxRecDepth 100000 in
theorem side_ints {base base' : Nat} {v v' : Value} {xs ys : List (List Int)} {bs bs' : List Nat} (w : World) (F : (List Int) → (List Int) → (List Int)) (f : FuncId) (pre : Array Value) (hcf : ∀ args w, (callFunc f args).run Try.prog w = .ok (.enter f args) w) (hnx : xs.length ≤ 1000) (hxy : xs.length = ys.length) (h : Ints2E base w v xs bs) (h' : Ints2E base' w v' ys bs')
    (hf : ∀ x ∈ xs, ∀ y ∈ ys, ∀ W u u' b b' c c', Below w.heap.size w W → IntsE b W u x c → IntsE b' W u' y c' → Calls Try.prog f (pre ++ #[u, u']) W (NewPost IntsE (F x y) W)) :
    Calls Try.prog 221 #[v, v', .func (.func f) pre #[]] w (NewPost Ints2E (List.zipWith F xs ys) w) := by
  obtain ⟨i0, hi, hz0, hz1, hz2⟩ := info_parts toInfo_ints
  obtain ⟨A, ka, rfl⟩ := ManyE.slice h
  obtain ⟨A', ka', rfl⟩ := ManyE.slice h'
  have Hcf := Lib.hid hcf
  have Hf := Lib.hid hf
  have Hh := Lib.hid h
  have Hh' := Lib.hid h'
  clear hcf
  have Hm := Lib.hid (fun (t : Nat) (x y : List Int) (hx : xs[t]? = some x) (hy : ys[t]? = some y) => zipT_succ (f := F) hx hy)
  have Hl := Lib.hid (fun (t : Nat) (ht : t ≤ xs.length) => zipT_len F (xs := xs) (ys := ys) ht (by omega))
  have Ha := Lib.hid (zipT_all F (Nat.le_of_eq hxy))
  have Hz := Lib.hid (show zipT F xs ys 0 = [] by simp [zipT])
  have Hx := Lib.hid (fun (j : Nat) (hj : j < xs.length) => (⟨_, List.getElem?_eq_getElem hj⟩ : ∃ x, xs[j]? = some x))
  have Hy := Lib.hid (fun (j : Nat) (hj : j < xs.length) => (⟨_, List.getElem?_eq_getElem (by omega)⟩ : ∃ x, ys[j]? = some x))
  have Hxy := Lib.hid hxy
  rw [← hxy] at Hh' ⊢
  obtain ⟨n, hn'⟩ : ∃ n, n = xs.length := ⟨_, rfl⟩
  rw [← hn'] at hnx Hl Hx Hy Hh Hh' Ha ⊢
  have Hn := Lib.hid hn'
  clear hf h h' hn' hxy
  go_enter Try.func221, Try.ntmps221
  go_wp2_with fail
  go_loopw [7, 12] (fun sm i wr => ∃ t : Nat, t ≤ n ∧ i = .int .i64 t ∧ (∃ bs, Ints2E w.heap.size wr sm (zipT F xs ys t) bs) ∧ Below w.heap.size w wr) (fun _ i _ => n - (intOf i).toNat)
  case atStart =>
    refine ⟨0, Nat.zero_le _, rfl, ⟨[], ?_⟩, Below.refl _ _⟩
    rw [Hz.out]
    exact ManyE.nil _ _ _ _
  case round =>
    obtain ⟨t, ht, rfl, ⟨bs, hS⟩, hB⟩ := hrel
    obtain ⟨A1', ca, e'⟩ := ManyE.slice hS
    rw [Hl.out t ht] at e'
    subst e'
    by_cases hlt : t < n
    · obtain ⟨x, hx⟩ := Hx.out t hlt
      obtain ⟨y, hy⟩ := Hy.out t hlt
      have hmem := List.mem_of_getElem? hx
      have hmemy := List.mem_of_getElem? hy
      have hwr := (ints2_ok _).later Hh.out hB
      have hwr' := (ints2_ok _).later Hh'.out hB
      obtain ⟨g, us, u, d, hv, hc, hE, hg, _⟩ := hwr.at_ (ints_ok _) hx
      simp only [Value.slice.injEq] at hv
      obtain ⟨hAg, h8, h9⟩ := hv
      subst hAg
      clear h8 h9
      obtain ⟨g', us', u', d', hv, hc', hE', hg', _⟩ := hwr'.at_ (ints_ok _) hy
      simp only [Value.slice.injEq] at hv
      obtain ⟨hAg, h8, h9⟩ := hv
      subst hAg
      clear h8 h9
      have hq := Hf.out x hmem y hmemy wr u u' _ _ _ _ hB hE hE'
      obtain ⟨A2, k2, rfl⟩ := RowE.slice hE
      obtain ⟨A3, k3, rfl⟩ := RowE.slice hE'
      have Hq := Lib.hid hq
      have Hw := Lib.hid (Hm.out t x y hx hy)
      have HS := Lib.hid (And.intro hS hB)
      clear hq hx hy hmem hmemy hwr hwr' hS hB hE hE'
      have hcf := Hcf.out
      go_wp2_with fail
      clear hcf
      refine Hq.out.mono ?_
      rintro e w1 ⟨v1, cs1, rfl, hE1, hb1⟩
      have hS1 := (ints2_ok _).later HS.out.1 hb1
      have hB1 := HS.out.2.trans (hb1.mono HS.out.2.size)
      obtain ⟨vs, hrow, _⟩ := hS1.held
      rw [Hl.out t ht] at hrow
      have hd : ∀ b ∈ bs, b ∉ cs1 := fun b h1 h2 => by have t1 := ((ints2_ok _).lt HS.out.1 b h1).2; have t2 := ((ints_ok _).lt hE1 b h2).1; omega
      have hE2 : IntsE w.heap.size w1 v1 (F x y) cs1 := ints_base HS.out.2.size _ _ _ _ hE1
      obtain ⟨A1, n1, k1, rfl⟩ : ∃ A1 n1 k1, v1 = .slice A1 n1 k1 := by obtain ⟨A1, k1, e⟩ := RowE.slice hE1; exact ⟨_, _, _, e⟩
      have Hb := Lib.hid (And.intro hS1 (And.intro hB1 (And.intro hrow (And.intro hd hE2))))
      have hz3 := hB1.size
      clear hS1 hB1 hrow hd hE1 hE2 hb1 Hq
      go_wp2_with (at_builtin; refine wpList_append_lies _ rfl _ _ 25 rfl w.heap.size 38 i0 (.slice none 0 0) 1 24 Try.underlying25 hi hz0 hz1 hz2 rfl (by decide) _ t _ rfl (Hb.out.2.2.1.alloc _) ⟨w1.heap.size, 0, none⟩ 1 1 [.slice A1 n1 k1] rfl rfl (World.news_of_block (Bx.new w1 _ _)) (one_sing rfl) (by decide) ?c1 ?c2 ?c3 _ rfl ?_)
      case c1 => unfold maxLen; omega
      case c2 => omega
      case c3 => simp; omega
      intro g1 cap1 w5 hown hg5 hat hltg
      have hB6 : Below w.heap.size w w5 := (Hb.out.2.1.alloc Hb.out.2.1.size _).grown hg5 (by simp; omega) (fun k hk => ((ints2_ok _).lt Hb.out.1 k (by exact Hb.out.1.held.choose_spec.2 k hk)).1)
      obtain ⟨bs6, hS6, _⟩ := many_grow (ints_ok _) ((ints2_ok _).later Hb.out.1 ((Below.refl _ _).alloc (Nat.le_refl _) _)) (Hl.out t ht) (Hb.out.2.2.1.alloc _) ((ints_ok _).later Hb.out.2.2.2.2 ((Below.refl _ _).alloc (Nat.le_refl _) _)) Hb.out.2.2.2.1 hown hg5 rfl (by rcases hat with h | h; exact .inl h; exact .inr (by rw [World.size_alloc]; exact h))
      rw [← Hw.out] at hS6
      clear hown hg5 hat
      go_wp2
      go_roundw
      case rel => exact ⟨t + 1, by omega, by go_num, ⟨_, hS6⟩, hB6⟩
      case measure => simp [intOf]; omega
    · have e : t = n := by omega
      subst e
      rw [Ha.out] at hS
      go_wp2
      go_ret
      exact ⟨_, bs, rfl, hS, hB⟩

set_option maxHeartbeats 3200000 in
set_option maxRecDepth 100000 in
theorem side_int {base base' : Nat} {v v' : Value} {xs ys : List (Int)} {bs bs' : List Nat} (w : World) (F : (Int) → (Int) → (Int)) (f : FuncId) (pre : Array Value) (hcf : ∀ args w, (callFunc f args).run Try.prog w = .ok (.enter f args) w) (hnx : xs.length ≤ 1000) (hxy : xs.length = ys.length) (h : IntsE base w v xs bs) (h' : IntsE base' w v' ys bs')
    (hf : ∀ x ∈ xs, ∀ y ∈ ys, ∀ W, Below w.heap.size w W → Calls Try.prog f (pre ++ #[.int .i64 x, .int .i64 y]) W (fun e w' => e = .returned (.int .i64 (F x y)) ∧ Below W.heap.size W w')) :
    Calls Try.prog 223 #[v, v', .func (.func f) pre #[]] w (NewPost IntsE (List.zipWith F xs ys) w) := by
  obtain ⟨i0, hi, hz0, hz1, hz2⟩ := info_parts toInfo_i64
  obtain ⟨A, ka, rfl⟩ := RowE.slice h
  obtain ⟨A', ka', rfl⟩ := RowE.slice h'
  have Hcf := Lib.hid hcf
  have Hf := Lib.hid hf
  have Hh := Lib.hid h
  have Hh' := Lib.hid h'
  clear hcf
  have Hm := Lib.hid (fun (t : Nat) (x y : Int) (hx : xs[t]? = some x) (hy : ys[t]? = some y) => zipT_succ (f := F) hx hy)
  have Hl := Lib.hid (fun (t : Nat) (ht : t ≤ xs.length) => zipT_len F (xs := xs) (ys := ys) ht (by omega))
  have Ha := Lib.hid (zipT_all F (Nat.le_of_eq hxy))
  have Hz := Lib.hid (show zipT F xs ys 0 = [] by simp [zipT])
  have Hx := Lib.hid (fun (j : Nat) (hj : j < xs.length) => (⟨_, List.getElem?_eq_getElem hj⟩ : ∃ x, xs[j]? = some x))
  have Hy := Lib.hid (fun (j : Nat) (hj : j < xs.length) => (⟨_, List.getElem?_eq_getElem (by omega)⟩ : ∃ x, ys[j]? = some x))
  have Hxy := Lib.hid hxy
  rw [← hxy] at Hh' ⊢
  obtain ⟨n, hn'⟩ : ∃ n, n = xs.length := ⟨_, rfl⟩
  rw [← hn'] at hnx Hl Hx Hy Hh Hh' Ha ⊢
  have Hn := Lib.hid hn'
  clear hf h h' hn' hxy
  go_enter Try.func223, Try.ntmps223
  go_wp2_with fail
  go_loopw [7, 12] (fun sm i wr => ∃ t : Nat, t ≤ n ∧ i = .int .i64 t ∧ (∃ bs, IntsE w.heap.size wr sm (zipT F xs ys t) bs) ∧ Below w.heap.size w wr) (fun _ i _ => n - (intOf i).toNat)
  case atStart =>
    refine ⟨0, Nat.zero_le _, rfl, ⟨[], ?_⟩, Below.refl _ _⟩
    rw [Hz.out]
    exact ⟨by simpa using World.ownsRow_nil w w.heap.size _ _, by simp [Value.ownBlock]⟩
  case round =>
    obtain ⟨t, ht, rfl, ⟨bs, hS⟩, hB⟩ := hrel
    obtain ⟨A1', ca, e'⟩ := RowE.slice hS
    rw [Hl.out t ht] at e'
    subst e'
    by_cases hlt : t < n
    · obtain ⟨x, hx⟩ := Hx.out t hlt
      obtain ⟨y, hy⟩ := Hy.out t hlt
      have hmem := List.mem_of_getElem? hx
      have hmemy := List.mem_of_getElem? hy
      have hwr := (ints_ok _).later Hh.out hB
      have hwr' := (ints_ok _).later Hh'.out hB
      obtain ⟨g, hAg, hg, _⟩ := RowE.head hwr (by rw [← Hn.out]; exact hlt)
      subst hAg
      obtain ⟨g', hAg, hg', _⟩ := RowE.head hwr' (by rw [← Hxy.out, ← Hn.out]; exact hlt)
      subst hAg
      have hc1 : wr.cell? ⟨g, t, none⟩ = _ := IntsE.cell' hwr hx
      have hc2 : wr.cell? ⟨g', t, none⟩ = _ := IntsE.cell' hwr' hy
      have hq := Hf.out x hmem y hmemy wr hB
      have Hq := Lib.hid hq
      have Hw := Lib.hid (Hm.out t x y hx hy)
      have HS := Lib.hid (And.intro hS hB)
      clear hq hx hy hmem hmemy hwr hwr' hS hB
      have hcf := Hcf.out
      go_wp2_with fail
      clear hcf
      refine Hq.out.mono ?_
      rintro e w1 ⟨rfl, hb1⟩
      have hS1 := (ints_ok _).later HS.out.1 hb1
      have hB1 := HS.out.2.trans (hb1.mono HS.out.2.size)
      have hrow := hS1.1
      rw [Hl.out t ht] at hrow
      have Hb := Lib.hid (And.intro hS1 (And.intro hB1 hrow))
      have hz3 := hB1.size
      clear hS1 hB1 hrow hb1 Hq
      obtain ⟨z, hy⟩ : ∃ z, z = F x y := ⟨_, rfl⟩
      rw [← hy]
      have HF := Lib.hid hy.symm
      clear hy
      go_wp2_with (at_builtin; refine wpList_append_lies _ rfl _ _ 38 rfl w.heap.size 2 i0 (.int .i64 0) 1 8 Try.underlying38 hi hz0 hz1 hz2 rfl (by decide) _ t _ rfl (Hb.out.2.2.alloc _) ⟨w1.heap.size, 0, none⟩ 1 1 [.int .i64 z] rfl rfl (World.news_of_block (Bx.new w1 _ _)) (one_sing rfl) (by decide) ?c1 ?c2 ?c3 _ rfl ?_)
      case c1 => unfold maxLen; omega
      case c2 => omega
      case c3 => simp; omega
      intro g1 cap1 w5 hown hg5 hat hltg
      have hB6 : Below w.heap.size w w5 := (Hb.out.2.1.alloc Hb.out.2.1.size _).grown hg5 (by simp; omega) (fun k hk => ((ints_ok _).lt Hb.out.1 k (by rw [Hb.out.1.2, hk]; simp)).1)
      have hS6 : IntsE w.heap.size w5 (.slice (some ⟨g1, 0, none⟩) (t + 1) cap1) (zipT F xs ys (t + 1)) [g1] := by
        rw [Hw.out, HF.out]
        refine ⟨?_, rfl⟩
        rw [List.length_append, Hl.out t ht, List.flatMap_append]
        exact hown
      clear hown hg5 hat
      go_wp2
      go_roundw
      case rel => exact ⟨t + 1, by omega, by go_num, ⟨_, hS6⟩, hB6⟩
      case measure => simp [intOf]; omega
    · have e : t = n := by omega
      subst e
      rw [Ha.out] at hS
      go_wp2
      go_ret
      exact ⟨_, bs, rfl, hS, hB⟩

end Go.Proofs.Ytfaiifiohomdmaa
