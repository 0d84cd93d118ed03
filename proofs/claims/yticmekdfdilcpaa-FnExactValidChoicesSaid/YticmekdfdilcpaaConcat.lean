/- slices.Concat and slices.Grow of the program, at the level of values. -/
import Derived.Test.YticmekdfdilcpaaRows3
import Derived.Test.YticmekdfdilcpaaGrow
import Derived.Lib.AppendZeros
import Derived.Maps.AppendAt
import Derived.Laws.AppendOwnNone
namespace Go.Proofs.Yticmekdfdilcpaa
open Go.RowKit
set_option linter.unusedVariables false

/-- What a slice of one-cell elements reads as. -/
def ReadsAs (w : World) (v : Value) (row : List Value) : Prop := (v = .slice none 0 0 ∧ row = []) ∨ ∃ g c, v = .slice (some ⟨g, 0, none⟩) row.length c ∧ g < w.heap.size ∧ ∀ j u, row[j]? = some u → w.cell? ((⟨g, 0, none⟩ : Addr).add j) = some u
theorem ReadsAs.later {w w' : World} {v : Value} {row : List Value} (h : ReadsAs w v row) (hb : Below w.heap.size w w') : ReadsAs w' v row := by
  rcases h with h | ⟨g, c, rfl, hg, hc⟩
  · exact .inl h
  · refine .inr ⟨g, c, rfl, Nat.lt_of_lt_of_le hg hb.size, fun j u hu => ?_⟩
    have e : (⟨g, 0, none⟩ : Addr).add j = ⟨g, j, none⟩ := by unfold Addr.add; split <;> simp_all
    have h1 := hc j u hu
    rw [e] at h1 ⊢
    exact (hb.cell (p := ⟨g, j, none⟩) hg).trans h1
theorem reads_of {w : World} {base : Nat} {e : TypeId} {v : Value} {n : Nat} {xs : List Value} (h : w.ownsRow base e 1 v n xs) : ReadsAs w v xs := by
  rcases h.2 with ⟨rfl, rfl⟩ | ⟨g, cap, cur, rfl, hb, hg, _⟩
  · exact .inl ⟨rfl, List.eq_nil_of_length_eq_zero (by simpa using h.1)⟩
  · have hl := h.1
    rw [Nat.mul_one] at hl
    refine .inr ⟨g, cap, by rw [hl], ?_, h.cells rfl⟩
    rcases Nat.lt_or_ge g w.heap.size with h1 | h1
    · exact h1
    · rw [Array.getElem?_eq_none h1] at hg; cases hg
/-- How long the first k rows are together. -/
def lenT (rows : List (List Value)) (k : Nat) : Nat := (rows.take k).flatten.length
theorem lenT_succ {rows : List (List Value)} {k : Nat} {r : List Value} (h : rows[k]? = some r) : lenT rows (k + 1) = lenT rows k + r.length := by
  unfold lenT
  rw [List.take_add_one, h, Option.toList_some, List.flatten_append, List.length_append]
  simp
theorem flatT_succ {rows : List (List Value)} {k : Nat} {r : List Value} (h : rows[k]? = some r) : (rows.take (k + 1)).flatten = (rows.take k).flatten ++ r := by
  rw [List.take_add_one, h, Option.toList_some, List.flatten_append]
  simp
theorem lenT_le (rows : List (List Value)) (k : Nat) : lenT rows k ≤ rows.flatten.length := by
  unfold lenT
  conv => rhs; rw [← List.take_append_drop k rows, List.flatten_append, List.length_append]
  omega

set_option maxHeartbeats 3200000 in
set_option maxRecDepth 100000 in
theorem grow_bools (n : Nat) (w : World) (hn : n ≤ 1048576) :
    Calls Try.prog 126 #[.slice none 0 0, .int .i64 (n : Int)] w fun e w' => ∃ v, e = .returned v ∧ w'.ownsRow w.heap.size 4 1 v 0 [] ∧ Below w.heap.size w w' := by
  obtain ⟨i0, hi, hz0, hz1, hz2⟩ := info_parts toInfo_bool
  by_cases h0 : n = 0
  · subst h0
    go_enter Try.func126, Try.ntmps126
    go_wp2
    go_ret
    exact ⟨_, rfl, by simpa using World.ownsRow_nil w w.heap.size 4 1, Below.refl _ _⟩
  · have hpos : 0 < n := by omega
    have hr := Lib.run_append_nil_zeros (P := Try.prog) w 23 3 23 4 i0 (.bool false) .i64 .i64 Try.underlying23 Try.underlying3 hi hz0 n hpos (by rw [hz1]; decide) (by omega) (by rw [hz2]; omega)
    obtain ⟨C, hC⟩ : ∃ C, C = grownCap w n 0 4 := ⟨_, rfl⟩
    have hge := grownCap_ge w n 0 4
    have hcm := grownCap_le_maxLen w n 0 4 (by unfold maxLen; omega)
    rw [← hC] at hr hge hcm
    obtain ⟨Z, hZ⟩ : ∃ Z, Z = Builtin.zeroCells (Value.cells (.bool false)) n ++ Builtin.zeroCells (Value.cells (.bool false)) (C - n) := ⟨_, rfl⟩
    have hZs : Z.size = C * 1 := by rw [hZ, Array.size_append, size_zeroCells, size_zeroCells]; simp [Value.cells]; omega
    rw [← hZ] at hr
    have hb : Below w.heap.size w (w.drew.alloc (.cells Z 4)) := ⟨rfl, rfl, rfl, by simp, fun k hk => heap_alloc_old w.drew _ hk⟩
    have hown : (w.drew.alloc (.cells Z 4)).ownsRow w.heap.size 4 1 (.slice (some ⟨w.heap.size, 0, none⟩) 0 C) 0 [] := ⟨rfl, .inr ⟨w.heap.size, C, Z, rfl, Nat.le_refl _, heap_alloc_new w.drew _, Nat.zero_le _, hcm, hZs, by simp⟩⟩
    have HR := Lib.hid (And.intro hown hb)
    unfold maxLen at hcm
    clear hown hb hC hZ hZs
    go_enter Try.func126, Try.ntmps126
    go_wp2_with (at_builtin; refine Lib.wpList_append_run _ rfl _ _ _ _ rfl _ _ rfl rfl _ _ hr ?_)
    go_ret
    exact ⟨_, rfl, HR.out.1, HR.out.2⟩
set_option maxHeartbeats 3200000 in
set_option maxRecDepth 100000 in
theorem concat_bools {b k c : Nat} (vs : List Value) (rows : List (List Value)) (w : World) (hk : k ≤ 1000) (hvl : vs.length = k) (hrl : rows.length = k) (hb : b < w.heap.size) (hv : ∀ (j : Nat) u, vs[j]? = some u → w.cell? ⟨b, j, none⟩ = some u)
    (hr : ∀ (j : Nat) u r, vs[j]? = some u → rows[j]? = some r → ReadsAs w u r) (h1 : ∀ r ∈ rows, ∀ u ∈ r, u.oneCell' = true) (hs : rows.flatten.length ≤ 1000000) :
    Calls Try.prog 79 #[.slice (some ⟨b, 0, none⟩) k c] w fun e w' => ∃ v, e = .returned v ∧ w'.ownsRow w.heap.size 4 1 v rows.flatten.length rows.flatten ∧ Below w.heap.size w w' := by
  obtain ⟨i0, hi, hz0, hz1, hz2⟩ := info_parts toInfo_bool
  have Hv := Lib.hid (fun (j : Nat) (hj : j < k) => show ∃ u r, vs[j]? = some u ∧ rows[j]? = some r ∧ w.cell? ⟨b, j, none⟩ = some u ∧ ReadsAs w u r from by
    have e1 : vs[j]? = some (vs[j]'(by omega)) := List.getElem?_eq_getElem (by omega)
    have e2 : rows[j]? = some (rows[j]'(by omega)) := List.getElem?_eq_getElem (by omega)
    exact ⟨_, _, e1, e2, hv j _ e1, hr j _ _ e1 e2⟩)
  have Hle := Lib.hid (fun k => Nat.le_trans (lenT_le rows k) hs)
  have He := Lib.hid (show lenT rows k = rows.flatten.length by unfold lenT; rw [← hrl, List.take_length])
  have Hf := Lib.hid (show (rows.take k).flatten = rows.flatten by rw [← hrl, List.take_length])
  have H1 := Lib.hid h1
  have HG := Lib.hid (fun (n : Nat) (hn : n ≤ 1048576) W => grow_bools n W hn)
  obtain ⟨tot, ht⟩ : ∃ tot, tot = rows.flatten.length := ⟨_, rfl⟩
  rw [← ht] at hs He ⊢
  have Ht := Lib.hid ht
  clear hv hr h1 hvl hrl ht
  go_enter Try.func79, Try.ntmps79
  go_wp2
  go_loop [3, 11] (fun s i => ∃ j : Nat, j ≤ k ∧ i = .int .i64 j ∧ s = .int .i64 (lenT rows j : Nat)) (fun _ i => k - (intOf i).toNat)
  case atStart => exact ⟨0, Nat.zero_le _, rfl, rfl⟩
  case round =>
    obtain ⟨j, hj, rfl, rfl⟩ := hrel
    by_cases hlt : j < k
    · obtain ⟨u, r, _, hrj, hc, hR⟩ := Hv.out j hlt
      have hls := lenT_succ hrj
      have l1 := Hle.out j
      have l2 := Hle.out (j + 1)
      obtain ⟨A, n, cc, rfl, hn⟩ : ∃ A n cc, u = .slice A n cc ∧ r.length = n := by
        rcases hR with ⟨rfl, rfl⟩ | ⟨g, cc, rfl, _, _⟩
        · exact ⟨_, _, _, rfl, rfl⟩
        · exact ⟨_, _, _, rfl, rfl⟩
      rw [hn] at hls
      rw [hls] at l2
      have e1 : IntKind.i64.wrap ((lenT rows j : Int) + (n : Int)) = ((lenT rows j + n : Nat) : Int) := by rw [IntWalk.i64_in _ (by omega)]; omega
      have Hls := Lib.hid hls
      generalize lenT rows j = x at *
      clear hrj hR hn hls
      go_wp2
      go_round
      case rel => exact ⟨j + 1, by omega, by go_num, by rw [Hls.out]; go_num⟩
      case measure => simp [intOf]; omega
    · have e : j = k := by omega
      subst e
      rw [He.out]
      clear He
      go_wp2_with fail
      refine (HG.out tot (by omega) _).mono ?_
      rintro e w1 ⟨v1, rfl, hown1, hb1⟩
      have HX := Lib.hid (And.intro hown1 hb1)
      clear hown1 hb1
      go_wp2
      go_loopw [6, 27] (fun s i wr => ∃ t : Nat, t ≤ j ∧ i = .int .i64 t ∧ wr.ownsRow w.heap.size 4 1 s (lenT rows t) (rows.take t).flatten ∧ Below w.heap.size w wr) (fun _ i _ => j - (intOf i).toNat)
      case atStart => exact ⟨0, Nat.zero_le _, rfl, by simpa [lenT] using HX.out.1, HX.out.2⟩
      case round =>
        obtain ⟨t, htk, rfl, hown, hB⟩ := hrel
        by_cases hlt2 : t < j
        · obtain ⟨u, r, _, hrj, hc, hR⟩ := Hv.out t hlt2
          have hls := lenT_succ hrj
          have l2 := Hle.out (t + 1)
          rw [hls] at l2
          have hfl := flatT_succ hrj
          have hone := H1.out r (List.mem_of_getElem? hrj)
          have hcw : wr.cell? ⟨b, t, none⟩ = some u := (hB.cell (p := ⟨b, t, none⟩) hb).trans hc
          have hRw := hR.later hB
          have hBs := hB.size
          rcases hRw with ⟨rfl, rfl⟩ | ⟨g, cc, rfl, hg, hcells⟩
          · rw [List.append_nil] at hfl
            rw [List.length_nil, Nat.add_zero] at hls
            have HY := Lib.hid (And.intro hown (And.intro hB (And.intro hls hfl)))
            clear hown hB hls hfl hR hrj hone l2
            go_wp2_with (at_builtin; refine wpList_append_own_none rfl _ _ 23 rfl w.heap.size 4 i0 1 Try.underlying23 hi _ _ _ rfl HY.out.1 rfl ?_)
            go_roundw
            case rel => exact ⟨t + 1, by omega, by go_num, by rw [HY.out.2.2.1, HY.out.2.2.2]; exact HY.out.1, HY.out.2.1⟩
            case measure => simp [intOf]; omega
          · have HY := Lib.hid (And.intro hown (And.intro hB (And.intro hls (And.intro hfl (And.intro hcells hone)))))
            obtain ⟨m, hm⟩ : ∃ m, m = r.length := ⟨_, rfl⟩
            rw [← hm] at hcw l2
            have Hm := Lib.hid hm
            clear hown hB hls hfl hcells hR hrj hone hm
            go_wp2_with (at_builtin; refine wpList_append_own_at _ rfl _ _ 23 rfl w.heap.size 4 i0 (.bool false) 1 1 Try.underlying23 hi hz0 hz1 hz2 rfl (by decide) _ (lenT rows t) _ rfl HY.out.1 ⟨g, 0, none⟩ m cc r rfl ?c0 HY.out.2.2.2.2.1 HY.out.2.2.2.2.2 ?c1 ?c2 ?c3 ?_)
            case c0 => rw [Hm.out, Nat.mul_one]
            case c1 => unfold maxLen; omega
            case c2 => omega
            case c3 => exact hBs
            intro v5 w5 hown5 hg5 _ _
            have hB5 := HY.out.2.1.grown hg5 hBs (fun q hq => (HY.out.1.lt q hq).1)
            have HZ := Lib.hid (And.intro hown5 hB5)
            clear hown5 hB5 hg5
            go_wp2
            go_roundw
            case rel => exact ⟨t + 1, by omega, by go_num, by rw [HY.out.2.2.1, HY.out.2.2.2.1, ← Hm.out]; exact HZ.out.1, HZ.out.2⟩
            case measure => simp [intOf]; omega
        · have e : t = j := by omega
          subst e
          have HY := Lib.hid (show wr.ownsRow w.heap.size 4 1 _ tot rows.flatten ∧ Below w.heap.size w wr from by
            have h9 := hown
            rw [Hf.out, show lenT rows t = tot by unfold lenT; rw [Hf.out, Ht.out]] at h9
            exact ⟨h9, hB⟩)
          clear hown hB
          go_wp2
          go_ret
          exact ⟨_, rfl, HY.out.1, HY.out.2⟩

set_option maxHeartbeats 3200000 in
set_option maxRecDepth 100000 in
theorem grow_ints (n : Nat) (w : World) (hn : n ≤ 1048576) :
    Calls Try.prog 125 #[.slice none 0 0, .int .i64 (n : Int)] w fun e w' => ∃ v, e = .returned v ∧ w'.ownsRow w.heap.size 2 1 v 0 [] ∧ Below w.heap.size w w' := by
  obtain ⟨i0, hi, hz0, hz1, hz2⟩ := info_parts toInfo_i64
  by_cases h0 : n = 0
  · subst h0
    go_enter Try.func125, Try.ntmps125
    go_wp2
    go_ret
    exact ⟨_, rfl, by simpa using World.ownsRow_nil w w.heap.size 2 1, Below.refl _ _⟩
  · have hpos : 0 < n := by omega
    have hr := Lib.run_append_nil_zeros (P := Try.prog) w 22 3 22 2 i0 (.int .i64 0) .i64 .i64 Try.underlying22 Try.underlying3 hi hz0 n hpos (by rw [hz1]; decide) (by omega) (by rw [hz2]; omega)
    obtain ⟨C, hC⟩ : ∃ C, C = grownCap w n 0 2 := ⟨_, rfl⟩
    have hge := grownCap_ge w n 0 2
    have hcm := grownCap_le_maxLen w n 0 2 (by unfold maxLen; omega)
    rw [← hC] at hr hge hcm
    obtain ⟨Z, hZ⟩ : ∃ Z, Z = Builtin.zeroCells (Value.cells (.int .i64 0)) n ++ Builtin.zeroCells (Value.cells (.int .i64 0)) (C - n) := ⟨_, rfl⟩
    have hZs : Z.size = C * 1 := by rw [hZ, Array.size_append, size_zeroCells, size_zeroCells]; simp [Value.cells]; omega
    rw [← hZ] at hr
    have hb : Below w.heap.size w (w.drew.alloc (.cells Z 2)) := ⟨rfl, rfl, rfl, by simp, fun k hk => heap_alloc_old w.drew _ hk⟩
    have hown : (w.drew.alloc (.cells Z 2)).ownsRow w.heap.size 2 1 (.slice (some ⟨w.heap.size, 0, none⟩) 0 C) 0 [] := ⟨rfl, .inr ⟨w.heap.size, C, Z, rfl, Nat.le_refl _, heap_alloc_new w.drew _, Nat.zero_le _, hcm, hZs, by simp⟩⟩
    have HR := Lib.hid (And.intro hown hb)
    unfold maxLen at hcm
    clear hown hb hC hZ hZs
    go_enter Try.func125, Try.ntmps125
    go_wp2_with (at_builtin; refine Lib.wpList_append_run _ rfl _ _ _ _ rfl _ _ rfl rfl _ _ hr ?_)
    go_ret
    exact ⟨_, rfl, HR.out.1, HR.out.2⟩
set_option maxHeartbeats 3200000 in
set_option maxRecDepth 100000 in
theorem concat_ints {b k c : Nat} (vs : List Value) (rows : List (List Value)) (w : World) (hk : k ≤ 1000) (hvl : vs.length = k) (hrl : rows.length = k) (hb : b < w.heap.size) (hv : ∀ (j : Nat) u, vs[j]? = some u → w.cell? ⟨b, j, none⟩ = some u)
    (hr : ∀ (j : Nat) u r, vs[j]? = some u → rows[j]? = some r → ReadsAs w u r) (h1 : ∀ r ∈ rows, ∀ u ∈ r, u.oneCell' = true) (hs : rows.flatten.length ≤ 1000000) :
    Calls Try.prog 78 #[.slice (some ⟨b, 0, none⟩) k c] w fun e w' => ∃ v, e = .returned v ∧ w'.ownsRow w.heap.size 2 1 v rows.flatten.length rows.flatten ∧ Below w.heap.size w w' := by
  obtain ⟨i0, hi, hz0, hz1, hz2⟩ := info_parts toInfo_i64
  have Hv := Lib.hid (fun (j : Nat) (hj : j < k) => show ∃ u r, vs[j]? = some u ∧ rows[j]? = some r ∧ w.cell? ⟨b, j, none⟩ = some u ∧ ReadsAs w u r from by
    have e1 : vs[j]? = some (vs[j]'(by omega)) := List.getElem?_eq_getElem (by omega)
    have e2 : rows[j]? = some (rows[j]'(by omega)) := List.getElem?_eq_getElem (by omega)
    exact ⟨_, _, e1, e2, hv j _ e1, hr j _ _ e1 e2⟩)
  have Hle := Lib.hid (fun k => Nat.le_trans (lenT_le rows k) hs)
  have He := Lib.hid (show lenT rows k = rows.flatten.length by unfold lenT; rw [← hrl, List.take_length])
  have Hf := Lib.hid (show (rows.take k).flatten = rows.flatten by rw [← hrl, List.take_length])
  have H1 := Lib.hid h1
  have HG := Lib.hid (fun (n : Nat) (hn : n ≤ 1048576) W => grow_ints n W hn)
  obtain ⟨tot, ht⟩ : ∃ tot, tot = rows.flatten.length := ⟨_, rfl⟩
  rw [← ht] at hs He ⊢
  have Ht := Lib.hid ht
  clear hv hr h1 hvl hrl ht
  go_enter Try.func78, Try.ntmps78
  go_wp2
  go_loop [3, 11] (fun s i => ∃ j : Nat, j ≤ k ∧ i = .int .i64 j ∧ s = .int .i64 (lenT rows j : Nat)) (fun _ i => k - (intOf i).toNat)
  case atStart => exact ⟨0, Nat.zero_le _, rfl, rfl⟩
  case round =>
    obtain ⟨j, hj, rfl, rfl⟩ := hrel
    by_cases hlt : j < k
    · obtain ⟨u, r, _, hrj, hc, hR⟩ := Hv.out j hlt
      have hls := lenT_succ hrj
      have l1 := Hle.out j
      have l2 := Hle.out (j + 1)
      obtain ⟨A, n, cc, rfl, hn⟩ : ∃ A n cc, u = .slice A n cc ∧ r.length = n := by
        rcases hR with ⟨rfl, rfl⟩ | ⟨g, cc, rfl, _, _⟩
        · exact ⟨_, _, _, rfl, rfl⟩
        · exact ⟨_, _, _, rfl, rfl⟩
      rw [hn] at hls
      rw [hls] at l2
      have e1 : IntKind.i64.wrap ((lenT rows j : Int) + (n : Int)) = ((lenT rows j + n : Nat) : Int) := by rw [IntWalk.i64_in _ (by omega)]; omega
      have Hls := Lib.hid hls
      generalize lenT rows j = x at *
      clear hrj hR hn hls
      go_wp2
      go_round
      case rel => exact ⟨j + 1, by omega, by go_num, by rw [Hls.out]; go_num⟩
      case measure => simp [intOf]; omega
    · have e : j = k := by omega
      subst e
      rw [He.out]
      clear He
      go_wp2_with fail
      refine (HG.out tot (by omega) _).mono ?_
      rintro e w1 ⟨v1, rfl, hown1, hb1⟩
      have HX := Lib.hid (And.intro hown1 hb1)
      clear hown1 hb1
      go_wp2
      go_loopw [6, 27] (fun s i wr => ∃ t : Nat, t ≤ j ∧ i = .int .i64 t ∧ wr.ownsRow w.heap.size 2 1 s (lenT rows t) (rows.take t).flatten ∧ Below w.heap.size w wr) (fun _ i _ => j - (intOf i).toNat)
      case atStart => exact ⟨0, Nat.zero_le _, rfl, by simpa [lenT] using HX.out.1, HX.out.2⟩
      case round =>
        obtain ⟨t, htk, rfl, hown, hB⟩ := hrel
        by_cases hlt2 : t < j
        · obtain ⟨u, r, _, hrj, hc, hR⟩ := Hv.out t hlt2
          have hls := lenT_succ hrj
          have l2 := Hle.out (t + 1)
          rw [hls] at l2
          have hfl := flatT_succ hrj
          have hone := H1.out r (List.mem_of_getElem? hrj)
          have hcw : wr.cell? ⟨b, t, none⟩ = some u := (hB.cell (p := ⟨b, t, none⟩) hb).trans hc
          have hRw := hR.later hB
          have hBs := hB.size
          rcases hRw with ⟨rfl, rfl⟩ | ⟨g, cc, rfl, hg, hcells⟩
          · rw [List.append_nil] at hfl
            rw [List.length_nil, Nat.add_zero] at hls
            have HY := Lib.hid (And.intro hown (And.intro hB (And.intro hls hfl)))
            clear hown hB hls hfl hR hrj hone l2
            go_wp2_with (at_builtin; refine wpList_append_own_none rfl _ _ 22 rfl w.heap.size 2 i0 1 Try.underlying22 hi _ _ _ rfl HY.out.1 rfl ?_)
            go_roundw
            case rel => exact ⟨t + 1, by omega, by go_num, by rw [HY.out.2.2.1, HY.out.2.2.2]; exact HY.out.1, HY.out.2.1⟩
            case measure => simp [intOf]; omega
          · have HY := Lib.hid (And.intro hown (And.intro hB (And.intro hls (And.intro hfl (And.intro hcells hone)))))
            obtain ⟨m, hm⟩ : ∃ m, m = r.length := ⟨_, rfl⟩
            rw [← hm] at hcw l2
            have Hm := Lib.hid hm
            clear hown hB hls hfl hcells hR hrj hone hm
            go_wp2_with (at_builtin; refine wpList_append_own_at _ rfl _ _ 22 rfl w.heap.size 2 i0 (.int .i64 0) 1 8 Try.underlying22 hi hz0 hz1 hz2 rfl (by decide) _ (lenT rows t) _ rfl HY.out.1 ⟨g, 0, none⟩ m cc r rfl ?c0 HY.out.2.2.2.2.1 HY.out.2.2.2.2.2 ?c1 ?c2 ?c3 ?_)
            case c0 => rw [Hm.out, Nat.mul_one]
            case c1 => unfold maxLen; omega
            case c2 => omega
            case c3 => exact hBs
            intro v5 w5 hown5 hg5 _ _
            have hB5 := HY.out.2.1.grown hg5 hBs (fun q hq => (HY.out.1.lt q hq).1)
            have HZ := Lib.hid (And.intro hown5 hB5)
            clear hown5 hB5 hg5
            go_wp2
            go_roundw
            case rel => exact ⟨t + 1, by omega, by go_num, by rw [HY.out.2.2.1, HY.out.2.2.2.1, ← Hm.out]; exact HZ.out.1, HZ.out.2⟩
            case measure => simp [intOf]; omega
        · have e : t = j := by omega
          subst e
          have HY := Lib.hid (show wr.ownsRow w.heap.size 2 1 _ tot rows.flatten ∧ Below w.heap.size w wr from by
            have h9 := hown
            rw [Hf.out, show lenT rows t = tot by unfold lenT; rw [Hf.out, Ht.out]] at h9
            exact ⟨h9, hB⟩)
          clear hown hB
          go_wp2
          go_ret
          exact ⟨_, rfl, HY.out.1, HY.out.2⟩

set_option maxHeartbeats 3200000 in
set_option maxRecDepth 100000 in
theorem grow_ints2 (n : Nat) (w : World) (hn : n ≤ 1048576) :
    Calls Try.prog 141 #[.slice none 0 0, .int .i64 (n : Int)] w fun e w' => ∃ v, e = .returned v ∧ w'.ownsRow w.heap.size 22 1 v 0 [] ∧ Below w.heap.size w w' := by
  obtain ⟨i0, hi, hz0, hz1, hz2⟩ := info_parts toInfo_ints
  by_cases h0 : n = 0
  · subst h0
    go_enter Try.func141, Try.ntmps141
    go_wp2
    go_ret
    exact ⟨_, rfl, by simpa using World.ownsRow_nil w w.heap.size 22 1, Below.refl _ _⟩
  · have hpos : 0 < n := by omega
    have hr := Lib.run_append_nil_zeros (P := Try.prog) w 38 3 38 22 i0 (.slice none 0 0) .i64 .i64 Try.underlying38 Try.underlying3 hi hz0 n hpos (by rw [hz1]; decide) (by omega) (by rw [hz2]; omega)
    obtain ⟨C, hC⟩ : ∃ C, C = grownCap w n 0 22 := ⟨_, rfl⟩
    have hge := grownCap_ge w n 0 22
    have hcm := grownCap_le_maxLen w n 0 22 (by unfold maxLen; omega)
    rw [← hC] at hr hge hcm
    obtain ⟨Z, hZ⟩ : ∃ Z, Z = Builtin.zeroCells (Value.cells (.slice none 0 0)) n ++ Builtin.zeroCells (Value.cells (.slice none 0 0)) (C - n) := ⟨_, rfl⟩
    have hZs : Z.size = C * 1 := by rw [hZ, Array.size_append, size_zeroCells, size_zeroCells]; simp [Value.cells]; omega
    rw [← hZ] at hr
    have hb : Below w.heap.size w (w.drew.alloc (.cells Z 22)) := ⟨rfl, rfl, rfl, by simp, fun k hk => heap_alloc_old w.drew _ hk⟩
    have hown : (w.drew.alloc (.cells Z 22)).ownsRow w.heap.size 22 1 (.slice (some ⟨w.heap.size, 0, none⟩) 0 C) 0 [] := ⟨rfl, .inr ⟨w.heap.size, C, Z, rfl, Nat.le_refl _, heap_alloc_new w.drew _, Nat.zero_le _, hcm, hZs, by simp⟩⟩
    have HR := Lib.hid (And.intro hown hb)
    unfold maxLen at hcm
    clear hown hb hC hZ hZs
    go_enter Try.func141, Try.ntmps141
    go_wp2_with (at_builtin; refine Lib.wpList_append_run _ rfl _ _ _ _ rfl _ _ rfl rfl _ _ hr ?_)
    go_ret
    exact ⟨_, rfl, HR.out.1, HR.out.2⟩
set_option maxHeartbeats 3200000 in
set_option maxRecDepth 100000 in
theorem concat_ints2 {b k c : Nat} (vs : List Value) (rows : List (List Value)) (w : World) (hk : k ≤ 1000) (hvl : vs.length = k) (hrl : rows.length = k) (hb : b < w.heap.size) (hv : ∀ (j : Nat) u, vs[j]? = some u → w.cell? ⟨b, j, none⟩ = some u)
    (hr : ∀ (j : Nat) u r, vs[j]? = some u → rows[j]? = some r → ReadsAs w u r) (h1 : ∀ r ∈ rows, ∀ u ∈ r, u.oneCell' = true) (hs : rows.flatten.length ≤ 1000000) :
    Calls Try.prog 95 #[.slice (some ⟨b, 0, none⟩) k c] w fun e w' => ∃ v, e = .returned v ∧ w'.ownsRow w.heap.size 22 1 v rows.flatten.length rows.flatten ∧ Below w.heap.size w w' := by
  obtain ⟨i0, hi, hz0, hz1, hz2⟩ := info_parts toInfo_ints
  have Hv := Lib.hid (fun (j : Nat) (hj : j < k) => show ∃ u r, vs[j]? = some u ∧ rows[j]? = some r ∧ w.cell? ⟨b, j, none⟩ = some u ∧ ReadsAs w u r from by
    have e1 : vs[j]? = some (vs[j]'(by omega)) := List.getElem?_eq_getElem (by omega)
    have e2 : rows[j]? = some (rows[j]'(by omega)) := List.getElem?_eq_getElem (by omega)
    exact ⟨_, _, e1, e2, hv j _ e1, hr j _ _ e1 e2⟩)
  have Hle := Lib.hid (fun k => Nat.le_trans (lenT_le rows k) hs)
  have He := Lib.hid (show lenT rows k = rows.flatten.length by unfold lenT; rw [← hrl, List.take_length])
  have Hf := Lib.hid (show (rows.take k).flatten = rows.flatten by rw [← hrl, List.take_length])
  have H1 := Lib.hid h1
  have HG := Lib.hid (fun (n : Nat) (hn : n ≤ 1048576) W => grow_ints2 n W hn)
  obtain ⟨tot, ht⟩ : ∃ tot, tot = rows.flatten.length := ⟨_, rfl⟩
  rw [← ht] at hs He ⊢
  have Ht := Lib.hid ht
  clear hv hr h1 hvl hrl ht
  go_enter Try.func95, Try.ntmps95
  go_wp2
  go_loop [3, 11] (fun s i => ∃ j : Nat, j ≤ k ∧ i = .int .i64 j ∧ s = .int .i64 (lenT rows j : Nat)) (fun _ i => k - (intOf i).toNat)
  case atStart => exact ⟨0, Nat.zero_le _, rfl, rfl⟩
  case round =>
    obtain ⟨j, hj, rfl, rfl⟩ := hrel
    by_cases hlt : j < k
    · obtain ⟨u, r, _, hrj, hc, hR⟩ := Hv.out j hlt
      have hls := lenT_succ hrj
      have l1 := Hle.out j
      have l2 := Hle.out (j + 1)
      obtain ⟨A, n, cc, rfl, hn⟩ : ∃ A n cc, u = .slice A n cc ∧ r.length = n := by
        rcases hR with ⟨rfl, rfl⟩ | ⟨g, cc, rfl, _, _⟩
        · exact ⟨_, _, _, rfl, rfl⟩
        · exact ⟨_, _, _, rfl, rfl⟩
      rw [hn] at hls
      rw [hls] at l2
      have e1 : IntKind.i64.wrap ((lenT rows j : Int) + (n : Int)) = ((lenT rows j + n : Nat) : Int) := by rw [IntWalk.i64_in _ (by omega)]; omega
      have Hls := Lib.hid hls
      generalize lenT rows j = x at *
      clear hrj hR hn hls
      go_wp2
      go_round
      case rel => exact ⟨j + 1, by omega, by go_num, by rw [Hls.out]; go_num⟩
      case measure => simp [intOf]; omega
    · have e : j = k := by omega
      subst e
      rw [He.out]
      clear He
      go_wp2_with fail
      refine (HG.out tot (by omega) _).mono ?_
      rintro e w1 ⟨v1, rfl, hown1, hb1⟩
      have HX := Lib.hid (And.intro hown1 hb1)
      clear hown1 hb1
      go_wp2
      go_loopw [6, 27] (fun s i wr => ∃ t : Nat, t ≤ j ∧ i = .int .i64 t ∧ wr.ownsRow w.heap.size 22 1 s (lenT rows t) (rows.take t).flatten ∧ Below w.heap.size w wr) (fun _ i _ => j - (intOf i).toNat)
      case atStart => exact ⟨0, Nat.zero_le _, rfl, by simpa [lenT] using HX.out.1, HX.out.2⟩
      case round =>
        obtain ⟨t, htk, rfl, hown, hB⟩ := hrel
        by_cases hlt2 : t < j
        · obtain ⟨u, r, _, hrj, hc, hR⟩ := Hv.out t hlt2
          have hls := lenT_succ hrj
          have l2 := Hle.out (t + 1)
          rw [hls] at l2
          have hfl := flatT_succ hrj
          have hone := H1.out r (List.mem_of_getElem? hrj)
          have hcw : wr.cell? ⟨b, t, none⟩ = some u := (hB.cell (p := ⟨b, t, none⟩) hb).trans hc
          have hRw := hR.later hB
          have hBs := hB.size
          rcases hRw with ⟨rfl, rfl⟩ | ⟨g, cc, rfl, hg, hcells⟩
          · rw [List.append_nil] at hfl
            rw [List.length_nil, Nat.add_zero] at hls
            have HY := Lib.hid (And.intro hown (And.intro hB (And.intro hls hfl)))
            clear hown hB hls hfl hR hrj hone l2
            go_wp2_with (at_builtin; refine wpList_append_own_none rfl _ _ 38 rfl w.heap.size 22 i0 1 Try.underlying38 hi _ _ _ rfl HY.out.1 rfl ?_)
            go_roundw
            case rel => exact ⟨t + 1, by omega, by go_num, by rw [HY.out.2.2.1, HY.out.2.2.2]; exact HY.out.1, HY.out.2.1⟩
            case measure => simp [intOf]; omega
          · have HY := Lib.hid (And.intro hown (And.intro hB (And.intro hls (And.intro hfl (And.intro hcells hone)))))
            obtain ⟨m, hm⟩ : ∃ m, m = r.length := ⟨_, rfl⟩
            rw [← hm] at hcw l2
            have Hm := Lib.hid hm
            clear hown hB hls hfl hcells hR hrj hone hm
            go_wp2_with (at_builtin; refine wpList_append_own_at _ rfl _ _ 38 rfl w.heap.size 22 i0 (.slice none 0 0) 1 24 Try.underlying38 hi hz0 hz1 hz2 rfl (by decide) _ (lenT rows t) _ rfl HY.out.1 ⟨g, 0, none⟩ m cc r rfl ?c0 HY.out.2.2.2.2.1 HY.out.2.2.2.2.2 ?c1 ?c2 ?c3 ?_)
            case c0 => rw [Hm.out, Nat.mul_one]
            case c1 => unfold maxLen; omega
            case c2 => omega
            case c3 => exact hBs
            intro v5 w5 hown5 hg5 _ _
            have hB5 := HY.out.2.1.grown hg5 hBs (fun q hq => (HY.out.1.lt q hq).1)
            have HZ := Lib.hid (And.intro hown5 hB5)
            clear hown5 hB5 hg5
            go_wp2
            go_roundw
            case rel => exact ⟨t + 1, by omega, by go_num, by rw [HY.out.2.2.1, HY.out.2.2.2.1, ← Hm.out]; exact HZ.out.1, HZ.out.2⟩
            case measure => simp [intOf]; omega
        · have e : t = j := by omega
          subst e
          have HY := Lib.hid (show wr.ownsRow w.heap.size 22 1 _ tot rows.flatten ∧ Below w.heap.size w wr from by
            have h9 := hown
            rw [Hf.out, show lenT rows t = tot by unfold lenT; rw [Hf.out, Ht.out]] at h9
            exact ⟨h9, hB⟩)
          clear hown hB
          go_wp2
          go_ret
          exact ⟨_, rfl, HY.out.1, HY.out.2⟩

set_option maxHeartbeats 3200000 in
set_option maxRecDepth 100000 in
theorem grow_ints3 (n : Nat) (w : World) (hn : n ≤ 1048576) :
    Calls Try.prog 129 #[.slice none 0 0, .int .i64 (n : Int)] w fun e w' => ∃ v, e = .returned v ∧ w'.ownsRow w.heap.size 38 1 v 0 [] ∧ Below w.heap.size w w' := by
  obtain ⟨i0, hi, hz0, hz1, hz2⟩ := info_parts toInfo_ints2
  by_cases h0 : n = 0
  · subst h0
    go_enter Try.func129, Try.ntmps129
    go_wp2
    go_ret
    exact ⟨_, rfl, by simpa using World.ownsRow_nil w w.heap.size 38 1, Below.refl _ _⟩
  · have hpos : 0 < n := by omega
    have hr := Lib.run_append_nil_zeros (P := Try.prog) w 26 3 26 38 i0 (.slice none 0 0) .i64 .i64 Try.underlying26 Try.underlying3 hi hz0 n hpos (by rw [hz1]; decide) (by omega) (by rw [hz2]; omega)
    obtain ⟨C, hC⟩ : ∃ C, C = grownCap w n 0 38 := ⟨_, rfl⟩
    have hge := grownCap_ge w n 0 38
    have hcm := grownCap_le_maxLen w n 0 38 (by unfold maxLen; omega)
    rw [← hC] at hr hge hcm
    obtain ⟨Z, hZ⟩ : ∃ Z, Z = Builtin.zeroCells (Value.cells (.slice none 0 0)) n ++ Builtin.zeroCells (Value.cells (.slice none 0 0)) (C - n) := ⟨_, rfl⟩
    have hZs : Z.size = C * 1 := by rw [hZ, Array.size_append, size_zeroCells, size_zeroCells]; simp [Value.cells]; omega
    rw [← hZ] at hr
    have hb : Below w.heap.size w (w.drew.alloc (.cells Z 38)) := ⟨rfl, rfl, rfl, by simp, fun k hk => heap_alloc_old w.drew _ hk⟩
    have hown : (w.drew.alloc (.cells Z 38)).ownsRow w.heap.size 38 1 (.slice (some ⟨w.heap.size, 0, none⟩) 0 C) 0 [] := ⟨rfl, .inr ⟨w.heap.size, C, Z, rfl, Nat.le_refl _, heap_alloc_new w.drew _, Nat.zero_le _, hcm, hZs, by simp⟩⟩
    have HR := Lib.hid (And.intro hown hb)
    unfold maxLen at hcm
    clear hown hb hC hZ hZs
    go_enter Try.func129, Try.ntmps129
    go_wp2_with (at_builtin; refine Lib.wpList_append_run _ rfl _ _ _ _ rfl _ _ rfl rfl _ _ hr ?_)
    go_ret
    exact ⟨_, rfl, HR.out.1, HR.out.2⟩
set_option maxHeartbeats 3200000 in
set_option maxRecDepth 100000 in
theorem concat_ints3 {b k c : Nat} (vs : List Value) (rows : List (List Value)) (w : World) (hk : k ≤ 1000) (hvl : vs.length = k) (hrl : rows.length = k) (hb : b < w.heap.size) (hv : ∀ (j : Nat) u, vs[j]? = some u → w.cell? ⟨b, j, none⟩ = some u)
    (hr : ∀ (j : Nat) u r, vs[j]? = some u → rows[j]? = some r → ReadsAs w u r) (h1 : ∀ r ∈ rows, ∀ u ∈ r, u.oneCell' = true) (hs : rows.flatten.length ≤ 1000000) :
    Calls Try.prog 82 #[.slice (some ⟨b, 0, none⟩) k c] w fun e w' => ∃ v, e = .returned v ∧ w'.ownsRow w.heap.size 38 1 v rows.flatten.length rows.flatten ∧ Below w.heap.size w w' := by
  obtain ⟨i0, hi, hz0, hz1, hz2⟩ := info_parts toInfo_ints2
  have Hv := Lib.hid (fun (j : Nat) (hj : j < k) => show ∃ u r, vs[j]? = some u ∧ rows[j]? = some r ∧ w.cell? ⟨b, j, none⟩ = some u ∧ ReadsAs w u r from by
    have e1 : vs[j]? = some (vs[j]'(by omega)) := List.getElem?_eq_getElem (by omega)
    have e2 : rows[j]? = some (rows[j]'(by omega)) := List.getElem?_eq_getElem (by omega)
    exact ⟨_, _, e1, e2, hv j _ e1, hr j _ _ e1 e2⟩)
  have Hle := Lib.hid (fun k => Nat.le_trans (lenT_le rows k) hs)
  have He := Lib.hid (show lenT rows k = rows.flatten.length by unfold lenT; rw [← hrl, List.take_length])
  have Hf := Lib.hid (show (rows.take k).flatten = rows.flatten by rw [← hrl, List.take_length])
  have H1 := Lib.hid h1
  have HG := Lib.hid (fun (n : Nat) (hn : n ≤ 1048576) W => grow_ints3 n W hn)
  obtain ⟨tot, ht⟩ : ∃ tot, tot = rows.flatten.length := ⟨_, rfl⟩
  rw [← ht] at hs He ⊢
  have Ht := Lib.hid ht
  clear hv hr h1 hvl hrl ht
  go_enter Try.func82, Try.ntmps82
  go_wp2
  go_loop [3, 11] (fun s i => ∃ j : Nat, j ≤ k ∧ i = .int .i64 j ∧ s = .int .i64 (lenT rows j : Nat)) (fun _ i => k - (intOf i).toNat)
  case atStart => exact ⟨0, Nat.zero_le _, rfl, rfl⟩
  case round =>
    obtain ⟨j, hj, rfl, rfl⟩ := hrel
    by_cases hlt : j < k
    · obtain ⟨u, r, _, hrj, hc, hR⟩ := Hv.out j hlt
      have hls := lenT_succ hrj
      have l1 := Hle.out j
      have l2 := Hle.out (j + 1)
      obtain ⟨A, n, cc, rfl, hn⟩ : ∃ A n cc, u = .slice A n cc ∧ r.length = n := by
        rcases hR with ⟨rfl, rfl⟩ | ⟨g, cc, rfl, _, _⟩
        · exact ⟨_, _, _, rfl, rfl⟩
        · exact ⟨_, _, _, rfl, rfl⟩
      rw [hn] at hls
      rw [hls] at l2
      have e1 : IntKind.i64.wrap ((lenT rows j : Int) + (n : Int)) = ((lenT rows j + n : Nat) : Int) := by rw [IntWalk.i64_in _ (by omega)]; omega
      have Hls := Lib.hid hls
      generalize lenT rows j = x at *
      clear hrj hR hn hls
      go_wp2
      go_round
      case rel => exact ⟨j + 1, by omega, by go_num, by rw [Hls.out]; go_num⟩
      case measure => simp [intOf]; omega
    · have e : j = k := by omega
      subst e
      rw [He.out]
      clear He
      go_wp2_with fail
      refine (HG.out tot (by omega) _).mono ?_
      rintro e w1 ⟨v1, rfl, hown1, hb1⟩
      have HX := Lib.hid (And.intro hown1 hb1)
      clear hown1 hb1
      go_wp2
      go_loopw [6, 27] (fun s i wr => ∃ t : Nat, t ≤ j ∧ i = .int .i64 t ∧ wr.ownsRow w.heap.size 38 1 s (lenT rows t) (rows.take t).flatten ∧ Below w.heap.size w wr) (fun _ i _ => j - (intOf i).toNat)
      case atStart => exact ⟨0, Nat.zero_le _, rfl, by simpa [lenT] using HX.out.1, HX.out.2⟩
      case round =>
        obtain ⟨t, htk, rfl, hown, hB⟩ := hrel
        by_cases hlt2 : t < j
        · obtain ⟨u, r, _, hrj, hc, hR⟩ := Hv.out t hlt2
          have hls := lenT_succ hrj
          have l2 := Hle.out (t + 1)
          rw [hls] at l2
          have hfl := flatT_succ hrj
          have hone := H1.out r (List.mem_of_getElem? hrj)
          have hcw : wr.cell? ⟨b, t, none⟩ = some u := (hB.cell (p := ⟨b, t, none⟩) hb).trans hc
          have hRw := hR.later hB
          have hBs := hB.size
          rcases hRw with ⟨rfl, rfl⟩ | ⟨g, cc, rfl, hg, hcells⟩
          · rw [List.append_nil] at hfl
            rw [List.length_nil, Nat.add_zero] at hls
            have HY := Lib.hid (And.intro hown (And.intro hB (And.intro hls hfl)))
            clear hown hB hls hfl hR hrj hone l2
            go_wp2_with (at_builtin; refine wpList_append_own_none rfl _ _ 26 rfl w.heap.size 38 i0 1 Try.underlying26 hi _ _ _ rfl HY.out.1 rfl ?_)
            go_roundw
            case rel => exact ⟨t + 1, by omega, by go_num, by rw [HY.out.2.2.1, HY.out.2.2.2]; exact HY.out.1, HY.out.2.1⟩
            case measure => simp [intOf]; omega
          · have HY := Lib.hid (And.intro hown (And.intro hB (And.intro hls (And.intro hfl (And.intro hcells hone)))))
            obtain ⟨m, hm⟩ : ∃ m, m = r.length := ⟨_, rfl⟩
            rw [← hm] at hcw l2
            have Hm := Lib.hid hm
            clear hown hB hls hfl hcells hR hrj hone hm
            go_wp2_with (at_builtin; refine wpList_append_own_at _ rfl _ _ 26 rfl w.heap.size 38 i0 (.slice none 0 0) 1 24 Try.underlying26 hi hz0 hz1 hz2 rfl (by decide) _ (lenT rows t) _ rfl HY.out.1 ⟨g, 0, none⟩ m cc r rfl ?c0 HY.out.2.2.2.2.1 HY.out.2.2.2.2.2 ?c1 ?c2 ?c3 ?_)
            case c0 => rw [Hm.out, Nat.mul_one]
            case c1 => unfold maxLen; omega
            case c2 => omega
            case c3 => exact hBs
            intro v5 w5 hown5 hg5 _ _
            have hB5 := HY.out.2.1.grown hg5 hBs (fun q hq => (HY.out.1.lt q hq).1)
            have HZ := Lib.hid (And.intro hown5 hB5)
            clear hown5 hB5 hg5
            go_wp2
            go_roundw
            case rel => exact ⟨t + 1, by omega, by go_num, by rw [HY.out.2.2.1, HY.out.2.2.2.1, ← Hm.out]; exact HZ.out.1, HZ.out.2⟩
            case measure => simp [intOf]; omega
        · have e : t = j := by omega
          subst e
          have HY := Lib.hid (show wr.ownsRow w.heap.size 38 1 _ tot rows.flatten ∧ Below w.heap.size w wr from by
            have h9 := hown
            rw [Hf.out, show lenT rows t = tot by unfold lenT; rw [Hf.out, Ht.out]] at h9
            exact ⟨h9, hB⟩)
          clear hown hB
          go_wp2
          go_ret
          exact ⟨_, rfl, HY.out.1, HY.out.2⟩

set_option maxHeartbeats 3200000 in
set_option maxRecDepth 100000 in
theorem grow_ints4 (n : Nat) (w : World) (hn : n ≤ 1048576) :
    Calls Try.prog 128 #[.slice none 0 0, .int .i64 (n : Int)] w fun e w' => ∃ v, e = .returned v ∧ w'.ownsRow w.heap.size 26 1 v 0 [] ∧ Below w.heap.size w w' := by
  obtain ⟨i0, hi, hz0, hz1, hz2⟩ := info_parts toInfo_ints3
  by_cases h0 : n = 0
  · subst h0
    go_enter Try.func128, Try.ntmps128
    go_wp2
    go_ret
    exact ⟨_, rfl, by simpa using World.ownsRow_nil w w.heap.size 26 1, Below.refl _ _⟩
  · have hpos : 0 < n := by omega
    have hr := Lib.run_append_nil_zeros (P := Try.prog) w 25 3 25 26 i0 (.slice none 0 0) .i64 .i64 Try.underlying25 Try.underlying3 hi hz0 n hpos (by rw [hz1]; decide) (by omega) (by rw [hz2]; omega)
    obtain ⟨C, hC⟩ : ∃ C, C = grownCap w n 0 26 := ⟨_, rfl⟩
    have hge := grownCap_ge w n 0 26
    have hcm := grownCap_le_maxLen w n 0 26 (by unfold maxLen; omega)
    rw [← hC] at hr hge hcm
    obtain ⟨Z, hZ⟩ : ∃ Z, Z = Builtin.zeroCells (Value.cells (.slice none 0 0)) n ++ Builtin.zeroCells (Value.cells (.slice none 0 0)) (C - n) := ⟨_, rfl⟩
    have hZs : Z.size = C * 1 := by rw [hZ, Array.size_append, size_zeroCells, size_zeroCells]; simp [Value.cells]; omega
    rw [← hZ] at hr
    have hb : Below w.heap.size w (w.drew.alloc (.cells Z 26)) := ⟨rfl, rfl, rfl, by simp, fun k hk => heap_alloc_old w.drew _ hk⟩
    have hown : (w.drew.alloc (.cells Z 26)).ownsRow w.heap.size 26 1 (.slice (some ⟨w.heap.size, 0, none⟩) 0 C) 0 [] := ⟨rfl, .inr ⟨w.heap.size, C, Z, rfl, Nat.le_refl _, heap_alloc_new w.drew _, Nat.zero_le _, hcm, hZs, by simp⟩⟩
    have HR := Lib.hid (And.intro hown hb)
    unfold maxLen at hcm
    clear hown hb hC hZ hZs
    go_enter Try.func128, Try.ntmps128
    go_wp2_with (at_builtin; refine Lib.wpList_append_run _ rfl _ _ _ _ rfl _ _ rfl rfl _ _ hr ?_)
    go_ret
    exact ⟨_, rfl, HR.out.1, HR.out.2⟩
set_option maxHeartbeats 3200000 in
set_option maxRecDepth 100000 in
theorem concat_ints4 {b k c : Nat} (vs : List Value) (rows : List (List Value)) (w : World) (hk : k ≤ 1000) (hvl : vs.length = k) (hrl : rows.length = k) (hb : b < w.heap.size) (hv : ∀ (j : Nat) u, vs[j]? = some u → w.cell? ⟨b, j, none⟩ = some u)
    (hr : ∀ (j : Nat) u r, vs[j]? = some u → rows[j]? = some r → ReadsAs w u r) (h1 : ∀ r ∈ rows, ∀ u ∈ r, u.oneCell' = true) (hs : rows.flatten.length ≤ 1000000) :
    Calls Try.prog 81 #[.slice (some ⟨b, 0, none⟩) k c] w fun e w' => ∃ v, e = .returned v ∧ w'.ownsRow w.heap.size 26 1 v rows.flatten.length rows.flatten ∧ Below w.heap.size w w' := by
  obtain ⟨i0, hi, hz0, hz1, hz2⟩ := info_parts toInfo_ints3
  have Hv := Lib.hid (fun (j : Nat) (hj : j < k) => show ∃ u r, vs[j]? = some u ∧ rows[j]? = some r ∧ w.cell? ⟨b, j, none⟩ = some u ∧ ReadsAs w u r from by
    have e1 : vs[j]? = some (vs[j]'(by omega)) := List.getElem?_eq_getElem (by omega)
    have e2 : rows[j]? = some (rows[j]'(by omega)) := List.getElem?_eq_getElem (by omega)
    exact ⟨_, _, e1, e2, hv j _ e1, hr j _ _ e1 e2⟩)
  have Hle := Lib.hid (fun k => Nat.le_trans (lenT_le rows k) hs)
  have He := Lib.hid (show lenT rows k = rows.flatten.length by unfold lenT; rw [← hrl, List.take_length])
  have Hf := Lib.hid (show (rows.take k).flatten = rows.flatten by rw [← hrl, List.take_length])
  have H1 := Lib.hid h1
  have HG := Lib.hid (fun (n : Nat) (hn : n ≤ 1048576) W => grow_ints4 n W hn)
  obtain ⟨tot, ht⟩ : ∃ tot, tot = rows.flatten.length := ⟨_, rfl⟩
  rw [← ht] at hs He ⊢
  have Ht := Lib.hid ht
  clear hv hr h1 hvl hrl ht
  go_enter Try.func81, Try.ntmps81
  go_wp2
  go_loop [3, 11] (fun s i => ∃ j : Nat, j ≤ k ∧ i = .int .i64 j ∧ s = .int .i64 (lenT rows j : Nat)) (fun _ i => k - (intOf i).toNat)
  case atStart => exact ⟨0, Nat.zero_le _, rfl, rfl⟩
  case round =>
    obtain ⟨j, hj, rfl, rfl⟩ := hrel
    by_cases hlt : j < k
    · obtain ⟨u, r, _, hrj, hc, hR⟩ := Hv.out j hlt
      have hls := lenT_succ hrj
      have l1 := Hle.out j
      have l2 := Hle.out (j + 1)
      obtain ⟨A, n, cc, rfl, hn⟩ : ∃ A n cc, u = .slice A n cc ∧ r.length = n := by
        rcases hR with ⟨rfl, rfl⟩ | ⟨g, cc, rfl, _, _⟩
        · exact ⟨_, _, _, rfl, rfl⟩
        · exact ⟨_, _, _, rfl, rfl⟩
      rw [hn] at hls
      rw [hls] at l2
      have e1 : IntKind.i64.wrap ((lenT rows j : Int) + (n : Int)) = ((lenT rows j + n : Nat) : Int) := by rw [IntWalk.i64_in _ (by omega)]; omega
      have Hls := Lib.hid hls
      generalize lenT rows j = x at *
      clear hrj hR hn hls
      go_wp2
      go_round
      case rel => exact ⟨j + 1, by omega, by go_num, by rw [Hls.out]; go_num⟩
      case measure => simp [intOf]; omega
    · have e : j = k := by omega
      subst e
      rw [He.out]
      clear He
      go_wp2_with fail
      refine (HG.out tot (by omega) _).mono ?_
      rintro e w1 ⟨v1, rfl, hown1, hb1⟩
      have HX := Lib.hid (And.intro hown1 hb1)
      clear hown1 hb1
      go_wp2
      go_loopw [6, 27] (fun s i wr => ∃ t : Nat, t ≤ j ∧ i = .int .i64 t ∧ wr.ownsRow w.heap.size 26 1 s (lenT rows t) (rows.take t).flatten ∧ Below w.heap.size w wr) (fun _ i _ => j - (intOf i).toNat)
      case atStart => exact ⟨0, Nat.zero_le _, rfl, by simpa [lenT] using HX.out.1, HX.out.2⟩
      case round =>
        obtain ⟨t, htk, rfl, hown, hB⟩ := hrel
        by_cases hlt2 : t < j
        · obtain ⟨u, r, _, hrj, hc, hR⟩ := Hv.out t hlt2
          have hls := lenT_succ hrj
          have l2 := Hle.out (t + 1)
          rw [hls] at l2
          have hfl := flatT_succ hrj
          have hone := H1.out r (List.mem_of_getElem? hrj)
          have hcw : wr.cell? ⟨b, t, none⟩ = some u := (hB.cell (p := ⟨b, t, none⟩) hb).trans hc
          have hRw := hR.later hB
          have hBs := hB.size
          rcases hRw with ⟨rfl, rfl⟩ | ⟨g, cc, rfl, hg, hcells⟩
          · rw [List.append_nil] at hfl
            rw [List.length_nil, Nat.add_zero] at hls
            have HY := Lib.hid (And.intro hown (And.intro hB (And.intro hls hfl)))
            clear hown hB hls hfl hR hrj hone l2
            go_wp2_with (at_builtin; refine wpList_append_own_none rfl _ _ 25 rfl w.heap.size 26 i0 1 Try.underlying25 hi _ _ _ rfl HY.out.1 rfl ?_)
            go_roundw
            case rel => exact ⟨t + 1, by omega, by go_num, by rw [HY.out.2.2.1, HY.out.2.2.2]; exact HY.out.1, HY.out.2.1⟩
            case measure => simp [intOf]; omega
          · have HY := Lib.hid (And.intro hown (And.intro hB (And.intro hls (And.intro hfl (And.intro hcells hone)))))
            obtain ⟨m, hm⟩ : ∃ m, m = r.length := ⟨_, rfl⟩
            rw [← hm] at hcw l2
            have Hm := Lib.hid hm
            clear hown hB hls hfl hcells hR hrj hone hm
            go_wp2_with (at_builtin; refine wpList_append_own_at _ rfl _ _ 25 rfl w.heap.size 26 i0 (.slice none 0 0) 1 24 Try.underlying25 hi hz0 hz1 hz2 rfl (by decide) _ (lenT rows t) _ rfl HY.out.1 ⟨g, 0, none⟩ m cc r rfl ?c0 HY.out.2.2.2.2.1 HY.out.2.2.2.2.2 ?c1 ?c2 ?c3 ?_)
            case c0 => rw [Hm.out, Nat.mul_one]
            case c1 => unfold maxLen; omega
            case c2 => omega
            case c3 => exact hBs
            intro v5 w5 hown5 hg5 _ _
            have hB5 := HY.out.2.1.grown hg5 hBs (fun q hq => (HY.out.1.lt q hq).1)
            have HZ := Lib.hid (And.intro hown5 hB5)
            clear hown5 hB5 hg5
            go_wp2
            go_roundw
            case rel => exact ⟨t + 1, by omega, by go_num, by rw [HY.out.2.2.1, HY.out.2.2.2.1, ← Hm.out]; exact HZ.out.1, HZ.out.2⟩
            case measure => simp [intOf]; omega
        · have e : t = j := by omega
          subst e
          have HY := Lib.hid (show wr.ownsRow w.heap.size 26 1 _ tot rows.flatten ∧ Below w.heap.size w wr from by
            have h9 := hown
            rw [Hf.out, show lenT rows t = tot by unfold lenT; rw [Hf.out, Ht.out]] at h9
            exact ⟨h9, hB⟩)
          clear hown hB
          go_wp2
          go_ret
          exact ⟨_, rfl, HY.out.1, HY.out.2⟩

set_option maxHeartbeats 3200000 in
set_option maxRecDepth 100000 in
theorem grow_push3 (n : Nat) (w : World) (hn : n ≤ 1048576) :
    Calls Try.prog 127 #[.slice none 0 0, .int .i64 (n : Int)] w fun e w' => ∃ v, e = .returned v ∧ w'.ownsRow w.heap.size 44 1 v 0 [] ∧ Below w.heap.size w w' := by
  obtain ⟨i0, hi, hz0, hz1, hz2⟩ := info_parts toInfo_pushes2
  by_cases h0 : n = 0
  · subst h0
    go_enter Try.func127, Try.ntmps127
    go_wp2
    go_ret
    exact ⟨_, rfl, by simpa using World.ownsRow_nil w w.heap.size 44 1, Below.refl _ _⟩
  · have hpos : 0 < n := by omega
    have hr := Lib.run_append_nil_zeros (P := Try.prog) w 31 3 31 44 i0 (.slice none 0 0) .i64 .i64 Try.underlying31 Try.underlying3 hi hz0 n hpos (by rw [hz1]; decide) (by omega) (by rw [hz2]; omega)
    obtain ⟨C, hC⟩ : ∃ C, C = grownCap w n 0 44 := ⟨_, rfl⟩
    have hge := grownCap_ge w n 0 44
    have hcm := grownCap_le_maxLen w n 0 44 (by unfold maxLen; omega)
    rw [← hC] at hr hge hcm
    obtain ⟨Z, hZ⟩ : ∃ Z, Z = Builtin.zeroCells (Value.cells (.slice none 0 0)) n ++ Builtin.zeroCells (Value.cells (.slice none 0 0)) (C - n) := ⟨_, rfl⟩
    have hZs : Z.size = C * 1 := by rw [hZ, Array.size_append, size_zeroCells, size_zeroCells]; simp [Value.cells]; omega
    rw [← hZ] at hr
    have hb : Below w.heap.size w (w.drew.alloc (.cells Z 44)) := ⟨rfl, rfl, rfl, by simp, fun k hk => heap_alloc_old w.drew _ hk⟩
    have hown : (w.drew.alloc (.cells Z 44)).ownsRow w.heap.size 44 1 (.slice (some ⟨w.heap.size, 0, none⟩) 0 C) 0 [] := ⟨rfl, .inr ⟨w.heap.size, C, Z, rfl, Nat.le_refl _, heap_alloc_new w.drew _, Nat.zero_le _, hcm, hZs, by simp⟩⟩
    have HR := Lib.hid (And.intro hown hb)
    unfold maxLen at hcm
    clear hown hb hC hZ hZs
    go_enter Try.func127, Try.ntmps127
    go_wp2_with (at_builtin; refine Lib.wpList_append_run _ rfl _ _ _ _ rfl _ _ rfl rfl _ _ hr ?_)
    go_ret
    exact ⟨_, rfl, HR.out.1, HR.out.2⟩
set_option maxHeartbeats 3200000 in
set_option maxRecDepth 100000 in
theorem concat_push3 {b k c : Nat} (vs : List Value) (rows : List (List Value)) (w : World) (hk : k ≤ 1000) (hvl : vs.length = k) (hrl : rows.length = k) (hb : b < w.heap.size) (hv : ∀ (j : Nat) u, vs[j]? = some u → w.cell? ⟨b, j, none⟩ = some u)
    (hr : ∀ (j : Nat) u r, vs[j]? = some u → rows[j]? = some r → ReadsAs w u r) (h1 : ∀ r ∈ rows, ∀ u ∈ r, u.oneCell' = true) (hs : rows.flatten.length ≤ 1000000) :
    Calls Try.prog 80 #[.slice (some ⟨b, 0, none⟩) k c] w fun e w' => ∃ v, e = .returned v ∧ w'.ownsRow w.heap.size 44 1 v rows.flatten.length rows.flatten ∧ Below w.heap.size w w' := by
  obtain ⟨i0, hi, hz0, hz1, hz2⟩ := info_parts toInfo_pushes2
  have Hv := Lib.hid (fun (j : Nat) (hj : j < k) => show ∃ u r, vs[j]? = some u ∧ rows[j]? = some r ∧ w.cell? ⟨b, j, none⟩ = some u ∧ ReadsAs w u r from by
    have e1 : vs[j]? = some (vs[j]'(by omega)) := List.getElem?_eq_getElem (by omega)
    have e2 : rows[j]? = some (rows[j]'(by omega)) := List.getElem?_eq_getElem (by omega)
    exact ⟨_, _, e1, e2, hv j _ e1, hr j _ _ e1 e2⟩)
  have Hle := Lib.hid (fun k => Nat.le_trans (lenT_le rows k) hs)
  have He := Lib.hid (show lenT rows k = rows.flatten.length by unfold lenT; rw [← hrl, List.take_length])
  have Hf := Lib.hid (show (rows.take k).flatten = rows.flatten by rw [← hrl, List.take_length])
  have H1 := Lib.hid h1
  have HG := Lib.hid (fun (n : Nat) (hn : n ≤ 1048576) W => grow_push3 n W hn)
  obtain ⟨tot, ht⟩ : ∃ tot, tot = rows.flatten.length := ⟨_, rfl⟩
  rw [← ht] at hs He ⊢
  have Ht := Lib.hid ht
  clear hv hr h1 hvl hrl ht
  go_enter Try.func80, Try.ntmps80
  go_wp2
  go_loop [3, 11] (fun s i => ∃ j : Nat, j ≤ k ∧ i = .int .i64 j ∧ s = .int .i64 (lenT rows j : Nat)) (fun _ i => k - (intOf i).toNat)
  case atStart => exact ⟨0, Nat.zero_le _, rfl, rfl⟩
  case round =>
    obtain ⟨j, hj, rfl, rfl⟩ := hrel
    by_cases hlt : j < k
    · obtain ⟨u, r, _, hrj, hc, hR⟩ := Hv.out j hlt
      have hls := lenT_succ hrj
      have l1 := Hle.out j
      have l2 := Hle.out (j + 1)
      obtain ⟨A, n, cc, rfl, hn⟩ : ∃ A n cc, u = .slice A n cc ∧ r.length = n := by
        rcases hR with ⟨rfl, rfl⟩ | ⟨g, cc, rfl, _, _⟩
        · exact ⟨_, _, _, rfl, rfl⟩
        · exact ⟨_, _, _, rfl, rfl⟩
      rw [hn] at hls
      rw [hls] at l2
      have e1 : IntKind.i64.wrap ((lenT rows j : Int) + (n : Int)) = ((lenT rows j + n : Nat) : Int) := by rw [IntWalk.i64_in _ (by omega)]; omega
      have Hls := Lib.hid hls
      generalize lenT rows j = x at *
      clear hrj hR hn hls
      go_wp2
      go_round
      case rel => exact ⟨j + 1, by omega, by go_num, by rw [Hls.out]; go_num⟩
      case measure => simp [intOf]; omega
    · have e : j = k := by omega
      subst e
      rw [He.out]
      clear He
      go_wp2_with fail
      refine (HG.out tot (by omega) _).mono ?_
      rintro e w1 ⟨v1, rfl, hown1, hb1⟩
      have HX := Lib.hid (And.intro hown1 hb1)
      clear hown1 hb1
      go_wp2
      go_loopw [6, 27] (fun s i wr => ∃ t : Nat, t ≤ j ∧ i = .int .i64 t ∧ wr.ownsRow w.heap.size 44 1 s (lenT rows t) (rows.take t).flatten ∧ Below w.heap.size w wr) (fun _ i _ => j - (intOf i).toNat)
      case atStart => exact ⟨0, Nat.zero_le _, rfl, by simpa [lenT] using HX.out.1, HX.out.2⟩
      case round =>
        obtain ⟨t, htk, rfl, hown, hB⟩ := hrel
        by_cases hlt2 : t < j
        · obtain ⟨u, r, _, hrj, hc, hR⟩ := Hv.out t hlt2
          have hls := lenT_succ hrj
          have l2 := Hle.out (t + 1)
          rw [hls] at l2
          have hfl := flatT_succ hrj
          have hone := H1.out r (List.mem_of_getElem? hrj)
          have hcw : wr.cell? ⟨b, t, none⟩ = some u := (hB.cell (p := ⟨b, t, none⟩) hb).trans hc
          have hRw := hR.later hB
          have hBs := hB.size
          rcases hRw with ⟨rfl, rfl⟩ | ⟨g, cc, rfl, hg, hcells⟩
          · rw [List.append_nil] at hfl
            rw [List.length_nil, Nat.add_zero] at hls
            have HY := Lib.hid (And.intro hown (And.intro hB (And.intro hls hfl)))
            clear hown hB hls hfl hR hrj hone l2
            go_wp2_with (at_builtin; refine wpList_append_own_none rfl _ _ 31 rfl w.heap.size 44 i0 1 Try.underlying31 hi _ _ _ rfl HY.out.1 rfl ?_)
            go_roundw
            case rel => exact ⟨t + 1, by omega, by go_num, by rw [HY.out.2.2.1, HY.out.2.2.2]; exact HY.out.1, HY.out.2.1⟩
            case measure => simp [intOf]; omega
          · have HY := Lib.hid (And.intro hown (And.intro hB (And.intro hls (And.intro hfl (And.intro hcells hone)))))
            obtain ⟨m, hm⟩ : ∃ m, m = r.length := ⟨_, rfl⟩
            rw [← hm] at hcw l2
            have Hm := Lib.hid hm
            clear hown hB hls hfl hcells hR hrj hone hm
            go_wp2_with (at_builtin; refine wpList_append_own_at _ rfl _ _ 31 rfl w.heap.size 44 i0 (.slice none 0 0) 1 24 Try.underlying31 hi hz0 hz1 hz2 rfl (by decide) _ (lenT rows t) _ rfl HY.out.1 ⟨g, 0, none⟩ m cc r rfl ?c0 HY.out.2.2.2.2.1 HY.out.2.2.2.2.2 ?c1 ?c2 ?c3 ?_)
            case c0 => rw [Hm.out, Nat.mul_one]
            case c1 => unfold maxLen; omega
            case c2 => omega
            case c3 => exact hBs
            intro v5 w5 hown5 hg5 _ _
            have hB5 := HY.out.2.1.grown hg5 hBs (fun q hq => (HY.out.1.lt q hq).1)
            have HZ := Lib.hid (And.intro hown5 hB5)
            clear hown5 hB5 hg5
            go_wp2
            go_roundw
            case rel => exact ⟨t + 1, by omega, by go_num, by rw [HY.out.2.2.1, HY.out.2.2.2.1, ← Hm.out]; exact HZ.out.1, HZ.out.2⟩
            case measure => simp [intOf]; omega
        · have e : t = j := by omega
          subst e
          have HY := Lib.hid (show wr.ownsRow w.heap.size 44 1 _ tot rows.flatten ∧ Below w.heap.size w wr from by
            have h9 := hown
            rw [Hf.out, show lenT rows t = tot by unfold lenT; rw [Hf.out, Ht.out]] at h9
            exact ⟨h9, hB⟩)
          clear hown hB
          go_wp2
          go_ret
          exact ⟨_, rfl, HY.out.1, HY.out.2⟩

end Go.Proofs.Yticmekdfdilcpaa
