/- ChildrenOf, of the model and of the program. -/
import Derived.Test.YtiigcphgilpfaaaParentsOf
import Derived.Outline
namespace Go.Proofs.Ytiigcphgilpfaaa
open Go.RowKit Go.Shelf

attribute [local go_sem] Oper.semAt_some

/-- The places with the parent i, below n. -/
def childL (ks : List Nat) (i : Int) (n : Nat) : List Int := ((List.range n).filter fun k => parI ks k == i).map fun k : Nat => (k : Int)
theorem childL_yes {ks : List Nat} {i : Int} {k : Nat} (h : (parI ks k == i) = true) : childL ks i (k + 1) = childL ks i k ++ [(k : Int)] := by simp [childL, List.range_succ, List.filter_append, h]
theorem childL_no {ks : List Nat} {i : Int} {k : Nat} (h : (parI ks k == i) = false) : childL ks i (k + 1) = childL ks i k := by simp [childL, List.range_succ, List.filter_append, h]
theorem childL_len (ks : List Nat) (i : Int) (n : Nat) : (childL ks i n).length ≤ n := by
  rw [childL, List.length_map]
  exact Nat.le_trans (List.length_filter_le _ _) (by simp)
def childV {N : Nat} (ks : List Nat) (i : Int) (pre : List (Fin N)) : List Value := (pre.filter fun x => parI ks x.val == i).map fun x => .int .i64 (x.val : Int)
theorem childV_all (ks : List Nat) (i : Int) (N : Nat) : childV ks i (upTo N N) = numsV (childL ks i N) := by
  rw [childV, numsV, childL, ← upTo_val N N (Nat.le_refl _), List.map_map, List.filter_map, List.map_map]; rfl
theorem childV_len {N : Nat} (ks : List Nat) (i : Int) (pre : List (Fin N)) : (childV ks i pre).length ≤ pre.length := by
  rw [childV, List.length_map]; exact List.length_filter_le _ _

set_option maxHeartbeats 3200000 in
set_option maxRecDepth 100000 in
theorem spec_ChildrenOf_yes (s : ByteArray) (i : Int) (w : World) (h : IsW s) (h1 : -1 ≤ i) (h2 : i ≤ (s.size : Int) - 1) :
    Calls Try.prog 19 #[.string s, .int .i64 i] w (NumsPost (childL (ksOf s.data.toList) i s.size).length (childL (ksOf s.data.toList) i s.size) 0 w) := by
  have hp := fun w => spec_parents s w h
  have h60 := h.1
  obtain ⟨i0, hi, hz0, hz1, hz2⟩ := info_parts info_i64
  obtain ⟨ks, hks⟩ : ∃ ks, ks = ksOf s.data.toList := ⟨_, rfl⟩
  rw [← hks] at hp ⊢
  have Hp := Lib.hid hp
  have H := Lib.hid h
  clear h hp hks
  go_enter Try.func19, Try.ntmps19
  go_wp2_with (first
    | (go_at_call 27; refine (spec_ok_yes _ _ H.out).mono ?_; rintro e w' ⟨rfl, rfl⟩)
    | (go_at_call 36; refine (in_yes _ _ _ _ h1 h2).mono ?_; rintro e w' ⟨rfl, rfl⟩)
    | (go_at_call 35; refine (Hp.out _).mono ?_; rintro e w1 ⟨A, c, rfl, hr, hb⟩))
  go_loopw [7, 8] (fun y j wr => ∃ (k m : Nat) (A' : Option Addr) (c' : Nat), k ≤ s.size ∧ j = .int .i64 k ∧ y = .slice A' m c' ∧ Hid (m = (childL ks i k).length) ∧
      wr.ownsRow w1.heap.size 2 1 (.slice A' m c') m (numsV (childL ks i k)) ∧ Below w1.heap.size w1 wr) (fun _ j _ => s.size - (intOf j).toNat)
  case atStart =>
    refine ⟨0, 0, _, _, Nat.zero_le _, rfl, rfl, rfl, ?_, (Below.refl _ _).alloc (Nat.le_refl _) _⟩
    have h := World.ownsRow_lit (base := w1.heap.size) (e := 2) (size := 1) w1 #[] 0 (by simp) (by unfold maxLen; omega) rfl
    simpa [numsV, childL] using h
  case round =>
    obtain ⟨k, m, A', c', hk, rfl, rfl, hm, hR, hB⟩ := hrel
    have hs1 := hB.size
    have hmk : m ≤ k := by rw [hm.out]; exact childL_len _ _ _
    by_cases hlt : k < s.size
    · obtain ⟨g, rfl⟩ : ∃ g, A = some ⟨g, 0, none⟩ := by
        rcases hr.2 with ⟨_, h1⟩ | ⟨g, cap, cur, hv, _⟩
        · omega
        · simp only [Value.slice.injEq] at hv
          exact ⟨g, hv.1⟩
      have hr2 := row_below hr hB
      have hcell := nums_cell hr2 k (parI ks k) (parL_at _ _ _ hlt)
      cases hpi : parI ks k == i with
      | false =>
        have hn := Lib.hid (childL_no hpi)
        go_wp2
        go_roundw
        case rel => exact ⟨k + 1, m, _, _, by omega, by go_num, rfl, by show _ = _; rw [hn.out]; exact hm.out, by rw [hn.out]; exact hR, hB⟩
        case measure => simp [intOf]; omega
      | true =>
        have hn := Lib.hid (childL_yes hpi)
        go_wp2_with (at_builtin; refine wpList_append_own _ rfl _ _ 28 rfl w1.heap.size 2 i0 (.int .i64 0) 1 8 Try.underlying28 hi hz0 hz1 hz2 rfl (by decide) _ _ _ rfl (hR.alloc _) ⟨wr.heap.size, 0, none⟩ 1 1 [.int .i64 (k : Int)] rfl rfl (cell_one_new _ _ _) ?c2 ?c3 ?c4 ?c5 ?_)
        case c2 => simp [Value.oneCell']
        case c3 => unfold maxLen; omega
        case c4 => omega
        case c5 => first | omega | (simp; omega)
        intro v' w2 hown hg2 _
        have hR' : w2.ownsRow w1.heap.size 2 1 v' (m + 1) (numsV (childL ks i (k + 1))) := by
          rw [hn.out]
          simpa [numsV] using hown
        have hB' : Below w1.heap.size w1 w2 := (hB.alloc hs1 _).grown hg2 (by simp; omega) (fun j e => (hR.lt j e).1)
        obtain ⟨g', c'', rfl⟩ := ownsRow_succ hR'
        clear hown hg2
        go_wp2
        go_roundw
        case rel => exact ⟨k + 1, m + 1, _, _, by omega, by go_num, rfl, by show _ = _; rw [hn.out, List.length_append, ← hm.out]; rfl, hR', hB'⟩
        case measure => simp [intOf]; omega
    · have e : k = s.size := by omega
      subst e
      go_wp2
      go_ret2
      obtain ⟨q, hq⟩ : ∃ q, q = (childL ks i s.size).length := ⟨_, rfl⟩
      have hmq : m = q := by rw [hq]; exact hm.out
      rw [← hq]
      subst hmq
      exact ⟨A', c', rfl, row_base hR hb.size, hb.trans (hB.mono hb.size)⟩
theorem spec_ChildrenOf_no (s : ByteArray) (i : Int) (w : World) (hs : s.size ≤ 1048576) (h : ¬ IsW s) :
    Calls Try.prog 19 #[.string s, .int .i64 i] w (NumsPost 0 [] 1 w) := by
  have H := Lib.hid h
  clear h
  go_enter Try.func19, Try.ntmps19
  go_wp2_with (go_at_call 27; refine (spec_ok_no _ _ hs H.out).mono ?_; rintro e w' ⟨rfl, rfl⟩)
  go_ret2
  exact ⟨_, _, rfl, World.ownsRow_lit (base := w.heap.size) (e := 2) (size := 1) w #[] 0 (Nat.le_refl _) (by unfold maxLen; omega) rfl, (Below.refl _ _).alloc (Nat.le_refl _) _⟩
theorem spec_ChildrenOf_off (s : ByteArray) (i : Int) (w : World) (h : IsW s) (h1 : i < -1 ∨ (s.size : Int) - 1 < i) :
    Calls Try.prog 19 #[.string s, .int .i64 i] w (NumsPost 0 [] 2 w) := by
  have h60 := h.1
  have H := Lib.hid h
  clear h
  have H1 := Lib.hid h1
  clear h1
  go_enter Try.func19, Try.ntmps19
  go_wp2_with (first
    | (go_at_call 27; refine (spec_ok_yes _ _ H.out).mono ?_; rintro e w' ⟨rfl, rfl⟩)
    | (go_at_call 36; refine (in_no _ _ _ _ H1.out).mono ?_; rintro e w' ⟨rfl, hw⟩; cases hw.symm))
  go_ret2
  exact ⟨_, _, rfl, World.ownsRow_lit (base := w.heap.size) (e := 2) (size := 1) w #[] 0 (Nat.le_refl _) (by unfold maxLen; omega) rfl, (Below.refl _ _).alloc (Nat.le_refl _) _⟩
theorem impl_ChildrenOf_no (s : ByteArray) (i : Int) (w : World) (hs : s.size ≤ 1048576) (h : ¬ IsW s) :
    Calls Try.prog 20 #[.string s, .int .i64 i] w (NumsPost 0 [] 1 w) := by
  have H := Lib.hid h
  clear h
  have hb0 : Below w.heap.size w (w.alloc (.cells #[.int .i64 i] 2)) := (Below.refl _ _).alloc (Nat.le_refl _) _
  go_enter Try.func20, Try.ntmps20
  go_wp2_with (go_at_call 30; refine (impl_read_no _ _ hs H.out).mono ?_; rintro e w1 ⟨rfl, hb⟩)
  go_ret2
  have hb1 := hb0.trans (hb.mono (by simp))
  exact ⟨_, _, rfl, World.ownsRow_nil _ _ _ _, hb1.alloc hb1.size _⟩

set_option maxRecDepth 100000 in
set_option maxHeartbeats 4000000 in
theorem impl_ChildrenOf_yes (s : ByteArray) (i : Int) (w : World) (h : IsW s) (h1 : -1 ≤ i) (h2 : i < (s.size : Int)) :
    Calls Try.prog 20 #[.string s, .int .i64 i] w (NumsPost (childL (ksOf s.data.toList) i s.size).length (childL (ksOf s.data.toList) i s.size) 0 w) := by
  have hp := fun w => impl_read_yes s w h.1 h.2
  have h60 := h.1
  have hall := h.2
  obtain ⟨i0, hi, hz0, hz1, hz2⟩ := info_parts info_i64
  obtain ⟨l, hl⟩ : ∃ l, l = s.data.toList := ⟨_, rfl⟩
  have hlen : l.length = s.size := by rw [hl]; simp
  rw [← hl] at hp hall ⊢
  have Hp := Lib.hid hp
  have Hlen := Lib.hid hlen
  have Hall := Lib.hid hall
  clear h hp hl hlen hall
  refine (callsIn_wide (n := 4)).1 ?_
  have hb00 : Below w.heap.size w (w.alloc (.cells #[.int .i64 i] 2)) := (Below.refl _ _).alloc (Nat.le_refl _) _
  refine callsIn_of_wp_marks Try.func20 rfl trivial ?_ rfl
  simp only [Try.ntmps20, List.size_toArray, List.length_cons, List.length_nil, Nat.reduceAdd, Nat.reduceSub, Array.replicate_succ, Array.replicate_zero, List.push_toArray, List.append_toArray, List.nil_append, List.cons_append]
  gi_wp2_with (first
    | (refine ⟨trivial, ?_⟩; gi_at_call 30; refine (callsIn_wide.2 (Hp.out _)).mono ?_; rintro e w1 ⟨M, rfl, hsy, hps, hb⟩; have hic0 := (hb.cell (p := ⟨w.heap.size, 0, none⟩) (by simp)).trans (show (w.alloc (.cells #[.int .i64 i] 2)).cell? ⟨w.heap.size, 0, none⟩ = some (.int .i64 i) by simp [go_sem]); have hlt0 : w.heap.size < w1.heap.size := by (have := hb.size; simp at this; omega))
    | (refine ⟨trivial, ?_⟩; gi_at_call 32; refine (places_in Fence.wide _ trivial rfl _ _ _).mono ?_; rintro e w' ⟨rfl, rfl⟩))
  have hbw := hb00.trans (hb.mono (by simp))
  simp only [World.size_alloc] at hsy hps
  have hb0 : Below w1.heap.size w1 (((w1.alloc (.cells #[.slice (some ⟨w.heap.size + 1 + 1 + 1, 0, none⟩) s.size s.size, .slice (some ⟨M, 0, none⟩) s.size s.size] 45)).alloc (.cells #[.slice none 0 0] 28)).alloc (.cells #[.slice (some ⟨w.heap.size + 1 + 1 + 1, 0, none⟩) s.size s.size, .slice (some ⟨M, 0, none⟩) s.size s.size] 45)) := (((Below.refl _ w1).alloc (Nat.le_refl _) _).alloc (by simp) _).alloc (by simp; omega) _
  have hsyl : (symL l).length = s.size := by rw [symL_len, Hlen.out]
  have hA : NestAt (((w1.alloc (.cells #[.slice (some ⟨w.heap.size + 1 + 1 + 1, 0, none⟩) s.size s.size, .slice (some ⟨M, 0, none⟩) s.size s.size] 45)).alloc (.cells #[.slice none 0 0] 28)).alloc (.cells #[.slice (some ⟨w.heap.size + 1 + 1 + 1, 0, none⟩) s.size s.size, .slice (some ⟨M, 0, none⟩) s.size s.size] 45)) (w1.heap.size + 1 + 1) (w.heap.size + 1 + 1 + 1) M s.size s.size s.size (symL l) (prts (ksOf l)) :=
    ⟨by simp [go_sem], by simp [go_sem], syms_cell (row_below hsy hb0), nums_cell (row_below hps hb0)⟩
  have hc0 : Coll w1.heap.size (w1.heap.size + 1) (w1.heap.size + 1 + 1) 28 2 [] (fun _ => False) w1 (((w1.alloc (.cells #[.slice (some ⟨w.heap.size + 1 + 1 + 1, 0, none⟩) s.size s.size, .slice (some ⟨M, 0, none⟩) s.size s.size] 45)).alloc (.cells #[.slice none 0 0] 28)).alloc (.cells #[.slice (some ⟨w.heap.size + 1 + 1 + 1, 0, none⟩) s.size s.size, .slice (some ⟨M, 0, none⟩) s.size s.size] 45)) := by
    have hbx := (Boxed.new (w1.alloc (.cells #[.slice (some ⟨w.heap.size + 1 + 1 + 1, 0, none⟩) s.size s.size, .slice (some ⟨M, 0, none⟩) s.size s.size] 45)) 28 (.slice none 0 0)).alloc (.cells #[.slice (some ⟨w.heap.size + 1 + 1 + 1, 0, none⟩) s.size s.size, .slice (some ⟨M, 0, none⟩) s.size s.size] 45)
    rw [World.size_alloc] at hbx
    exact ⟨⟨_, hbx, World.ownsRow_nil _ _ _ _, fun g hg => by cases hg⟩, fun h => h, fun b h => h.elim, by simp, hb0⟩
  refine wpIn_rangeFunc_ownB rfl (by omega) (gf := 51) (lb := #[.pointer (some ⟨w1.heap.size + 1 + 1, 0, none⟩)]) rfl trivial (enters_of Try.func51 (by kernel_rfl) rfl)
    (plc_stops _ (w1.heap.size + 1 + 1) w1.heap.size (w.heap.size + 1 + 1 + 1) M s.size s.size s.size (symL l) (prts (ksOf l)) (ksOf l) (by omega) h60 hsyl (symL_kinds l).symm rfl (hsy.lt _ rfl).2 (hps.lt _ rfl).2 (symL_ok Hall.out) _ (by simp; omega) (by simp) hA) kpB_t (kpB_b (by simp; omega) (by simp)) (Below.refl _ _) (fun _ => rfl)
    (fun pre B W => Coll w1.heap.size (w1.heap.size + 1) (w1.heap.size + 1 + 1) 28 2 (childV (ksOf l) i pre) B w1 W)
    (Coll.own (childV (ksOf l) i) (by simp; omega) (Nat.le_refl _))
    hc0
    (fun x => { tmps := #[.string s, .int .i64 i, undef, .pointer (some ⟨w.heap.size, 0, none⟩), .slice none 0 0, .int .i64 0, .pointer (some ⟨w1.heap.size, 0, none⟩), .bool true, .pointer (some ⟨w1.heap.size + 1, 0, none⟩), .int .i64 (x.val : Int), .int .i64 (parI (ksOf l) x.val), .tuple #[.agg #[.slice (some ⟨w.heap.size + 1 + 1 + 1, 0, none⟩) s.size s.size, .slice (some ⟨M, 0, none⟩) s.size s.size], .bool true], .string s, .tuple #[.agg #[.slice (some ⟨w.heap.size + 1 + 1 + 1, 0, none⟩) s.size s.size, .slice (some ⟨M, 0, none⟩) s.size s.size], .bool true], .agg #[.slice (some ⟨w.heap.size + 1 + 1 + 1, 0, none⟩) s.size s.size, .slice (some ⟨M, 0, none⟩) s.size s.size], .bool true, .bool true, .bool false, .int .i64 i, .bool (decide (i < -1)), .bool (decide (i < -1)), .int .i64 i, .string s, .int .i64 (s.size : Int), .bool (decide ((s.size : Int) ≤ i)), .bool (decide (i < -1) || decide ((s.size : Int) ≤ i)), .agg #[.slice (some ⟨w.heap.size + 1 + 1 + 1, 0, none⟩) s.size s.size, .slice (some ⟨M, 0, none⟩) s.size s.size], .func (.func 51) #[] #[.pointer (some ⟨w1.heap.size + 1 + 1, 0, none⟩)], .int .i64 (x.val : Int), .int .i64 (parI (ksOf l) x.val), undef, undef, undef, undef, undef, undef, undef, undef], defers := [] }) ?assign ?body ?done
  case assign =>
    intro l x W K hK
    gi_wp2
    exact hK
  case body =>
    rintro l' pre x B W hC hlt
    obtain ⟨v, hv, hr, ho⟩ := hC.val
    have hv0 := hv.cell
    have hsz := hC.below.size
    have hw1 := hb.size
    have hic : W.cell? ⟨w.heap.size, 0, none⟩ = some (.int .i64 i) := (hC.below.cell (p := ⟨w.heap.size, 0, none⟩) (by simp at hw1; show w.heap.size < w1.heap.size; omega)).trans ((hb.cell (p := ⟨w.heap.size, 0, none⟩) (by simp)).trans (by simp [go_sem]))
    have hk : (childV (ksOf l) i pre).length ≤ 60 := by have := childV_len (ksOf l) i pre; omega
    cases hpi : parI (ksOf l) x.val == i with
    | false =>
      have e : childV (ksOf l) i (pre ++ [x]) = childV (ksOf l) i pre := by simp [childV, List.filter_append, hpi]
      have E := Lib.hid e
      clear e
      gi_wp2
      exact ⟨(KeepsOthers.refl _).from _, ⟨Below.refl _ _, rfl⟩, SameOn.refl _ _, by show Coll _ _ _ _ _ (childV (ksOf l) i (pre ++ [x])) B w1 _; rw [E.out]; exact hC⟩
    | true =>
      gi_wp2_with (gi_at_builtin; refine appendAt_in _ rfl _ _ 28 rfl w1.heap.size 2 i0 (.int .i64 0) 1 8 Try.underlying28 hi hz0 hz1 hz2 rfl (by decide) _ _ _ rfl (hr.alloc _) ⟨W.heap.size, 0, none⟩ 1 1 [.int .i64 (x.val : Int)] rfl rfl (cell_one_new _ _ _) ?c2 ?c3 ?c4 ?c5 ?_)
      case c2 => simp [Value.oneCell']
      case c3 => unfold maxLen; omega
      case c4 => omega
      case c5 => first | omega | (simp; omega)
      intro v' w2 hown hg hat
      obtain ⟨hv1, hC', hK1, hK2, hK3⟩ := hC.appended (n0 := (((w1.alloc (.cells #[.slice (some ⟨w.heap.size + 1 + 1 + 1, 0, none⟩) s.size s.size, .slice (some ⟨M, 0, none⟩) s.size s.size] 45)).alloc (.cells #[.slice none 0 0] 28)).alloc (.cells #[.slice (some ⟨w.heap.size + 1 + 1 + 1, 0, none⟩) s.size s.size, .slice (some ⟨M, 0, none⟩) s.size s.size] 45)).heap.size) hv hr ho (by decide) (by omega) (by omega) (Nat.le_refl _) hown hg (by simpa using hat)
      obtain ⟨g', c', rfl⟩ := ownsRow_succ hown
      have hc1 := hv1.cell
      have hf1 := hv1.frozen
      have e : childV (ksOf l) i (pre ++ [x]) = childV (ksOf l) i pre ++ [.int .i64 (x.val : Int)] := by simp [childV, List.filter_append, hpi]
      have E := Lib.hid e
      clear e
      gi_wp2
      exact ⟨hK1, hK2, hK3, by show Coll _ _ _ _ _ (childV (ksOf l) i (pre ++ [x])) B w1 _; rw [E.out]; exact hC'⟩
  case done =>
    rintro D ys B W hD rfl hC hK
    obtain ⟨v, hv, hr, ho⟩ := hC.val
    have hv0 := hv.cell
    have e := childV_all (ksOf l) i s.size
    have e2 : (childV (ksOf l) i (upTo s.size s.size)).length = (childL (ksOf l) i s.size).length := by rw [e, numsV, List.length_map]
    rw [e2, e] at hr
    clear e e2
    have hD2 : w1.heap.size ≤ D := by simp at hD; omega
    obtain ⟨A, c, rfl⟩ : ∃ A c, v = .slice A (childL (ksOf l) i s.size).length c := by
      rcases hr.2 with ⟨rfl, h0⟩ | ⟨g, cap, cur, rfl, _⟩
      · exact ⟨none, 0, by rw [h0]⟩
      · exact ⟨_, _, rfl⟩
    gi_wp2
    refine ⟨by simp, .inl ⟨_, _, rfl, run_takeDeferred hK, ?_⟩⟩
    refine ⟨_, results_tmp2 rfl _ _ _, A, c, rfl, row_base (ownsRow_putObj hr _ hK rfl) hbw.size, (hbw.trans (hC.below.mono hbw.size)).trans (belowK_b (w := w1) (n₀ := w.heap.size) hbw.size W D _ _ hD2 hK rfl rfl)⟩


theorem impl_ChildrenOf_off (s : ByteArray) (i : Int) (w : World) (h : IsW s) (h1 : i < -1 ∨ (s.size : Int) - 1 < i) :
    Calls Try.prog 20 #[.string s, .int .i64 i] w (NumsPost 0 [] 2 w) := by
  have hp := fun w => impl_read_yes s w h.1 h.2
  have h60 := h.1
  have Hp := Lib.hid hp
  clear h hp
  have hb0 : Below w.heap.size w (w.alloc (.cells #[.int .i64 i] 2)) := (Below.refl _ _).alloc (Nat.le_refl _) _
  rcases h1 with h1 | h1
  · go_enter Try.func20, Try.ntmps20
    go_wp2_with (go_at_call 30; refine (Hp.out _).mono ?_; rintro e w1 ⟨M, rfl, hsy, hps, hb⟩; have hic := (hb.cell (p := ⟨w.heap.size, 0, none⟩) (by simp)).trans (show (w.alloc (.cells #[.int .i64 i] 2)).cell? ⟨w.heap.size, 0, none⟩ = some (.int .i64 i) by simp [go_sem]); have hlt0 : w.heap.size < w1.heap.size := by (have := hb.size; simp at this; omega))
    go_ret2
    have hb1 := hb0.trans (hb.mono (by simp))
    exact ⟨_, _, rfl, World.ownsRow_nil _ _ _ _, hb1.alloc hb1.size _⟩
  · have h2 : (s.size : Int) ≤ i := by omega
    have h3 : ¬ i < -1 := by omega
    clear h1
    go_enter Try.func20, Try.ntmps20
    go_wp2_with (go_at_call 30; refine (Hp.out _).mono ?_; rintro e w1 ⟨M, rfl, hsy, hps, hb⟩; have hic := (hb.cell (p := ⟨w.heap.size, 0, none⟩) (by simp)).trans (show (w.alloc (.cells #[.int .i64 i] 2)).cell? ⟨w.heap.size, 0, none⟩ = some (.int .i64 i) by simp [go_sem]); have hlt0 : w.heap.size < w1.heap.size := by (have := hb.size; simp at this; omega))
    go_ret2
    have hb1 := hb0.trans (hb.mono (by simp))
    exact ⟨_, _, rfl, World.ownsRow_nil _ _ _ _, hb1.alloc hb1.size _⟩

theorem both_ChildrenOf (s : ByteArray) (i : Int) (hs : s.size ≤ 1048576) (_ : (Lit.int .i64 i).wf = true) : ∃ (n : Nat) (xs : List Int) (code : Int), xs.length = n ∧ n ≤ 1048576 ∧
    (∀ w, Calls Try.prog 19 #[.string s, .int .i64 i] w (NumsPost n xs code w)) ∧ (∀ w, Calls Try.prog 20 #[.string s, .int .i64 i] w (NumsPost n xs code w)) := by
  by_cases h : IsW s
  · by_cases h1 : -1 ≤ i ∧ i ≤ (s.size : Int) - 1
    · exact ⟨_, _, _, rfl, Nat.le_trans (childL_len _ _ _) hs, fun w => spec_ChildrenOf_yes s i w h h1.1 h1.2, fun w => impl_ChildrenOf_yes s i w h h1.1 (by omega)⟩
    · exact ⟨0, [], 2, rfl, by omega, fun w => spec_ChildrenOf_off s i w h (by omega), fun w => impl_ChildrenOf_off s i w h (by omega)⟩
  · exact ⟨0, [], 1, rfl, by omega, fun w => spec_ChildrenOf_no s i w hs h, fun w => impl_ChildrenOf_no s i w hs h⟩
end Go.Proofs.Ytiigcphgilpfaaa
