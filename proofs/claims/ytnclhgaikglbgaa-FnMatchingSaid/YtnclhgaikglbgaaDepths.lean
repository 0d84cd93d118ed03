/- DepthsOf and DepthOf, of the model and of the program. -/
import Derived.Test.YtnclhgaikglbgaaPart
import Derived.Test.YtnclhgaikglbgaaSlices
namespace Go.Proofs.Ytnclhgaikglbgaa
open Go.RowKit

def dstep (d k : Nat) : Nat := if k = 0 then d + 1 else if k = 1 then d - 1 else d
/-- The depth behind the first k places. -/
def dAt (ks : List Nat) (k : Nat) : Nat := (ks.take k).foldl dstep 0
def dList (ks : List Nat) (n : Nat) : List Int := (List.range n).map fun i => (dAt ks i : Int)
theorem dAt_succ {ks : List Nat} {k x : Nat} (h : ks[k]? = some x) : dAt ks (k + 1) = dstep (dAt ks k) x := by
  rw [dAt, List.take_add_one, h, Option.toList_some, List.foldl_append]; rfl
theorem dAt_le (ks : List Nat) (k : Nat) : dAt ks k ≤ k := by
  induction k with
  | zero => simp [dAt]
  | succ k ih =>
    cases h : ks[k]? with
    | none =>
      have : dAt ks (k + 1) = dAt ks k := by rw [dAt, List.take_add_one, h]; simp [dAt]
      omega
    | some x =>
      rw [dAt_succ h]
      unfold dstep
      split
      · omega
      · split <;> omega
theorem dList_len (ks : List Nat) (n : Nat) : (dList ks n).length = n := by simp [dList]
theorem dList_succ (ks : List Nat) (n : Nat) : dList ks (n + 1) = dList ks n ++ [(dAt ks n : Int)] := by simp [dList, List.range_succ]

def deepS (n : Int) : Int := if callS n then 1 else if retS n then -1 else 0

theorem impl_deepening (n : Int) (w : World) (h : 0 ≤ n ∧ n ≤ 5) :
    Calls Try.prog 56 #[.int .u8 n] w fun e w' => e = .returned (.int .i64 (deepS n)) ∧ w = w' := by
  rcases six n h with rfl | rfl | rfl | rfl | rfl | rfl
  all_goals
    go_enter Try.func56, Try.ntmps56
    go_wp2
    go_ret
    exact ⟨rfl, rfl⟩

theorem deep_step (n : Int) (d : Nat) (h : 0 ≤ n ∧ n ≤ 5) : (deepS n = 1 ∧ dstep d (kindS n) = d + 1) ∨ (deepS n = -1 ∧ dstep d (kindS n) = d - 1) ∨ (deepS n = 0 ∧ dstep d (kindS n) = d) := by
  rcases six n h with rfl | rfl | rfl | rfl | rfl | rfl
  · exact .inl ⟨rfl, rfl⟩
  · exact .inl ⟨rfl, rfl⟩
  · exact .inr (.inl ⟨rfl, rfl⟩)
  · exact .inr (.inl ⟨rfl, rfl⟩)
  · exact .inr (.inr ⟨rfl, rfl⟩)
  · exact .inr (.inr ⟨rfl, rfl⟩)

def RowPost2 (n : Nat) (xs : List Int) (w : World) (e : Ending) (w' : World) : Prop :=
  ∃ A c, e = .returned (.slice A n c) ∧ w'.ownsRow w.heap.size 2 1 (.slice A n c) n (numsV xs) ∧ Below w.heap.size w w'

theorem grow_row {w wr w1 : World} {v v' : Value} {o : Obj} {ks : List Nat} {k : Nat} (hrow : wr.ownsRow w.heap.size 2 1 v (k + 1) (numsV (dList ks (k + 1)))) (hb : Below w.heap.size w wr)
    (hown : w1.ownsRow w.heap.size 2 1 v' (k + 1 + 1) (numsV (dList ks (k + 1)) ++ [.int .i64 (dAt ks (k + 1) : Int)])) (hg : (wr.alloc o).grownBy w1 v.ownBlock) :
    ∃ g1 c1, v' = .slice (some ⟨g1, 0, none⟩) (k + 1 + 1) c1 ∧ w1.ownsRow w.heap.size 2 1 (.slice (some ⟨g1, 0, none⟩) (k + 1 + 1) c1) (k + 1 + 1) (numsV (dList ks (k + 1 + 1))) ∧ Below w.heap.size w w1 := by
  obtain ⟨g1, c1, rfl⟩ := ownsRow_succ hown
  refine ⟨g1, c1, rfl, ?_, (hb.alloc hb.size o).grown hg (by have := hb.size; simp; omega) (fun j e => (hrow.lt j e).1)⟩
  rw [dList_succ ks (k + 1)]
  simpa [numsV] using hown

/-- The same, if d0 calls are open in front. -/
def dAtF (d0 : Nat) (ks : List Nat) (k : Nat) : Nat := (ks.take k).foldl dstep d0
def dListF (d0 : Nat) (ks : List Nat) (n : Nat) : List Int := (List.range n).map fun i => (dAtF d0 ks i : Int)
theorem dListF_zero (ks : List Nat) (n : Nat) : dListF 0 ks n = dList ks n := rfl
theorem dAtF_succ {d0 : Nat} {ks : List Nat} {k x : Nat} (h : ks[k]? = some x) : dAtF d0 ks (k + 1) = dstep (dAtF d0 ks k) x := by
  rw [dAtF, List.take_add_one, h, Option.toList_some, List.foldl_append]; rfl
theorem dListF_len (d0 : Nat) (ks : List Nat) (n : Nat) : (dListF d0 ks n).length = n := by simp [dListF]
theorem dListF_succ (d0 : Nat) (ks : List Nat) (n : Nat) : dListF d0 ks (n + 1) = dListF d0 ks n ++ [(dAtF d0 ks n : Int)] := by simp [dListF, List.range_succ]
theorem grow_rowF {d0 : Nat} {w wr w1 : World} {v v' : Value} {o : Obj} {ks : List Nat} {k : Nat} (hrow : wr.ownsRow w.heap.size 2 1 v (k + 1) (numsV (dListF d0 ks (k + 1)))) (hb : Below w.heap.size w wr)
    (hown : w1.ownsRow w.heap.size 2 1 v' (k + 1 + 1) (numsV (dListF d0 ks (k + 1)) ++ [.int .i64 (dAtF d0 ks (k + 1) : Int)])) (hg : (wr.alloc o).grownBy w1 v.ownBlock) :
    ∃ g1 c1, v' = .slice (some ⟨g1, 0, none⟩) (k + 1 + 1) c1 ∧ w1.ownsRow w.heap.size 2 1 (.slice (some ⟨g1, 0, none⟩) (k + 1 + 1) c1) (k + 1 + 1) (numsV (dListF d0 ks (k + 1 + 1))) ∧ Below w.heap.size w w1 := by
  obtain ⟨g1, c1, rfl⟩ := ownsRow_succ hown
  refine ⟨g1, c1, rfl, ?_, (hb.alloc hb.size o).grown hg (by have := hb.size; simp; omega) (fun j e => (hrow.lt j e).1)⟩
  rw [dListF_succ d0 ks (k + 1)]
  simpa [numsV] using hown

set_option maxHeartbeats 1600000 in
set_option maxRecDepth 100000 in
theorem impl_depthsFrom (d0 g N c : Nat) (v : Value) (sy : List Int) (w : World) (hd0 : d0 ≤ 60) (hN : N ≤ 60) (hsl : sy.length = N) (hg : g < w.heap.size) (hok : ∀ x ∈ sy, 0 ≤ x ∧ x ≤ 5)
    (hcs : ∀ (j : Nat) (x : Int), sy[j]? = some x → w.cell? ⟨g, j, none⟩ = some (.int .u8 x)) :
    Calls Try.prog 32 #[.agg #[.slice (some ⟨g, 0, none⟩) N c, v], .int .i64 (d0 : Int)] w (RowPost2 (N + 1) (dListF d0 (sy.map kindS) (N + 1)) w) := by
  obtain ⟨i0, hi, hz0, hz1, hz2⟩ := info_parts info_i64
  obtain ⟨ks, hks⟩ : ∃ ks, ks = sy.map kindS := ⟨_, rfl⟩
  rw [← hks]
  have Hks := Lib.hid hks
  have Hsl := Lib.hid hsl
  have Hok := Lib.hid hok
  have Hcs := Lib.hid hcs
  clear hks hsl hok hcs
  go_enter Try.func32, Try.ntmps32
  go_wp2
  go_loopw [1, 5, 13] (fun x y i wr => ∃ (k d : Nat) (A : Option Addr) (c' : Nat), k ≤ N ∧ i = .int .i64 k ∧ x = .int .i64 d ∧ y = .slice A (k + 1) c' ∧ d ≤ d0 + k ∧ Hid (d = dAtF d0 ks k) ∧
      wr.ownsRow w.heap.size 2 1 (.slice A (k + 1) c') (k + 1) (numsV (dListF d0 ks (k + 1))) ∧ Below w.heap.size w wr) (fun _ _ i _ => N - (intOf i).toNat)
  case atStart =>
    refine ⟨0, d0, _, _, Nat.zero_le _, rfl, rfl, rfl, Nat.le_refl _, rfl, ?_, ((Below.refl _ _).alloc (Nat.le_refl _) _).alloc (by simp) _⟩
    have h := World.ownsRow_lit (base := w.heap.size) (e := 2) (size := 1) (w.alloc (.cells #[.slice (some ⟨g, 0, none⟩) N c, v] 50)) #[.int .i64 (d0 : Int)] 1 (by simp) (by unfold maxLen; omega) rfl
    simpa [numsV, dListF, dAtF] using h
  case round =>
    obtain ⟨k, d, A, c', hk, rfl, rfl, rfl, hdk, Hd, hR, hB⟩ := hrel
    have hs1 := hB.size
    by_cases hlt : k < N
    · obtain ⟨x, hx⟩ : ∃ x, sy[k]? = some x := ⟨_, List.getElem?_eq_getElem (by rw [Hsl.out]; exact hlt)⟩
      have hx5 := Hok.out x (List.mem_of_getElem? hx)
      have hc := (hB.cell (p := ⟨g, k, none⟩) hg).trans (Hcs.out k x hx)
      have hkk : ks[k]? = some (kindS x) := by rw [Hks.out]; simp [hx]
      have hd1 := dAtF_succ (d0 := d0) hkk
      rw [← Hd.out] at hd1
      have Hd1 := Lib.hid hd1
      clear hx hkk hd1
      have hst := deep_step x d hx5
      have fin : ∀ (d1 : Nat), dstep d (kindS x) = d1 → d1 ≤ d0 + (k + 1) → ∀ (w1 : World) (v' : Value) (o : Obj), w1.ownsRow w.heap.size 2 1 v' (k + 1 + 1) (numsV (dListF d0 ks (k + 1)) ++ [.int .i64 (d1 : Int)]) → (wr.alloc o).grownBy w1 (Value.slice A (k + 1) c').ownBlock →
          ∃ g1 c1, v' = .slice (some ⟨g1, 0, none⟩) (k + 1 + 1) c1 ∧ d1 ≤ d0 + (k + 1) ∧ Hid (d1 = dAtF d0 ks (k + 1)) ∧ w1.ownsRow w.heap.size 2 1 (.slice (some ⟨g1, 0, none⟩) (k + 1 + 1) c1) (k + 1 + 1) (numsV (dListF d0 ks (k + 1 + 1))) ∧ Below w.heap.size w w1 := by
        intro d1 e1 e2 w1 v' o h1 h2
        have e3 : d1 = dAtF d0 ks (k + 1) := by rw [Hd1.out, e1]
        rw [e3] at h1
        obtain ⟨g1, c1, r1, r2, r3⟩ := grow_rowF hR hB h1 h2
        exact ⟨g1, c1, r1, e2, e3, r2, r3⟩
      have Fin := Lib.hid fin
      clear fin
      rcases hst with ⟨e1, e2⟩ | ⟨e1, e2⟩ | ⟨e1, e2⟩
      · have E2 := Lib.hid e2
        clear e2
        go_wp2_with (first
          | (go_at_call 56; refine (impl_deepening _ _ hx5).mono ?_; rintro e w' ⟨rfl, rfl⟩)
          | (at_builtin; refine wpList_append_own _ rfl _ _ 25 rfl w.heap.size 2 i0 (.int .i64 0) 1 8 Try.underlying25 hi hz0 hz1 hz2 rfl (by decide) _ _ _ rfl (hR.alloc _) ⟨wr.heap.size, 0, none⟩ 1 1 [.int .i64 ((d : Int) + 1)] rfl rfl (cell_one_new _ _ _) ?c2 ?c3 ?c4 ?c5 ?_))
        case c2 => simp [Value.oneCell']
        case c3 => unfold maxLen; omega
        case c4 => omega
        case c5 => simp; omega
        intro v' w1 hown hg2 _
        obtain ⟨g1, c1, rfl, hd', Hd', hR', hB'⟩ := Fin.out (d + 1) (E2.out) (by omega) w1 v' _ (by simpa using hown) hg2
        clear hown hg2
        go_wp2
        go_roundw
        case rel => exact ⟨k + 1, d + 1, _, _, by omega, by go_num, by go_num, rfl, hd', Hd', hR', hB'⟩
        case measure => simp [intOf]; omega
      · cases d with
        | zero =>
          have E2 := Lib.hid e2
          clear e2
          go_wp2_with (first
            | (go_at_call 56; refine (impl_deepening _ _ hx5).mono ?_; rintro e w' ⟨rfl, rfl⟩)
            | (at_builtin; refine wpList_append_own _ rfl _ _ 25 rfl w.heap.size 2 i0 (.int .i64 0) 1 8 Try.underlying25 hi hz0 hz1 hz2 rfl (by decide) _ _ _ rfl (hR.alloc _) ⟨wr.heap.size, 0, none⟩ 1 1 [.int .i64 (0)] rfl rfl (cell_one_new _ _ _) ?c2 ?c3 ?c4 ?c5 ?_))
          case c2 => simp [Value.oneCell']
          case c3 => unfold maxLen; omega
          case c4 => omega
          case c5 => simp; omega
          intro v' w1 hown hg2 _
          obtain ⟨g1, c1, rfl, hd', Hd', hR', hB'⟩ := Fin.out (0) (E2.out) (by omega) w1 v' _ (by simpa using hown) hg2
          clear hown hg2
          go_wp2
          go_roundw
          case rel => exact ⟨k + 1, 0, _, _, by omega, by go_num, by go_num, rfl, hd', Hd', hR', hB'⟩
          case measure => simp [intOf]; omega
        | succ d =>
          have E2 := Lib.hid e2
          clear e2
          have hmx : max 0 ((d : Int) + 1 + -1) = (d : Int) := by omega
          go_wp2_with (first
            | (go_at_call 56; refine (impl_deepening _ _ hx5).mono ?_; rintro e w' ⟨rfl, rfl⟩)
            | (at_builtin; refine wpList_append_own _ rfl _ _ 25 rfl w.heap.size 2 i0 (.int .i64 0) 1 8 Try.underlying25 hi hz0 hz1 hz2 rfl (by decide) _ _ _ rfl (hR.alloc _) ⟨wr.heap.size, 0, none⟩ 1 1 [.int .i64 ((d : Int))] rfl rfl (cell_one_new _ _ _) ?c2 ?c3 ?c4 ?c5 ?_))
          case c2 => simp [Value.oneCell']
          case c3 => unfold maxLen; omega
          case c4 => omega
          case c5 => simp; omega
          intro v' w1 hown hg2 _
          obtain ⟨g1, c1, rfl, hd', Hd', hR', hB'⟩ := Fin.out (d) (E2.out) (by omega) w1 v' _ (by simpa using hown) hg2
          clear hown hg2
          go_wp2
          go_roundw
          case rel => exact ⟨k + 1, d, _, _, by omega, by go_num, by go_num, rfl, hd', Hd', hR', hB'⟩
          case measure => simp [intOf]; omega
      · have E2 := Lib.hid e2
        clear e2
        go_wp2_with (first
          | (go_at_call 56; refine (impl_deepening _ _ hx5).mono ?_; rintro e w' ⟨rfl, rfl⟩)
          | (at_builtin; refine wpList_append_own _ rfl _ _ 25 rfl w.heap.size 2 i0 (.int .i64 0) 1 8 Try.underlying25 hi hz0 hz1 hz2 rfl (by decide) _ _ _ rfl (hR.alloc _) ⟨wr.heap.size, 0, none⟩ 1 1 [.int .i64 ((d : Int))] rfl rfl (cell_one_new _ _ _) ?c2 ?c3 ?c4 ?c5 ?_))
        case c2 => simp [Value.oneCell']
        case c3 => unfold maxLen; omega
        case c4 => omega
        case c5 => simp; omega
        intro v' w1 hown hg2 _
        obtain ⟨g1, c1, rfl, hd', Hd', hR', hB'⟩ := Fin.out (d) (E2.out) (by omega) w1 v' _ (by simpa using hown) hg2
        clear hown hg2
        go_wp2
        go_roundw
        case rel => exact ⟨k + 1, d, _, _, by omega, by go_num, by go_num, rfl, hd', Hd', hR', hB'⟩
        case measure => simp [intOf]; omega
    · obtain rfl : k = N := by omega
      go_wp2
      go_ret
      exact ⟨_, _, rfl, hR, hB⟩

end Go.Proofs.Ytnclhgaikglbgaa
