import Derived.Test.YtblgjedjljfmcaaGreatDoorMFnExactUndoTreeEdit22
import Derived.Test.YtblgjedjljfmcaaGreatDoorMFnExactUndoTreeEdit26
import Derived.Test.YtblgjedjljfmcaaGreatDoorMFnExactUndoTreeEdit5
/- l01Parents of the model. -/
namespace Go.Proofs.YtblgjedjljfmcaaGreatDoor
open Go.RowKit

theorem kind_nocall {n : Int} (_h : 0 ≤ symNo n) (hc : callS (symNo n) = false) : kindS (symNo n) ≠ 0 := by
  simp only [callS, decide_eq_false_iff_not] at hc
  unfold kindS
  rw [if_neg hc]
  split <;> decide

theorem parK_yes {ks : List Nat} {ps : List Int} {i j : Nat} {p : Int} (hk : ks[j]? = some 0) (hp : ps[j]? = some p) (h : p = -2 ∨ (i : Int) < p) : parK (over ks ps i) (j + 1) = (j : Int) := by
  rw [parK, if_pos]
  refine ⟨hk, ?_⟩
  rcases h with h | h
  · exact .inl (by rw [hp, h])
  · exact .inr ⟨p, hp, h⟩
theorem parK_no {ks : List Nat} {ps : List Int} {i j : Nat} {p : Int} (hp : ps[j]? = some p) (h : ks[j]? ≠ some 0 ∨ (p ≠ -2 ∧ p ≤ i)) : parK (over ks ps i) (j + 1) = parK (over ks ps i) j := by
  rw [parK, if_neg]
  rintro ⟨h1, h2⟩
  rcases h with h | ⟨h3, h4⟩
  · exact h h1
  · rcases h2 with h2 | ⟨q, h2, h5⟩
    · rw [hp] at h2; exact h3 (Option.some.inj h2)
    · rw [hp] at h2; have := Option.some.inj h2; omega

end Go.Proofs.YtblgjedjljfmcaaGreatDoor
/- DepthsOf and DepthOf, of the model and of the program. -/
namespace Go.Proofs.YtblgjedjljfmcaaGreatDoor
open Go.RowKit

def dstep (d k : Nat) : Nat := if k = 0 then d + 1 else if k = 1 then d - 1 else d
/-- The depth behind the first k places. -/
def dAt (ks : List Nat) (k : Nat) : Nat := (ks.take k).foldl dstep 0
def dList (ks : List Nat) (n : Nat) : List Int := (List.range n).map fun i => (dAt ks i : Int)
theorem dAt_succ {ks : List Nat} {k x : Nat} (h : ks[k]? = some x) : dAt ks (k + 1) = dstep (dAt ks k) x := by
  rw [dAt, List.take_add_one, h, Option.toList_some, List.foldl_append]; rfl
theorem dAt_le (ks : List Nat) (k : Nat) : dAt ks k ≤ k := by
  induction k with
  | zero => simp [dAt]
  | succ k ih =>
    cases h : ks[k]? with
    | none =>
      have : dAt ks (k + 1) = dAt ks k := by rw [dAt, List.take_add_one, h]; simp [dAt]
      omega
    | some x =>
      rw [dAt_succ h]
      unfold dstep
      split
      · omega
      · split <;> omega
theorem dList_len (ks : List Nat) (n : Nat) : (dList ks n).length = n := by simp [dList]
theorem dList_succ (ks : List Nat) (n : Nat) : dList ks (n + 1) = dList ks n ++ [(dAt ks n : Int)] := by simp [dList, List.range_succ]

def deepS (n : Int) : Int := if callS n then 1 else if retS n then -1 else 0


theorem deep_step (n : Int) (d : Nat) (h : 0 ≤ n ∧ n ≤ 5) : (deepS n = 1 ∧ dstep d (kindS n) = d + 1) ∨ (deepS n = -1 ∧ dstep d (kindS n) = d - 1) ∨ (deepS n = 0 ∧ dstep d (kindS n) = d) := by
  rcases six n h with rfl | rfl | rfl | rfl | rfl | rfl
  · exact .inl ⟨rfl, rfl⟩
  · exact .inl ⟨rfl, rfl⟩
  · exact .inr (.inl ⟨rfl, rfl⟩)
  · exact .inr (.inl ⟨rfl, rfl⟩)
  · exact .inr (.inr ⟨rfl, rfl⟩)
  · exact .inr (.inr ⟨rfl, rfl⟩)

def RowPost2 (n : Nat) (xs : List Int) (w : World) (e : Ending) (w' : World) : Prop :=
  ∃ A c, e = .returned (.slice A n c) ∧ w'.ownsRow w.heap.size 2 1 (.slice A n c) n (numsV xs) ∧ Below w.heap.size w w'

theorem grow_row {w wr w1 : World} {v v' : Value} {o : Obj} {ks : List Nat} {k : Nat} (hrow : wr.ownsRow w.heap.size 2 1 v (k + 1) (numsV (dList ks (k + 1)))) (hb : Below w.heap.size w wr)
    (hown : w1.ownsRow w.heap.size 2 1 v' (k + 1 + 1) (numsV (dList ks (k + 1)) ++ [.int .i64 (dAt ks (k + 1) : Int)])) (hg : (wr.alloc o).grownBy w1 v.ownBlock) :
    ∃ g1 c1, v' = .slice (some ⟨g1, 0, none⟩) (k + 1 + 1) c1 ∧ w1.ownsRow w.heap.size 2 1 (.slice (some ⟨g1, 0, none⟩) (k + 1 + 1) c1) (k + 1 + 1) (numsV (dList ks (k + 1 + 1))) ∧ Below w.heap.size w w1 := by
  obtain ⟨g1, c1, rfl⟩ := ownsRow_succ hown
  refine ⟨g1, c1, rfl, ?_, (hb.alloc hb.size o).grown hg (by have := hb.size; simp; omega) (fun j e => (hrow.lt j e).1)⟩
  rw [dList_succ ks (k + 1)]
  simpa [numsV] using hown

/-- The same, if d0 calls are open in front. -/
def dAtF (d0 : Nat) (ks : List Nat) (k : Nat) : Nat := (ks.take k).foldl dstep d0
def dListF (d0 : Nat) (ks : List Nat) (n : Nat) : List Int := (List.range n).map fun i => (dAtF d0 ks i : Int)
theorem dListF_zero (ks : List Nat) (n : Nat) : dListF 0 ks n = dList ks n := rfl
theorem dAtF_succ {d0 : Nat} {ks : List Nat} {k x : Nat} (h : ks[k]? = some x) : dAtF d0 ks (k + 1) = dstep (dAtF d0 ks k) x := by
  rw [dAtF, List.take_add_one, h, Option.toList_some, List.foldl_append]; rfl
theorem dListF_len (d0 : Nat) (ks : List Nat) (n : Nat) : (dListF d0 ks n).length = n := by simp [dListF]
theorem dListF_succ (d0 : Nat) (ks : List Nat) (n : Nat) : dListF d0 ks (n + 1) = dListF d0 ks n ++ [(dAtF d0 ks n : Int)] := by simp [dListF, List.range_succ]
theorem grow_rowF {d0 : Nat} {w wr w1 : World} {v v' : Value} {o : Obj} {ks : List Nat} {k : Nat} (hrow : wr.ownsRow w.heap.size 2 1 v (k + 1) (numsV (dListF d0 ks (k + 1)))) (hb : Below w.heap.size w wr)
    (hown : w1.ownsRow w.heap.size 2 1 v' (k + 1 + 1) (numsV (dListF d0 ks (k + 1)) ++ [.int .i64 (dAtF d0 ks (k + 1) : Int)])) (hg : (wr.alloc o).grownBy w1 v.ownBlock) :
    ∃ g1 c1, v' = .slice (some ⟨g1, 0, none⟩) (k + 1 + 1) c1 ∧ w1.ownsRow w.heap.size 2 1 (.slice (some ⟨g1, 0, none⟩) (k + 1 + 1) c1) (k + 1 + 1) (numsV (dListF d0 ks (k + 1 + 1))) ∧ Below w.heap.size w w1 := by
  obtain ⟨g1, c1, rfl⟩ := ownsRow_succ hown
  refine ⟨g1, c1, rfl, ?_, (hb.alloc hb.size o).grown hg (by have := hb.size; simp; omega) (fun j e => (hrow.lt j e).1)⟩
  rw [dListF_succ d0 ks (k + 1)]
  simpa [numsV] using hown

end Go.Proofs.YtblgjedjljfmcaaGreatDoor
