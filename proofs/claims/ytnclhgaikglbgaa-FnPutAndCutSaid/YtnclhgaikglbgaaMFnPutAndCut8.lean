import Derived.Test.YtnclhgaikglbgaaMFnPutAndCut4
import Derived.Test.YtnclhgaikglbgaaMFnPutAndCut5
import Derived.Test.YtnclhgaikglbgaaMFnPutAndCut0
import Derived.Test.YtnclhgaikglbgaaMFnPutAndCut1
import Derived.BigQuiet
import Derived.Deep.QuietTactic
/- Plain mathematics of the number of a matched word. -/
namespace Go.Proofs.Ytnclhgaikglbgaa
open Go.RowKit
set_option linter.unusedVariables false

theorem cR_mono (l : List UInt8) (ps : List Int) {k m : Nat} (h : k ≤ m) : cR l ps k ≤ cR l ps m := by
  induction m with
  | zero => obtain rfl : k = 0 := by omega
            exact Nat.le_refl _
  | succ m ih =>
    by_cases e : k = m + 1
    · subst e; exact Nat.le_refl _
    · exact Nat.le_trans (ih (by omega)) (by rw [cR]; omega)
theorem cC_mono (l : List UInt8) (ps : List Int) {k m : Nat} (h : k ≤ m) : cC l ps k ≤ cC l ps m := by
  induction m with
  | zero => obtain rfl : k = 0 := by omega
            exact Nat.le_refl _
  | succ m ih =>
    by_cases e : k = m + 1
    · subst e; exact Nat.le_refl _
    · exact Nat.le_trans (ih (by omega)) (by rw [cC]; omega)
/-- Nothing is pending in a matched word. -/
theorem matched_none {l : List UInt8} (hall : AllSym l) {n : Nat} (hn : n = l.length) (h : cR l (prts (ksOf l)) n + cC l (prts (ksOf l)) n = 0) : ∀ k : Nat, (prts (ksOf l))[k]? ≠ some (-2) := by
  intro k hk
  have hkl : k < l.length := by have := (List.getElem?_eq_some_iff.1 hk).1; rw [prts_len, ksOf_len] at this; exact this
  obtain ⟨b, hb⟩ : ∃ b, l[k]? = some b := ⟨_, List.getElem?_eq_getElem hkl⟩
  have hs := hall b (List.mem_of_getElem? hb)
  have hkk := ksOf_at l k b hb
  obtain ⟨c1, c2, c3⟩ := call_kind hs
  have hk2 : kindS (symNo (b.toNat : Int)) ≠ 2 := fun e => by
    have := prts_at_inner (ksOf l) k 2 (by rw [hkk, e]) (by decide) (by decide)
    rw [hk] at this
    simp at this
  have c4 := c3 hk2
  have m1 := cR_mono l (prts (ksOf l)) (show k + 1 ≤ n by omega)
  have m2 := cC_mono l (prts (ksOf l)) (show k + 1 ≤ n by omega)
  rw [cR, hb, Option.getD_some] at m1
  rw [cC, hb, Option.getD_some] at m2
  cases hc : callB (b.toNat : Int) with
  | true => rw [if_pos ⟨hk, hc⟩] at m2; omega
  | false => rw [hc] at c4; rw [if_pos ⟨hk, c4⟩] at m1; omega

/-- How many calls are open behind the first i places. -/
def dq (ks : List Nat) (i : Nat) : Nat := (opns (ks.take i)).length
theorem dq_zero (ks : List Nat) : dq ks 0 = 0 := rfl
theorem dq_le (ks : List Nat) (i : Nat) : dq ks i ≤ i := by
  unfold dq
  refine Nat.le_trans (opns_len _) ?_
  simp; omega
theorem dq_call {ks : List Nat} {i : Nat} (h : ks[i]? = some 0) : dq ks (i + 1) = dq ks i + 1 := by
  unfold dq
  rw [List.take_add_one, h, Option.toList_some, (prts_call _).2, List.length_append]; rfl
theorem dq_ret {ks : List Nat} {i : Nat} (h : ks[i]? = some 1) (hp : (prts ks)[i]? ≠ some (-2)) : 1 ≤ dq ks i ∧ dq ks (i + 1) = dq ks i - 1 := by
  unfold dq
  rw [List.take_add_one, h, Option.toList_some]
  rw [prts_at_ret ks i h] at hp
  cases hl : (opns (ks.take i)).getLast? with
  | none => rw [hl] at hp; exact absurd rfl hp
  | some a =>
    rw [(prts_ret_some _ a hl).2, List.length_dropLast]
    refine ⟨?_, rfl⟩
    cases ho : opns (ks.take i) with
    | nil => rw [ho] at hl; cases hl
    | cons x L => simp
theorem dq_in {ks : List Nat} {i x : Nat} (h : ks[i]? = some x) (h0 : x ≠ 0) (h1 : x ≠ 1) : dq ks (i + 1) = dq ks i := by
  unfold dq
  rw [List.take_add_one, h, Option.toList_some, (prts_inner _ x h0 h1).2]

/-- The symbol at a place, as a number. -/
def syN (l : List UInt8) (i : Nat) : Nat := (symNo ((l[i]?.getD 0).toNat : Int)).toNat
theorem syN_of {l : List UInt8} {i : Nat} {b : UInt8} (h : l[i]? = some b) (hs : 0 ≤ symNo (b.toNat : Int)) : (syN l i : Int) = symNo (b.toNat : Int) ∧ syN l i ≤ 5 := by
  unfold syN
  rw [h, Option.getD_some]
  have := symNo_le (b.toNat : Int)
  omega
/-- Behind a symbol of a matched word as many calls are open as the symbol says. -/
theorem dq_dn {l : List UInt8} (hall : AllSym l) (hm : ∀ k : Nat, (prts (ksOf l))[k]? ≠ some (-2)) {i : Nat} {b : UInt8} (h : l[i]? = some b) :
    dq (ksOf l) (i + 1) = dn (dq (ksOf l) i) (syN l i) ∧ (syN l i < 2 ∨ 4 ≤ syN l i ∨ 1 ≤ dq (ksOf l) i) := by
  have hs := hall b (List.mem_of_getElem? h)
  obtain ⟨e1, e2⟩ := syN_of h hs
  have hkk := ksOf_at l i b h
  rw [← e1] at hkk
  obtain ⟨s, hss⟩ : ∃ s, s = syN l i := ⟨_, rfl⟩
  rw [← hss] at e2 hkk ⊢
  obtain rfl | rfl | rfl | rfl | rfl | rfl : s = 0 ∨ s = 1 ∨ s = 2 ∨ s = 3 ∨ s = 4 ∨ s = 5 := by omega
  · exact ⟨dq_call (by rw [hkk]; rfl), .inl (by omega)⟩
  · exact ⟨dq_call (by rw [hkk]; rfl), .inl (by omega)⟩
  · obtain ⟨h1, h2⟩ := dq_ret (by rw [hkk]; rfl) (hm i)
    exact ⟨h2, .inr (.inr h1)⟩
  · obtain ⟨h1, h2⟩ := dq_ret (by rw [hkk]; rfl) (hm i)
    exact ⟨h2, .inr (.inr h1)⟩
  · exact ⟨dq_in (x := 2) (by rw [hkk]; rfl) (by decide) (by decide), .inr (.inl (by omega))⟩
  · exact ⟨dq_in (x := 2) (by rw [hkk]; rfl) (by decide) (by decide), .inr (.inl (by omega))⟩

/-- The number of a matched word, as far as its first i symbols tell. -/
def rk (l : List UInt8) : Nat → Nat
  | 0 => 0
  | i + 1 => rk l i + cbs (l.length - 1 - i) (dq (ksOf l) i) (syN l i)
theorem rk_le {l : List UInt8} (hl : l.length ≤ 20) (hall : AllSym l) : ∀ i, i ≤ l.length → rk l i ≤ i * 21936950640377856
  | 0, _ => Nat.zero_le _
  | i + 1, h => by
    have ih := rk_le hl hall i (by omega)
    obtain ⟨b, hb⟩ : ∃ b, l[i]? = some b := ⟨_, List.getElem?_eq_getElem (by omega)⟩
    have h6 := (syN_of hb (hall b (List.mem_of_getElem? hb))).2
    have := cbs_top (n := l.length - 1 - i) (by omega) (dq (ksOf l) i) (s := syN l i) (by omega)
    rw [rk]
    omega
end Go.Proofs.Ytnclhgaikglbgaa
/- The law's own small functions on lists of numbers: eqInt64S, markInt64S, heldInt64S. -/
namespace Go.Proofs.Ytnclhgaikglbgaa
open Go.RowKit

/-- A slice of numbers that reads as a list: nil, or cells at its address. -/
def Nums (w : World) (A : Option Addr) (n : Nat) (xs : List Int) : Prop :=
  xs.length = n ∧ (0 < n → ∃ g, A = some ⟨g, 0, none⟩ ∧ g < w.heap.size ∧ ∀ (j : Nat) (x : Int), xs[j]? = some x → w.cell? ⟨g, j, none⟩ = some (.int .i64 x))

theorem Nums.of_row {w : World} {base : Nat} {A : Option Addr} {n c : Nat} {xs : List Int} (h : w.ownsRow base 2 1 (.slice A n c) n (numsV xs)) : Nums w A n xs := by
  refine ⟨by have := h.1; simpa [numsV] using this, fun hn => ?_⟩
  rcases h.2 with ⟨h0, h1⟩ | ⟨g, cap, cur, hv, _⟩
  · omega
  · simp only [Value.slice.injEq] at hv
    obtain ⟨rfl, _, rfl⟩ := hv
    refine ⟨g, rfl, (h.lt g rfl).2, fun j x hx => ?_⟩
    have hj : j < n := by
      have := (List.getElem?_eq_some_iff.1 hx).1
      have hl := h.1
      simp [numsV] at hl
      omega
    rw [h.cellAt j (by omega)]
    simp [numsV, hx]

theorem Nums.below {w w' : World} {A : Option Addr} {n : Nat} {xs : List Int} (h : Nums w A n xs) (hb : Below w.heap.size w w') : Nums w' A n xs :=
  ⟨h.1, fun hn => by
    obtain ⟨g, e, hg, hc⟩ := h.2 hn
    exact ⟨g, e, Nat.lt_of_lt_of_le hg hb.size, fun j x hx => (hb.cell (p := ⟨g, j, none⟩) hg).trans (hc j x hx)⟩⟩

theorem Nums.at_ {w : World} {A : Option Addr} {n : Nat} {xs : List Int} (h : Nums w A n xs) (k : Nat) (hk : k < n) : ∃ g x, A = some ⟨g, 0, none⟩ ∧ xs[k]? = some x ∧ w.cell? ⟨g, k, none⟩ = some (.int .i64 x) := by
  obtain ⟨g, e, _, hc⟩ := h.2 (by omega)
  have hl : k < xs.length := by have := h.1; omega
  exact ⟨g, xs[k], e, List.getElem?_eq_getElem hl, hc k _ (List.getElem?_eq_getElem hl)⟩

/-- 1, 2, 3 and so on. -/
def ramp (n : Nat) : List Int := (List.range n).map fun i : Nat => (i : Int) + 1
theorem ramp_len (n : Nat) : (ramp n).length = n := by simp [ramp]
theorem ramp_succ (n : Nat) : ramp (n + 1) = ramp n ++ [(n : Int) + 1] := by simp [ramp, List.range_succ]
theorem ramp_at (n k : Nat) (h : k < n) : (ramp n)[k]? = some ((k : Int) + 1) := by simp [ramp, h]

structure MarkRel (w : World) (base n : Nat) (A : Option Addr) (c : Nat) (xs : List Int) (j : Nat) (wr : World) : Prop where
  row : wr.ownsRow base 2 1 (.slice A n c) n (numsV (ramp j ++ xs.drop j))
  grown : w.grownBy wr (Value.slice A n c).ownBlock

theorem MarkRel.next {w wr : World} {base n g c : Nat} {xs : List Int} {j : Nat} (h : MarkRel w base n (some ⟨g, 0, none⟩) c xs j wr) (hx : xs.length = n) (hj : j < n) :
    MarkRel w base n (some ⟨g, 0, none⟩) c xs (j + 1) (wr.setCell ⟨g, j, none⟩ (.int .i64 ((j : Int) + 1))) := by
  have h1 := h.row.stored j (.int .i64 ((j : Int) + 1))
  refine ⟨?_, ?_⟩
  · have e : (numsV (ramp j ++ xs.drop j)).set j (.int .i64 ((j : Int) + 1)) = numsV (ramp (j + 1) ++ xs.drop (j + 1)) := by
      unfold numsV
      rw [← List.map_set, List.set_append_right _ _ (by rw [ramp_len]; exact Nat.le_refl _), ramp_len, Nat.sub_self, ramp_succ, List.append_assoc, List.singleton_append]
      rw [List.drop_eq_getElem_cons (by omega)]
      rfl
    rw [e] at h1
    exact h1.1
  · have g1 := h.grown
    have g2 := h1.2
    exact ⟨g2.os.trans g1.os, g2.tape.trans g1.tape, g2.output.trans g1.output, Nat.le_trans g1.size g2.size, fun k hk hne => (g2.block k (Nat.lt_of_lt_of_le hk g1.size) hne).trans (g1.block k hk hne)⟩

/-- What lies behind a call that answers a new list of numbers and a code. -/
def NumsPost (n : Nat) (xs : List Int) (code : Int) (w : World) (e : Ending) (w' : World) : Prop :=
  ∃ A c, e = .returned (.tuple #[.slice A n c, .int .i64 code]) ∧ w'.ownsRow w.heap.size 2 1 (.slice A n c) n (numsV xs) ∧ Below w.heap.size w w'
end Go.Proofs.Ytnclhgaikglbgaa
/- DepthsOf and DepthOf, of the model and of the program. -/
namespace Go.Proofs.Ytnclhgaikglbgaa
open Go.RowKit

def dstep (d k : Nat) : Nat := if k = 0 then d + 1 else if k = 1 then d - 1 else d
/-- The depth behind the first k places. -/
def dAt (ks : List Nat) (k : Nat) : Nat := (ks.take k).foldl dstep 0
def dList (ks : List Nat) (n : Nat) : List Int := (List.range n).map fun i => (dAt ks i : Int)
theorem dAt_succ {ks : List Nat} {k x : Nat} (h : ks[k]? = some x) : dAt ks (k + 1) = dstep (dAt ks k) x := by
  rw [dAt, List.take_add_one, h, Option.toList_some, List.foldl_append]; rfl
theorem dAt_le (ks : List Nat) (k : Nat) : dAt ks k ≤ k := by
  induction k with
  | zero => simp [dAt]
  | succ k ih =>
    cases h : ks[k]? with
    | none =>
      have : dAt ks (k + 1) = dAt ks k := by rw [dAt, List.take_add_one, h]; simp [dAt]
      omega
    | some x =>
      rw [dAt_succ h]
      unfold dstep
      split
      · omega
      · split <;> omega
theorem dList_len (ks : List Nat) (n : Nat) : (dList ks n).length = n := by simp [dList]
theorem dList_succ (ks : List Nat) (n : Nat) : dList ks (n + 1) = dList ks n ++ [(dAt ks n : Int)] := by simp [dList, List.range_succ]

def deepS (n : Int) : Int := if callS n then 1 else if retS n then -1 else 0

theorem impl_deepening (n : Int) (w : World) (h : 0 ≤ n ∧ n ≤ 5) :
    Calls Try.prog 56 #[.int .u8 n] w fun e w' => e = .returned (.int .i64 (deepS n)) ∧ w = w' := by
  rcases six n h with rfl | rfl | rfl | rfl | rfl | rfl
  all_goals
    go_enter Try.func56, Try.ntmps56
    go_wp2
    go_ret
    exact ⟨rfl, rfl⟩

theorem deep_step (n : Int) (d : Nat) (h : 0 ≤ n ∧ n ≤ 5) : (deepS n = 1 ∧ dstep d (kindS n) = d + 1) ∨ (deepS n = -1 ∧ dstep d (kindS n) = d - 1) ∨ (deepS n = 0 ∧ dstep d (kindS n) = d) := by
  rcases six n h with rfl | rfl | rfl | rfl | rfl | rfl
  · exact .inl ⟨rfl, rfl⟩
  · exact .inl ⟨rfl, rfl⟩
  · exact .inr (.inl ⟨rfl, rfl⟩)
  · exact .inr (.inl ⟨rfl, rfl⟩)
  · exact .inr (.inr ⟨rfl, rfl⟩)
  · exact .inr (.inr ⟨rfl, rfl⟩)

def RowPost2 (n : Nat) (xs : List Int) (w : World) (e : Ending) (w' : World) : Prop :=
  ∃ A c, e = .returned (.slice A n c) ∧ w'.ownsRow w.heap.size 2 1 (.slice A n c) n (numsV xs) ∧ Below w.heap.size w w'

theorem grow_row {w wr w1 : World} {v v' : Value} {o : Obj} {ks : List Nat} {k : Nat} (hrow : wr.ownsRow w.heap.size 2 1 v (k + 1) (numsV (dList ks (k + 1)))) (hb : Below w.heap.size w wr)
    (hown : w1.ownsRow w.heap.size 2 1 v' (k + 1 + 1) (numsV (dList ks (k + 1)) ++ [.int .i64 (dAt ks (k + 1) : Int)])) (hg : (wr.alloc o).grownBy w1 v.ownBlock) :
    ∃ g1 c1, v' = .slice (some ⟨g1, 0, none⟩) (k + 1 + 1) c1 ∧ w1.ownsRow w.heap.size 2 1 (.slice (some ⟨g1, 0, none⟩) (k + 1 + 1) c1) (k + 1 + 1) (numsV (dList ks (k + 1 + 1))) ∧ Below w.heap.size w w1 := by
  obtain ⟨g1, c1, rfl⟩ := ownsRow_succ hown
  refine ⟨g1, c1, rfl, ?_, (hb.alloc hb.size o).grown hg (by have := hb.size; simp; omega) (fun j e => (hrow.lt j e).1)⟩
  rw [dList_succ ks (k + 1)]
  simpa [numsV] using hown

/-- The same, if d0 calls are open in front. -/
def dAtF (d0 : Nat) (ks : List Nat) (k : Nat) : Nat := (ks.take k).foldl dstep d0
def dListF (d0 : Nat) (ks : List Nat) (n : Nat) : List Int := (List.range n).map fun i => (dAtF d0 ks i : Int)
theorem dListF_zero (ks : List Nat) (n : Nat) : dListF 0 ks n = dList ks n := rfl
theorem dAtF_succ {d0 : Nat} {ks : List Nat} {k x : Nat} (h : ks[k]? = some x) : dAtF d0 ks (k + 1) = dstep (dAtF d0 ks k) x := by
  rw [dAtF, List.take_add_one, h, Option.toList_some, List.foldl_append]; rfl
theorem dListF_len (d0 : Nat) (ks : List Nat) (n : Nat) : (dListF d0 ks n).length = n := by simp [dListF]
theorem dListF_succ (d0 : Nat) (ks : List Nat) (n : Nat) : dListF d0 ks (n + 1) = dListF d0 ks n ++ [(dAtF d0 ks n : Int)] := by simp [dListF, List.range_succ]
theorem grow_rowF {d0 : Nat} {w wr w1 : World} {v v' : Value} {o : Obj} {ks : List Nat} {k : Nat} (hrow : wr.ownsRow w.heap.size 2 1 v (k + 1) (numsV (dListF d0 ks (k + 1)))) (hb : Below w.heap.size w wr)
    (hown : w1.ownsRow w.heap.size 2 1 v' (k + 1 + 1) (numsV (dListF d0 ks (k + 1)) ++ [.int .i64 (dAtF d0 ks (k + 1) : Int)])) (hg : (wr.alloc o).grownBy w1 v.ownBlock) :
    ∃ g1 c1, v' = .slice (some ⟨g1, 0, none⟩) (k + 1 + 1) c1 ∧ w1.ownsRow w.heap.size 2 1 (.slice (some ⟨g1, 0, none⟩) (k + 1 + 1) c1) (k + 1 + 1) (numsV (dListF d0 ks (k + 1 + 1))) ∧ Below w.heap.size w w1 := by
  obtain ⟨g1, c1, rfl⟩ := ownsRow_succ hown
  refine ⟨g1, c1, rfl, ?_, (hb.alloc hb.size o).grown hg (by have := hb.size; simp; omega) (fun j e => (hrow.lt j e).1)⟩
  rw [dListF_succ d0 ks (k + 1)]
  simpa [numsV] using hown

set_option maxHeartbeats 1600000 in
set_option maxRecDepth 100000 in
theorem impl_depthsFrom (d0 g N c : Nat) (v : Value) (sy : List Int) (w : World) (hd0 : d0 ≤ 60) (hN : N ≤ 60) (hsl : sy.length = N) (hg : g < w.heap.size) (hok : ∀ x ∈ sy, 0 ≤ x ∧ x ≤ 5)
    (hcs : ∀ (j : Nat) (x : Int), sy[j]? = some x → w.cell? ⟨g, j, none⟩ = some (.int .u8 x)) :
    Calls Try.prog 32 #[.agg #[.slice (some ⟨g, 0, none⟩) N c, v], .int .i64 (d0 : Int)] w (RowPost2 (N + 1) (dListF d0 (sy.map kindS) (N + 1)) w) := by
  obtain ⟨i0, hi, hz0, hz1, hz2⟩ := info_parts info_i64
  obtain ⟨ks, hks⟩ : ∃ ks, ks = sy.map kindS := ⟨_, rfl⟩
  rw [← hks]
  have Hks := Lib.hid hks
  have Hsl := Lib.hid hsl
  have Hok := Lib.hid hok
  have Hcs := Lib.hid hcs
  clear hks hsl hok hcs
  go_enter Try.func32, Try.ntmps32
  go_wp2
  go_loopw [1, 5, 13] (fun x y i wr => ∃ (k d : Nat) (A : Option Addr) (c' : Nat), k ≤ N ∧ i = .int .i64 k ∧ x = .int .i64 d ∧ y = .slice A (k + 1) c' ∧ d ≤ d0 + k ∧ Hid (d = dAtF d0 ks k) ∧
      wr.ownsRow w.heap.size 2 1 (.slice A (k + 1) c') (k + 1) (numsV (dListF d0 ks (k + 1))) ∧ Below w.heap.size w wr) (fun _ _ i _ => N - (intOf i).toNat)
  case atStart =>
    refine ⟨0, d0, _, _, Nat.zero_le _, rfl, rfl, rfl, Nat.le_refl _, rfl, ?_, ((Below.refl _ _).alloc (Nat.le_refl _) _).alloc (by simp) _⟩
    have h := World.ownsRow_lit (base := w.heap.size) (e := 2) (size := 1) (w.alloc (.cells #[.slice (some ⟨g, 0, none⟩) N c, v] 50)) #[.int .i64 (d0 : Int)] 1 (by simp) (by unfold maxLen; omega) rfl
    simpa [numsV, dListF, dAtF] using h
  case round =>
    obtain ⟨k, d, A, c', hk, rfl, rfl, rfl, hdk, Hd, hR, hB⟩ := hrel
    have hs1 := hB.size
    by_cases hlt : k < N
    · obtain ⟨x, hx⟩ : ∃ x, sy[k]? = some x := ⟨_, List.getElem?_eq_getElem (by rw [Hsl.out]; exact hlt)⟩
      have hx5 := Hok.out x (List.mem_of_getElem? hx)
      have hc := (hB.cell (p := ⟨g, k, none⟩) hg).trans (Hcs.out k x hx)
      have hkk : ks[k]? = some (kindS x) := by rw [Hks.out]; simp [hx]
      have hd1 := dAtF_succ (d0 := d0) hkk
      rw [← Hd.out] at hd1
      have Hd1 := Lib.hid hd1
      clear hx hkk hd1
      have hst := deep_step x d hx5
      have fin : ∀ (d1 : Nat), dstep d (kindS x) = d1 → d1 ≤ d0 + (k + 1) → ∀ (w1 : World) (v' : Value) (o : Obj), w1.ownsRow w.heap.size 2 1 v' (k + 1 + 1) (numsV (dListF d0 ks (k + 1)) ++ [.int .i64 (d1 : Int)]) → (wr.alloc o).grownBy w1 (Value.slice A (k + 1) c').ownBlock →
          ∃ g1 c1, v' = .slice (some ⟨g1, 0, none⟩) (k + 1 + 1) c1 ∧ d1 ≤ d0 + (k + 1) ∧ Hid (d1 = dAtF d0 ks (k + 1)) ∧ w1.ownsRow w.heap.size 2 1 (.slice (some ⟨g1, 0, none⟩) (k + 1 + 1) c1) (k + 1 + 1) (numsV (dListF d0 ks (k + 1 + 1))) ∧ Below w.heap.size w w1 := by
        intro d1 e1 e2 w1 v' o h1 h2
        have e3 : d1 = dAtF d0 ks (k + 1) := by rw [Hd1.out, e1]
        rw [e3] at h1
        obtain ⟨g1, c1, r1, r2, r3⟩ := grow_rowF hR hB h1 h2
        exact ⟨g1, c1, r1, e2, e3, r2, r3⟩
      have Fin := Lib.hid fin
      clear fin
      rcases hst with ⟨e1, e2⟩ | ⟨e1, e2⟩ | ⟨e1, e2⟩
      · have E2 := Lib.hid e2
        clear e2
        go_wp2_with (first
          | (go_at_call 56; refine (impl_deepening _ _ hx5).mono ?_; rintro e w' ⟨rfl, rfl⟩)
          | (at_builtin; refine wpList_append_own _ rfl _ _ 25 rfl w.heap.size 2 i0 (.int .i64 0) 1 8 Try.underlying25 hi hz0 hz1 hz2 rfl (by decide) _ _ _ rfl (hR.alloc _) ⟨wr.heap.size, 0, none⟩ 1 1 [.int .i64 ((d : Int) + 1)] rfl rfl (cell_one_new _ _ _) ?c2 ?c3 ?c4 ?c5 ?_))
        case c2 => simp [Value.oneCell']
        case c3 => unfold maxLen; omega
        case c4 => omega
        case c5 => simp; omega
        intro v' w1 hown hg2 _
        obtain ⟨g1, c1, rfl, hd', Hd', hR', hB'⟩ := Fin.out (d + 1) (E2.out) (by omega) w1 v' _ (by simpa using hown) hg2
        clear hown hg2
        go_wp2
        go_roundw
        case rel => exact ⟨k + 1, d + 1, _, _, by omega, by go_num, by go_num, rfl, hd', Hd', hR', hB'⟩
        case measure => simp [intOf]; omega
      · cases d with
        | zero =>
          have E2 := Lib.hid e2
          clear e2
          go_wp2_with (first
            | (go_at_call 56; refine (impl_deepening _ _ hx5).mono ?_; rintro e w' ⟨rfl, rfl⟩)
            | (at_builtin; refine wpList_append_own _ rfl _ _ 25 rfl w.heap.size 2 i0 (.int .i64 0) 1 8 Try.underlying25 hi hz0 hz1 hz2 rfl (by decide) _ _ _ rfl (hR.alloc _) ⟨wr.heap.size, 0, none⟩ 1 1 [.int .i64 (0)] rfl rfl (cell_one_new _ _ _) ?c2 ?c3 ?c4 ?c5 ?_))
          case c2 => simp [Value.oneCell']
          case c3 => unfold maxLen; omega
          case c4 => omega
          case c5 => simp; omega
          intro v' w1 hown hg2 _
          obtain ⟨g1, c1, rfl, hd', Hd', hR', hB'⟩ := Fin.out (0) (E2.out) (by omega) w1 v' _ (by simpa using hown) hg2
          clear hown hg2
          go_wp2
          go_roundw
          case rel => exact ⟨k + 1, 0, _, _, by omega, by go_num, by go_num, rfl, hd', Hd', hR', hB'⟩
          case measure => simp [intOf]; omega
        | succ d =>
          have E2 := Lib.hid e2
          clear e2
          have hmx : max 0 ((d : Int) + 1 + -1) = (d : Int) := by omega
          go_wp2_with (first
            | (go_at_call 56; refine (impl_deepening _ _ hx5).mono ?_; rintro e w' ⟨rfl, rfl⟩)
            | (at_builtin; refine wpList_append_own _ rfl _ _ 25 rfl w.heap.size 2 i0 (.int .i64 0) 1 8 Try.underlying25 hi hz0 hz1 hz2 rfl (by decide) _ _ _ rfl (hR.alloc _) ⟨wr.heap.size, 0, none⟩ 1 1 [.int .i64 ((d : Int))] rfl rfl (cell_one_new _ _ _) ?c2 ?c3 ?c4 ?c5 ?_))
          case c2 => simp [Value.oneCell']
          case c3 => unfold maxLen; omega
          case c4 => omega
          case c5 => simp; omega
          intro v' w1 hown hg2 _
          obtain ⟨g1, c1, rfl, hd', Hd', hR', hB'⟩ := Fin.out (d) (E2.out) (by omega) w1 v' _ (by simpa using hown) hg2
          clear hown hg2
          go_wp2
          go_roundw
          case rel => exact ⟨k + 1, d, _, _, by omega, by go_num, by go_num, rfl, hd', Hd', hR', hB'⟩
          case measure => simp [intOf]; omega
      · have E2 := Lib.hid e2
        clear e2
        go_wp2_with (first
          | (go_at_call 56; refine (impl_deepening _ _ hx5).mono ?_; rintro e w' ⟨rfl, rfl⟩)
          | (at_builtin; refine wpList_append_own _ rfl _ _ 25 rfl w.heap.size 2 i0 (.int .i64 0) 1 8 Try.underlying25 hi hz0 hz1 hz2 rfl (by decide) _ _ _ rfl (hR.alloc _) ⟨wr.heap.size, 0, none⟩ 1 1 [.int .i64 ((d : Int))] rfl rfl (cell_one_new _ _ _) ?c2 ?c3 ?c4 ?c5 ?_))
        case c2 => simp [Value.oneCell']
        case c3 => unfold maxLen; omega
        case c4 => omega
        case c5 => simp; omega
        intro v' w1 hown hg2 _
        obtain ⟨g1, c1, rfl, hd', Hd', hR', hB'⟩ := Fin.out (d) (E2.out) (by omega) w1 v' _ (by simpa using hown) hg2
        clear hown hg2
        go_wp2
        go_roundw
        case rel => exact ⟨k + 1, d, _, _, by omega, by go_num, by go_num, rfl, hd', Hd', hR', hB'⟩
        case measure => simp [intOf]; omega
    · obtain rfl : k = N := by omega
      go_wp2
      go_ret
      exact ⟨_, _, rfl, hR, hB⟩

end Go.Proofs.Ytnclhgaikglbgaa
