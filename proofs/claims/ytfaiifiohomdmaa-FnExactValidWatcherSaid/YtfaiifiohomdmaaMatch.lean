/- matchSymbols returns the partners of its symbols, by their kinds alone, in a new row; at most 60 symbols, each of the numbers 0 to 5. -/
import Derived.Test.YtfaiifiohomdmaaSym
import Derived.Test.YtfaiifiohomdmaaMath
import Derived.Test.YtfaiifiohomdmaaMem
import Derived.Maps.AppendAt
import Derived.RangeFuncBox
import Derived.Deep.OwnRows
import Derived.Lib.Hide
namespace Go.Proofs.Ytfaiifiohomdmaa
open Go.RowKit

/-- The kind of a symbol's number. -/
def kindS (n : Int) : Nat := if n ≤ 1 then 0 else if n = 2 ∨ n = 3 then 1 else 2

def numsV (l : List Int) : List Value := l.map (Value.int .i64)
def natsV (l : List Nat) : List Value := l.map fun a : Nat => Value.int .i64 (a : Int)
def symsV (l : List Int) : List Value := l.map (Value.int .u8)

theorem info_i64 : (Try.prog.info? 2).map (fun i => (i.zero, i.size, i.bytes)) = some (some (.int .i64 0), 1, 8) := by kernel_rfl

structure MRel (w : World) (n : Nat) (ks : List Nat) (k m : Nat) (A : Option Addr) (c : Nat) (wr : World) : Prop where
  hm : (opns (ks.take k)).length = m
  rowP : wr.ownsRow w.heap.size 2 1 (.slice (some ⟨w.heap.size, 0, none⟩) n n) n (numsV (prts (ks.take k) ++ List.replicate (n - k) 0))
  rowO : wr.ownsRow (w.heap.size + 1) 2 1 (.slice A m c) m (natsV (opns (ks.take k)))
  below : Below w.heap.size w wr

section
variable {w wr : World} {n : Nat} {ks : List Nat} {k m : Nat} {A : Option Addr} {c : Nat}

theorem MRel.size (h : MRel w n ks k m A c wr) : w.heap.size < wr.heap.size := by
  have := h.rowP.lt w.heap.size rfl
  omega
theorem MRel.cellP (h : MRel w n ks k m A c wr) (j : Nat) (hj : j < n) : ∃ x, wr.cell? ⟨w.heap.size, j, none⟩ = some (.int .i64 x) := by
  have h1 := h.rowP.cellAt j (by omega)
  have hl := h.rowP.1
  rw [h1]
  simp only [numsV, List.getElem?_map]
  have : j < (prts (ks.take k) ++ List.replicate (n - k) 0).length := by simp only [numsV, List.length_map] at hl; omega
  rw [List.getElem?_eq_getElem this]
  exact ⟨_, rfl⟩
theorem MRel.frozenP (h : MRel w n ks k m A c wr) (j : Nat) : wr.frozen? ⟨w.heap.size, j, none⟩ = false := h.rowP.frozenAt j
theorem MRel.m_le (h : MRel w n ks k m A c wr) (hk : k ≤ n) (hl : ks.length = n) : m ≤ k := by
  have := opns_len (ks.take k)
  rw [h.hm, List.length_take] at this
  omega
theorem take_at (hl : ks.length = n) (hk : k < n) : ks.take (k + 1) = ks.take k ++ [ks[k]] := take_snoc ks k (by omega)
theorem len_take (hl : ks.length = n) (hk : k ≤ n) : (ks.take k).length = k := by rw [List.length_take]; omega

/-- The row of the partners, one more. -/
theorem MRel.fill (h : MRel w n ks k m A c wr) (hl : ks.length = n) (hk : k < n) (v : Int) :
    (wr.setCell ⟨w.heap.size, k, none⟩ (.int .i64 v)).ownsRow w.heap.size 2 1 (.slice (some ⟨w.heap.size, 0, none⟩) n n) n (numsV ((prts (ks.take k) ++ [v]) ++ List.replicate (n - (k + 1)) 0)) := by
  have h1 := (h.rowP.stored k (.int .i64 v)).1
  have e : (numsV (prts (ks.take k) ++ List.replicate (n - k) 0)).set k (.int .i64 v) = numsV ((prts (ks.take k) ++ [v]) ++ List.replicate (n - (k + 1)) 0) := by
    unfold numsV
    rw [← List.map_set, show n - k = (n - (k + 1)) + 1 from by omega, fill_at _ _ _ _ k (by rw [prts_len, len_take hl (by omega)])]
  rw [e] at h1
  exact h1

theorem MRel.inner (h : MRel w n ks k m A c wr) (hl : ks.length = n) (hk : k < n) (h0 : ks[k] ≠ 0) (h1 : ks[k] ≠ 1) :
    MRel w n ks (k + 1) m A c (wr.setCell ⟨w.heap.size, k, none⟩ (.int .i64 (-1))) := by
  have p := prts_inner (ks.take k) (ks[k]) h0 h1
  rw [← take_at hl hk] at p
  refine ⟨by rw [p.2]; exact h.hm, ?_, ?_, h.below.setCell (p := ⟨w.heap.size, k, none⟩) (Nat.le_refl _) _⟩
  · rw [p.1]; exact h.fill hl hk (-1)
  · rw [p.2]; exact ownsRow_setCell_below h.rowO (by simp) _

theorem MRel.lone (h : MRel w n ks k m A c wr) (hl : ks.length = n) (hk : k < n) (h1 : ks[k] = 1) (hm : m = 0) :
    MRel w n ks (k + 1) m A c (wr.setCell ⟨w.heap.size, k, none⟩ (.int .i64 (-2))) := by
  have hz : opns (ks.take k) = [] := List.eq_nil_of_length_eq_zero (by rw [h.hm, hm])
  have p := prts_ret_none (ks.take k) hz
  rw [← h1, ← take_at hl hk] at p
  refine ⟨by rw [p.2, hm]; rfl, ?_, ?_, h.below.setCell (p := ⟨w.heap.size, k, none⟩) (Nat.le_refl _) _⟩
  · rw [p.1]; exact h.fill hl hk (-2)
  · rw [p.2, ← hz]; exact ownsRow_setCell_below h.rowO (by simp) _

theorem MRel.room {g : Nat} (h : MRel w n ks k m (some ⟨g, 0, none⟩) c wr) : m ≤ c := by
  rcases h.rowO.2 with ⟨h0, _⟩ | ⟨g', cap, cur, hv, _, _, hle, _⟩
  · cases h0
  · simp only [Value.slice.injEq] at hv
    omega

/-- The last open call. -/
theorem MRel.last (h : MRel w n ks k (m + 1) A c wr) (hl : ks.length = n) (hk : k ≤ n) :
    ∃ (g a : Nat), A = some ⟨g, 0, none⟩ ∧ a < k ∧ (opns (ks.take k)).getLast? = some a ∧ opns (ks.take k) = (opns (ks.take k)).dropLast ++ [a] ∧ wr.cell? ⟨g, m, none⟩ = some (.int .i64 (a : Int)) ∧ w.heap.size < g := by
  obtain ⟨g, cap, hv⟩ := ownsRow_succ h.rowO
  simp only [Value.slice.injEq] at hv
  obtain ⟨rfl, _, rfl⟩ := hv
  have hb := h.rowO.lt g rfl
  have hne : opns (ks.take k) ≠ [] := fun e => by have := h.hm; rw [e] at this; simp at this
  have hg := List.getLast?_eq_some_getLast hne
  have hlt := opns_lt (ks.take k) _ (List.getLast_mem hne)
  rw [len_take hl hk] at hlt
  refine ⟨g, (opns (ks.take k)).getLast hne, rfl, hlt, hg, (List.dropLast_concat_getLast hne).symm, ?_, by omega⟩
  rw [h.rowO.cellAt m (by omega)]
  simp only [natsV, List.getElem?_map]
  rw [List.getLast?_eq_getElem?, h.hm] at hg
  simp only [Nat.add_sub_cancel] at hg
  rw [hg]
  rfl

theorem MRel.close {g a : Nat} (h : MRel w n ks k (m + 1) (some ⟨g, 0, none⟩) c wr) (hl : ks.length = n) (hk : k < n) (h1 : ks[k] = 1) (ha : a < k) (hlast : (opns (ks.take k)).getLast? = some a)
    (hsp : opns (ks.take k) = (opns (ks.take k)).dropLast ++ [a]) :
    MRel w n ks (k + 1) m (some ⟨g, 0, none⟩) c ((wr.setCell ⟨w.heap.size, a, none⟩ (.int .i64 (k : Int))).setCell ⟨w.heap.size, k, none⟩ (.int .i64 (a : Int))) := by
  have p := prts_ret_some (ks.take k) a hlast
  rw [← h1, ← take_at hl hk, len_take hl (by omega)] at p
  have hm := h.hm
  refine ⟨by rw [p.2, List.length_dropLast, hm]; rfl, ?_, ?_, (h.below.setCell (p := ⟨w.heap.size, a, none⟩) (Nat.le_refl _) _).setCell (p := ⟨w.heap.size, k, none⟩) (Nat.le_refl _) _⟩
  · have r1 := ((h.rowP.stored a (.int .i64 (k : Int))).1.stored k (.int .i64 (a : Int))).1
    have e : ((numsV (prts (ks.take k) ++ List.replicate (n - k) 0)).set a (.int .i64 (k : Int))).set k (.int .i64 (a : Int)) = numsV (prts (ks.take (k + 1)) ++ List.replicate (n - (k + 1)) 0) := by
      unfold numsV
      rw [← List.map_set, ← List.map_set, show n - k = (n - (k + 1)) + 1 from by omega, fill_two _ _ _ _ _ k a (by rw [prts_len, len_take hl (by omega)]) ha, p.1]
    rw [e] at r1
    exact r1
  · have r2 := h.rowO
    rw [hsp] at r2
    rw [p.2]
    have r3 := ownsRow_pop (size := 1) (n := m) (xs := natsV (opns (ks.take k)).dropLast) (last := [.int .i64 (a : Int)]) (by simp only [natsV, List.length_map, List.length_dropLast, hm]; omega) (by simpa [natsV] using r2)
    exact ownsRow_setCell_below (ownsRow_setCell_below r3 (by simp) _) (by simp) _

theorem MRel.open_ (h : MRel w n ks k m A c wr) (hl : ks.length = n) (hk : k < n) (h0 : ks[k] = 0) {w2 : World} {v' : Value} {o : Obj}
    (hown : w2.ownsRow (w.heap.size + 1) 2 1 v' (m + 1) (natsV (opns (ks.take k)) ++ [.int .i64 (k : Int)]))
    (hg : ((wr.setCell ⟨w.heap.size, k, none⟩ (.int .i64 (-2))).alloc o).grownBy w2 (Value.slice A m c).ownBlock) :
    ∃ g' c', v' = .slice (some ⟨g', 0, none⟩) (m + 1) c' ∧ MRel w n ks (k + 1) (m + 1) (some ⟨g', 0, none⟩) c' w2 := by
  obtain ⟨g', c', rfl⟩ := ownsRow_succ hown
  refine ⟨g', c', rfl, ?_⟩
  have p := prts_call (ks.take k)
  rw [← h0, ← take_at hl hk, len_take hl (by omega)] at p
  have hlt := h.rowO.lt
  have hs := h.size
  refine ⟨by rw [p.2]; simp [h.hm], ?_, ?_, ?_⟩
  · rw [p.1]
    refine (h.fill hl hk (-2)).alloc o |>.kept hg (.inr ?_)
    intro e
    have := hlt _ e.symm
    simp at this
    omega
  · rw [p.2]
    simpa [natsV] using hown
  · refine ((h.below.setCell (p := ⟨w.heap.size, k, none⟩) (Nat.le_refl _) _).alloc (by simp; omega) o).grown hg (by simp; omega) ?_
    intro j e
    have := hlt _ e
    omega

theorem MRel.start {w : World} {n : Nat} (ks : List Nat) (hn : n ≤ 60) :
    MRel w n ks 0 0 none 0 (w.alloc (.cells (madeCells #[.int .i64 0] n) 2)) := by
  refine ⟨by simp [opns, pst], ?_, ?_, (Below.refl _ _).alloc (Nat.le_refl _) _⟩
  · have h := World.ownsRow_lit (base := w.heap.size) (e := 2) (size := 1) w (madeCells #[.int .i64 0] n) n (Nat.le_refl _) (by unfold maxLen; omega) (by simp [size_madeCells])
    rw [toList_madeCells_one] at h
    simpa [numsV, prts, pst] using h
  · simpa [natsV, opns, pst] using World.ownsRow_nil _ _ _ _
end

structure MatchPost (n : Nat) (ks : List Nat) (w : World) (e : Ending) (w' : World) : Prop where
  ret : e = .returned (.slice (some ⟨w.heap.size, 0, none⟩) n n)
  row : w'.ownsRow w.heap.size 2 1 (.slice (some ⟨w.heap.size, 0, none⟩) n n) n (numsV (prts ks))
  below : Below w.heap.size w w'

theorem kindS_call {x : Int} (h : callS x = true) : kindS x = 0 := by simp [callS] at h; simp [kindS, h]
theorem kindS_ret {x : Int} (h0 : callS x = false) (h : retS x = true) : kindS x = 1 := by
  simp [callS] at h0; simp [retS] at h; unfold kindS; rw [if_neg (by omega), if_pos (by omega)]
theorem kindS_in {x : Int} (h0 : callS x = false) (h : retS x = false) : kindS x = 2 := by
  simp [callS] at h0; simp [retS] at h; unfold kindS; rw [if_neg (by omega), if_neg (by omega)]

end Go.Proofs.Ytfaiifiohomdmaa
