/- l01Partners returns the partners of a word's places. -/
import Derived.Test.YtcboalnpbmnfcaaWord
namespace Go.Proofs.Ytcboalnpbmnfcaa
open Go.RowKit

theorem kind_call {n : Int} (h : callB n = true) : kindS (symNo n) = 0 := by
  simp only [callB, decide_eq_true_eq] at h
  rcases h with rfl | rfl <;> rfl
theorem kind_ret {n : Int} (h : retB n = true) : kindS (symNo n) = 1 := by
  simp only [retB, decide_eq_true_eq] at h
  rcases h with rfl | rfl <;> rfl
theorem kind_in {n : Int} (h : callB n = false) (h1 : retB n = false) : kindS (symNo n) = 2 ∨ symNo n < 0 := by
  simp only [callB, retB, decide_eq_false_iff_not] at h h1
  unfold symNo
  rw [if_neg (by omega), if_neg (by omega), if_neg (by omega), if_neg (by omega)]
  by_cases h4 : n = 97
  · rw [if_pos h4]; exact .inl rfl
  · rw [if_neg h4]
    by_cases h5 : n = 98
    · rw [if_pos h5]; exact .inl rfl
    · rw [if_neg h5]; exact .inr (by omega)

theorem ksOf_at (l : List UInt8) (k : Nat) (b : UInt8) (h : l[k]? = some b) : (ksOf l)[k]? = some (kindS (symNo b.toNat)) := by simp [ksOf, h]
theorem ksOf_len (l : List UInt8) : (ksOf l).length = l.length := by simp [ksOf]

theorem info_int : (Try.prog.info? 3).map (fun i => (i.zero, i.size, i.bytes)) = some (some (.int .i64 0), 1, 8) := by kernel_rfl

structure SRel (w : World) (ks : List Nat) (k m : Nat) (A : Option Addr) (c : Nat) (A' : Option Addr) (c' : Nat) (wr : World) : Prop where
  hm : (opns (ks.take k)).length = m
  rowP : wr.ownsRow w.heap.size 2 1 (.slice A k c) k (numsV (prts (ks.take k)))
  rowO : wr.ownsRow w.heap.size 3 1 (.slice A' m c') m (natsV (opns (ks.take k)))
  below : Below w.heap.size w wr

section
variable {w wr : World} {ks : List Nat} {k m : Nat} {A : Option Addr} {c : Nat} {A' : Option Addr} {c' : Nat}

theorem take_of {x : Nat} (h : ks[k]? = some x) : ks.take (k + 1) = ks.take k ++ [x] := by rw [List.take_add_one, h]; rfl
theorem len_of {x : Nat} (h : ks[k]? = some x) : (ks.take k).length = k := by
  have := (List.getElem?_eq_some_iff.1 h).1
  rw [List.length_take]; omega
theorem SRel.m_le {x : Nat} (h : SRel w ks k m A c A' c' wr) (hk : ks[k]? = some x) : m ≤ k := by
  have := opns_len (ks.take k)
  rw [h.hm, len_of hk] at this
  exact this

theorem SRel.grow {w1 : World} {v' : Value} {o : Obj} {x : Nat} {p : Int} (h : SRel w ks k m A c A' c' wr) (hk : ks[k]? = some x)
    (hp : prts (ks.take k ++ [x]) = prts (ks.take k) ++ [p]) (ho : opns (ks.take k ++ [x]) = opns (ks.take k))
    (hown : w1.ownsRow w.heap.size 2 1 v' (k + 1) (numsV (prts (ks.take k)) ++ [.int .i64 p])) (hg : (wr.alloc o).grownBy w1 (Value.slice A k c).ownBlock) :
    ∃ g1 c1, v' = .slice (some ⟨g1, 0, none⟩) (k + 1) c1 ∧ SRel w ks (k + 1) m (some ⟨g1, 0, none⟩) c1 A' c' w1 := by
  obtain ⟨g1, c1, rfl⟩ := ownsRow_succ hown
  refine ⟨g1, c1, rfl, ?_, ?_, ?_, ?_⟩
  · rw [take_of hk, ho]; exact h.hm
  · rw [take_of hk, hp]; simpa [numsV] using hown
  · rw [take_of hk, ho]; exact (h.rowO.alloc o).kept hg (rows_ne h.rowO h.rowP (by decide))
  · exact (h.below.alloc h.below.size o).grown hg (by have := h.below.size; simp; omega) (fun j e => (h.rowP.lt j e).1)

theorem SRel.inner {w1 : World} {v' : Value} {o : Obj} (h : SRel w ks k m A c A' c' wr) (hk : ks[k]? = some 2)
    (hown : w1.ownsRow w.heap.size 2 1 v' (k + 1) (numsV (prts (ks.take k)) ++ [.int .i64 (-1)])) (hg : (wr.alloc o).grownBy w1 (Value.slice A k c).ownBlock) :
    ∃ g1 c1, v' = .slice (some ⟨g1, 0, none⟩) (k + 1) c1 ∧ SRel w ks (k + 1) m (some ⟨g1, 0, none⟩) c1 A' c' w1 :=
  h.grow hk (prts_inner _ 2 (by decide) (by decide)).1 (prts_inner _ 2 (by decide) (by decide)).2 hown hg

theorem SRel.lone {w1 : World} {v' : Value} {o : Obj} (h : SRel w ks k 0 A c A' c' wr) (hk : ks[k]? = some 1)
    (hown : w1.ownsRow w.heap.size 2 1 v' (k + 1) (numsV (prts (ks.take k)) ++ [.int .i64 (-2)])) (hg : (wr.alloc o).grownBy w1 (Value.slice A k c).ownBlock) :
    ∃ g1 c1, v' = .slice (some ⟨g1, 0, none⟩) (k + 1) c1 ∧ SRel w ks (k + 1) 0 (some ⟨g1, 0, none⟩) c1 A' c' w1 := by
  have hz : opns (ks.take k) = [] := List.eq_nil_of_length_eq_zero h.hm
  exact h.grow hk (prts_ret_none _ hz).1 ((prts_ret_none _ hz).2.trans hz.symm) hown hg

/-- A call: what the second append needs of the first. -/
theorem SRel.keepO {w1 : World} {o o' : Obj} (h : SRel w ks k m A c A' c' wr) (hg : (wr.alloc o).grownBy w1 (Value.slice A k c).ownBlock) :
    (w1.alloc o').ownsRow w.heap.size 3 1 (.slice A' m c') m (natsV (opns (ks.take k))) :=
  ((h.rowO.alloc o).kept hg (rows_ne h.rowO h.rowP (by decide))).alloc o'

theorem SRel.open_ {w1 w2 : World} {v' v2 : Value} {o o' : Obj} (h : SRel w ks k m A c A' c' wr) (hk : ks[k]? = some 0)
    (hown : w1.ownsRow w.heap.size 2 1 v' (k + 1) (numsV (prts (ks.take k)) ++ [.int .i64 (-2)])) (hg : (wr.alloc o).grownBy w1 (Value.slice A k c).ownBlock)
    (hown2 : w2.ownsRow w.heap.size 3 1 v2 (m + 1) (natsV (opns (ks.take k)) ++ [.int .i64 (k : Int)])) (hg2 : (w1.alloc o').grownBy w2 (Value.slice A' m c').ownBlock) :
    ∃ g1 c1 g2 c2, v' = .slice (some ⟨g1, 0, none⟩) (k + 1) c1 ∧ v2 = .slice (some ⟨g2, 0, none⟩) (m + 1) c2 ∧ SRel w ks (k + 1) (m + 1) (some ⟨g1, 0, none⟩) c1 (some ⟨g2, 0, none⟩) c2 w2 := by
  obtain ⟨g1, c1, rfl⟩ := ownsRow_succ hown
  obtain ⟨g2, c2, rfl⟩ := ownsRow_succ hown2
  have p := prts_call (ks.take k)
  rw [len_of hk] at p
  have hb1 : Below w.heap.size w w1 := (h.below.alloc h.below.size o).grown hg (by have := h.below.size; simp; omega) (fun j e => (h.rowP.lt j e).1)
  have hO := (h.rowO.alloc o).kept hg (rows_ne h.rowO h.rowP (by decide))
  refine ⟨g1, c1, g2, c2, rfl, rfl, ?_, ?_, ?_, ?_⟩
  · rw [take_of hk, p.2]; simp [h.hm]
  · rw [take_of hk, p.1]
    have h1 := (hown.alloc o').kept hg2 (rows_ne hown hO (by decide))
    simpa [numsV] using h1
  · rw [take_of hk, p.2]; simpa [natsV] using hown2
  · exact (hb1.alloc hb1.size o').grown hg2 (by have := hb1.size; simp; omega) (fun j e => (h.rowO.lt j e).1)

/-- A return that matches. -/
theorem SRel.last (h : SRel w ks k (m + 1) A c A' c' wr) (hk : ks[k]? = some 1) :
    ∃ (g g' a : Nat) (u : Value), A = some ⟨g, 0, none⟩ ∧ A' = some ⟨g', 0, none⟩ ∧ a < k ∧ (opns (ks.take k)).getLast? = some a ∧ opns (ks.take k) = (opns (ks.take k)).dropLast ++ [a] ∧
      wr.cell? ⟨g', m, none⟩ = some (.int .i64 (a : Int)) ∧ wr.cell? ⟨g, a, none⟩ = some u ∧ wr.frozen? ⟨g, a, none⟩ = false ∧ m + 1 ≤ c' := by
  obtain ⟨g', cap', hv'⟩ := ownsRow_succ h.rowO
  simp only [Value.slice.injEq] at hv'
  obtain ⟨rfl, _, rfl⟩ := hv'
  have hne : opns (ks.take k) ≠ [] := fun e => by have := h.hm; rw [e] at this; simp at this
  have hg := List.getLast?_eq_some_getLast hne
  have hlt := opns_lt (ks.take k) _ (List.getLast_mem hne)
  rw [len_of hk] at hlt
  have hP := h.rowP
  obtain ⟨g, cap, hv⟩ : ∃ g cap, Value.slice A k c = .slice (some ⟨g, 0, none⟩) k cap := by
    rcases hP.2 with ⟨_, h1⟩ | ⟨g, cap, cur, hv, _⟩
    · omega
    · exact ⟨g, cap, hv⟩
  simp only [Value.slice.injEq] at hv
  obtain ⟨rfl, _, rfl⟩ := hv
  have hca := hP.cellAt ((opns (ks.take k)).getLast hne) (by omega)
  rw [List.getElem?_eq_getElem (by have := hP.1; omega)] at hca
  refine ⟨g, g', (opns (ks.take k)).getLast hne, _, rfl, rfl, hlt, hg, (List.dropLast_concat_getLast hne).symm, ?_, hca, hP.frozenAt _, ?_⟩
  · rw [h.rowO.cellAt m (by omega)]
    simp only [natsV, List.getElem?_map]
    rw [List.getLast?_eq_getElem?, h.hm] at hg
    simp only [Nat.add_sub_cancel] at hg
    rw [hg]
    rfl
  · rcases h.rowO.2 with ⟨h0, _⟩ | ⟨g', cap, cur, hv, _, _, hle, _⟩
    · cases h0
    · simp only [Value.slice.injEq] at hv
      omega

theorem SRel.stored {g g' a : Nat} (h : SRel w ks k (m + 1) (some ⟨g, 0, none⟩) c (some ⟨g', 0, none⟩) c' wr) :
    (wr.setCell ⟨g, a, none⟩ (.int .i64 (k : Int))).ownsRow w.heap.size 2 1 (.slice (some ⟨g, 0, none⟩) k c) k ((numsV (prts (ks.take k))).set a (.int .i64 (k : Int))) :=
  (h.rowP.stored a _).1

theorem SRel.close {w1 : World} {v' : Value} {o : Obj} {g g' a : Nat} (h : SRel w ks k (m + 1) (some ⟨g, 0, none⟩) c (some ⟨g', 0, none⟩) c' wr) (hk : ks[k]? = some 1)
    (hlast : (opns (ks.take k)).getLast? = some a) (hsp : opns (ks.take k) = (opns (ks.take k)).dropLast ++ [a])
    (hown : w1.ownsRow w.heap.size 2 1 v' (k + 1) ((numsV (prts (ks.take k))).set a (.int .i64 (k : Int)) ++ [.int .i64 (a : Int)]))
    (hg : ((wr.setCell ⟨g, a, none⟩ (.int .i64 (k : Int))).alloc o).grownBy w1 (some g)) :
    ∃ g1 c1, v' = .slice (some ⟨g1, 0, none⟩) (k + 1) c1 ∧ SRel w ks (k + 1) m (some ⟨g1, 0, none⟩) c1 (some ⟨g', 0, none⟩) c' w1 := by
  obtain ⟨g1, c1, rfl⟩ := ownsRow_succ hown
  have p := prts_ret_some (ks.take k) a hlast
  rw [len_of hk] at p
  have hm := h.hm
  have hne := rows_ne h.rowO h.rowP (by decide)
  have hgB := (h.rowP.lt g rfl).1
  have hne' : (Value.slice (some ⟨g', 0, none⟩) (m + 1) c').ownBlock ≠ some g := by
    rcases hne with hne | hne
    · simp [Value.ownBlock] at hne
    · exact hne
  refine ⟨g1, c1, rfl, ?_, ?_, ?_, ?_⟩
  · rw [take_of hk, p.2, List.length_dropLast, hm]; rfl
  · rw [take_of hk, p.1]; simpa [numsV, List.map_set] using hown
  · have r2 := h.rowO
    rw [hsp] at r2
    rw [take_of hk, p.2]
    have r3 := ownsRow_pop (size := 1) (n := m) (xs := natsV (opns (ks.take k)).dropLast) (last := [.int .i64 (a : Int)]) (by simp only [natsV, List.length_map, List.length_dropLast, hm]; omega) (by simpa [natsV] using r2)
    exact ((row_far r3 (a := ⟨g, a, none⟩) hne' _).alloc o).kept hg (.inr hne')
  · have hb := h.below.setCell (p := ⟨g, a, none⟩) hgB (.int .i64 (k : Int))
    exact (hb.alloc hb.size o).grown hg (by have := hb.size; simp at this ⊢; omega) (fun j e => by simp at e; omega)
end
end Go.Proofs.Ytcboalnpbmnfcaa
