import Derived.Test.YtnclhgaikglbgaaMFnPutAndCut3
/- l01Partners returns the partners of a word's places. -/
namespace Go.Proofs.Ytnclhgaikglbgaa
open Go.RowKit

theorem kind_call {n : Int} (h : callB n = true) : kindS (symNo n) = 0 := by
  simp only [callB, decide_eq_true_eq] at h
  rcases h with rfl | rfl <;> rfl
theorem kind_ret {n : Int} (h : retB n = true) : kindS (symNo n) = 1 := by
  simp only [retB, decide_eq_true_eq] at h
  rcases h with rfl | rfl <;> rfl
theorem kind_in {n : Int} (h : callB n = false) (h1 : retB n = false) : kindS (symNo n) = 2 ∨ symNo n < 0 := by
  simp only [callB, retB, decide_eq_false_iff_not] at h h1
  unfold symNo
  rw [if_neg (by omega), if_neg (by omega), if_neg (by omega), if_neg (by omega)]
  by_cases h4 : n = 97
  · rw [if_pos h4]; exact .inl rfl
  · rw [if_neg h4]
    by_cases h5 : n = 98
    · rw [if_pos h5]; exact .inl rfl
    · rw [if_neg h5]; exact .inr (by omega)

theorem ksOf_at (l : List UInt8) (k : Nat) (b : UInt8) (h : l[k]? = some b) : (ksOf l)[k]? = some (kindS (symNo b.toNat)) := by simp [ksOf, h]
theorem ksOf_len (l : List UInt8) : (ksOf l).length = l.length := by simp [ksOf]

theorem info_int : (Try.prog.info? 3).map (fun i => (i.zero, i.size, i.bytes)) = some (some (.int .i64 0), 1, 8) := by kernel_rfl

structure SRel (w : World) (ks : List Nat) (k m : Nat) (A : Option Addr) (c : Nat) (A' : Option Addr) (c' : Nat) (wr : World) : Prop where
  hm : (opns (ks.take k)).length = m
  rowP : wr.ownsRow w.heap.size 2 1 (.slice A k c) k (numsV (prts (ks.take k)))
  rowO : wr.ownsRow w.heap.size 3 1 (.slice A' m c') m (natsV (opns (ks.take k)))
  below : Below w.heap.size w wr

section
variable {w wr : World} {ks : List Nat} {k m : Nat} {A : Option Addr} {c : Nat} {A' : Option Addr} {c' : Nat}

theorem take_of {x : Nat} (h : ks[k]? = some x) : ks.take (k + 1) = ks.take k ++ [x] := by rw [List.take_add_one, h]; rfl
theorem len_of {x : Nat} (h : ks[k]? = some x) : (ks.take k).length = k := by
  have := (List.getElem?_eq_some_iff.1 h).1
  rw [List.length_take]; omega
theorem SRel.m_le {x : Nat} (h : SRel w ks k m A c A' c' wr) (hk : ks[k]? = some x) : m ≤ k := by
  have := opns_len (ks.take k)
  rw [h.hm, len_of hk] at this
  exact this

theorem SRel.grow {w1 : World} {v' : Value} {o : Obj} {x : Nat} {p : Int} (h : SRel w ks k m A c A' c' wr) (hk : ks[k]? = some x)
    (hp : prts (ks.take k ++ [x]) = prts (ks.take k) ++ [p]) (ho : opns (ks.take k ++ [x]) = opns (ks.take k))
    (hown : w1.ownsRow w.heap.size 2 1 v' (k + 1) (numsV (prts (ks.take k)) ++ [.int .i64 p])) (hg : (wr.alloc o).grownBy w1 (Value.slice A k c).ownBlock) :
    ∃ g1 c1, v' = .slice (some ⟨g1, 0, none⟩) (k + 1) c1 ∧ SRel w ks (k + 1) m (some ⟨g1, 0, none⟩) c1 A' c' w1 := by
  obtain ⟨g1, c1, rfl⟩ := ownsRow_succ hown
  refine ⟨g1, c1, rfl, ?_, ?_, ?_, ?_⟩
  · rw [take_of hk, ho]; exact h.hm
  · rw [take_of hk, hp]; simpa [numsV] using hown
  · rw [take_of hk, ho]; exact (h.rowO.alloc o).kept hg (rows_ne h.rowO h.rowP (by decide))
  · exact (h.below.alloc h.below.size o).grown hg (by have := h.below.size; simp; omega) (fun j e => (h.rowP.lt j e).1)

theorem SRel.inner {w1 : World} {v' : Value} {o : Obj} (h : SRel w ks k m A c A' c' wr) (hk : ks[k]? = some 2)
    (hown : w1.ownsRow w.heap.size 2 1 v' (k + 1) (numsV (prts (ks.take k)) ++ [.int .i64 (-1)])) (hg : (wr.alloc o).grownBy w1 (Value.slice A k c).ownBlock) :
    ∃ g1 c1, v' = .slice (some ⟨g1, 0, none⟩) (k + 1) c1 ∧ SRel w ks (k + 1) m (some ⟨g1, 0, none⟩) c1 A' c' w1 :=
  h.grow hk (prts_inner _ 2 (by decide) (by decide)).1 (prts_inner _ 2 (by decide) (by decide)).2 hown hg

theorem SRel.lone {w1 : World} {v' : Value} {o : Obj} (h : SRel w ks k 0 A c A' c' wr) (hk : ks[k]? = some 1)
    (hown : w1.ownsRow w.heap.size 2 1 v' (k + 1) (numsV (prts (ks.take k)) ++ [.int .i64 (-2)])) (hg : (wr.alloc o).grownBy w1 (Value.slice A k c).ownBlock) :
    ∃ g1 c1, v' = .slice (some ⟨g1, 0, none⟩) (k + 1) c1 ∧ SRel w ks (k + 1) 0 (some ⟨g1, 0, none⟩) c1 A' c' w1 := by
  have hz : opns (ks.take k) = [] := List.eq_nil_of_length_eq_zero h.hm
  exact h.grow hk (prts_ret_none _ hz).1 ((prts_ret_none _ hz).2.trans hz.symm) hown hg

/-- A call: what the second append needs of the first. -/
theorem SRel.keepO {w1 : World} {o o' : Obj} (h : SRel w ks k m A c A' c' wr) (hg : (wr.alloc o).grownBy w1 (Value.slice A k c).ownBlock) :
    (w1.alloc o').ownsRow w.heap.size 3 1 (.slice A' m c') m (natsV (opns (ks.take k))) :=
  ((h.rowO.alloc o).kept hg (rows_ne h.rowO h.rowP (by decide))).alloc o'

theorem SRel.open_ {w1 w2 : World} {v' v2 : Value} {o o' : Obj} (h : SRel w ks k m A c A' c' wr) (hk : ks[k]? = some 0)
    (hown : w1.ownsRow w.heap.size 2 1 v' (k + 1) (numsV (prts (ks.take k)) ++ [.int .i64 (-2)])) (hg : (wr.alloc o).grownBy w1 (Value.slice A k c).ownBlock)
    (hown2 : w2.ownsRow w.heap.size 3 1 v2 (m + 1) (natsV (opns (ks.take k)) ++ [.int .i64 (k : Int)])) (hg2 : (w1.alloc o').grownBy w2 (Value.slice A' m c').ownBlock) :
    ∃ g1 c1 g2 c2, v' = .slice (some ⟨g1, 0, none⟩) (k + 1) c1 ∧ v2 = .slice (some ⟨g2, 0, none⟩) (m + 1) c2 ∧ SRel w ks (k + 1) (m + 1) (some ⟨g1, 0, none⟩) c1 (some ⟨g2, 0, none⟩) c2 w2 := by
  obtain ⟨g1, c1, rfl⟩ := ownsRow_succ hown
  obtain ⟨g2, c2, rfl⟩ := ownsRow_succ hown2
  have p := prts_call (ks.take k)
  rw [len_of hk] at p
  have hb1 : Below w.heap.size w w1 := (h.below.alloc h.below.size o).grown hg (by have := h.below.size; simp; omega) (fun j e => (h.rowP.lt j e).1)
  have hO := (h.rowO.alloc o).kept hg (rows_ne h.rowO h.rowP (by decide))
  refine ⟨g1, c1, g2, c2, rfl, rfl, ?_, ?_, ?_, ?_⟩
  · rw [take_of hk, p.2]; simp [h.hm]
  · rw [take_of hk, p.1]
    have h1 := (hown.alloc o').kept hg2 (rows_ne hown hO (by decide))
    simpa [numsV] using h1
  · rw [take_of hk, p.2]; simpa [natsV] using hown2
  · exact (hb1.alloc hb1.size o').grown hg2 (by have := hb1.size; simp; omega) (fun j e => (h.rowO.lt j e).1)

/-- A return that matches. -/
theorem SRel.last (h : SRel w ks k (m + 1) A c A' c' wr) (hk : ks[k]? = some 1) :
    ∃ (g g' a : Nat) (u : Value), A = some ⟨g, 0, none⟩ ∧ A' = some ⟨g', 0, none⟩ ∧ a < k ∧ (opns (ks.take k)).getLast? = some a ∧ opns (ks.take k) = (opns (ks.take k)).dropLast ++ [a] ∧
      wr.cell? ⟨g', m, none⟩ = some (.int .i64 (a : Int)) ∧ wr.cell? ⟨g, a, none⟩ = some u ∧ wr.frozen? ⟨g, a, none⟩ = false ∧ m + 1 ≤ c' := by
  obtain ⟨g', cap', hv'⟩ := ownsRow_succ h.rowO
  simp only [Value.slice.injEq] at hv'
  obtain ⟨rfl, _, rfl⟩ := hv'
  have hne : opns (ks.take k) ≠ [] := fun e => by have := h.hm; rw [e] at this; simp at this
  have hg := List.getLast?_eq_some_getLast hne
  have hlt := opns_lt (ks.take k) _ (List.getLast_mem hne)
  rw [len_of hk] at hlt
  have hP := h.rowP
  obtain ⟨g, cap, hv⟩ : ∃ g cap, Value.slice A k c = .slice (some ⟨g, 0, none⟩) k cap := by
    rcases hP.2 with ⟨_, h1⟩ | ⟨g, cap, cur, hv, _⟩
    · omega
    · exact ⟨g, cap, hv⟩
  simp only [Value.slice.injEq] at hv
  obtain ⟨rfl, _, rfl⟩ := hv
  have hca := hP.cellAt ((opns (ks.take k)).getLast hne) (by omega)
  rw [List.getElem?_eq_getElem (by have := hP.1; omega)] at hca
  refine ⟨g, g', (opns (ks.take k)).getLast hne, _, rfl, rfl, hlt, hg, (List.dropLast_concat_getLast hne).symm, ?_, hca, hP.frozenAt _, ?_⟩
  · rw [h.rowO.cellAt m (by omega)]
    simp only [natsV, List.getElem?_map]
    rw [List.getLast?_eq_getElem?, h.hm] at hg
    simp only [Nat.add_sub_cancel] at hg
    rw [hg]
    rfl
  · rcases h.rowO.2 with ⟨h0, _⟩ | ⟨g', cap, cur, hv, _, _, hle, _⟩
    · cases h0
    · simp only [Value.slice.injEq] at hv
      omega

theorem SRel.stored {g g' a : Nat} (h : SRel w ks k (m + 1) (some ⟨g, 0, none⟩) c (some ⟨g', 0, none⟩) c' wr) :
    (wr.setCell ⟨g, a, none⟩ (.int .i64 (k : Int))).ownsRow w.heap.size 2 1 (.slice (some ⟨g, 0, none⟩) k c) k ((numsV (prts (ks.take k))).set a (.int .i64 (k : Int))) :=
  (h.rowP.stored a _).1

theorem SRel.close {w1 : World} {v' : Value} {o : Obj} {g g' a : Nat} (h : SRel w ks k (m + 1) (some ⟨g, 0, none⟩) c (some ⟨g', 0, none⟩) c' wr) (hk : ks[k]? = some 1)
    (hlast : (opns (ks.take k)).getLast? = some a) (hsp : opns (ks.take k) = (opns (ks.take k)).dropLast ++ [a])
    (hown : w1.ownsRow w.heap.size 2 1 v' (k + 1) ((numsV (prts (ks.take k))).set a (.int .i64 (k : Int)) ++ [.int .i64 (a : Int)]))
    (hg : ((wr.setCell ⟨g, a, none⟩ (.int .i64 (k : Int))).alloc o).grownBy w1 (some g)) :
    ∃ g1 c1, v' = .slice (some ⟨g1, 0, none⟩) (k + 1) c1 ∧ SRel w ks (k + 1) m (some ⟨g1, 0, none⟩) c1 (some ⟨g', 0, none⟩) c' w1 := by
  obtain ⟨g1, c1, rfl⟩ := ownsRow_succ hown
  have p := prts_ret_some (ks.take k) a hlast
  rw [len_of hk] at p
  have hm := h.hm
  have hne := rows_ne h.rowO h.rowP (by decide)
  have hgB := (h.rowP.lt g rfl).1
  have hne' : (Value.slice (some ⟨g', 0, none⟩) (m + 1) c').ownBlock ≠ some g := by
    rcases hne with hne | hne
    · simp [Value.ownBlock] at hne
    · exact hne
  refine ⟨g1, c1, rfl, ?_, ?_, ?_, ?_⟩
  · rw [take_of hk, p.2, List.length_dropLast, hm]; rfl
  · rw [take_of hk, p.1]; simpa [numsV, List.map_set] using hown
  · have r2 := h.rowO
    rw [hsp] at r2
    rw [take_of hk, p.2]
    have r3 := ownsRow_pop (size := 1) (n := m) (xs := natsV (opns (ks.take k)).dropLast) (last := [.int .i64 (a : Int)]) (by simp only [natsV, List.length_map, List.length_dropLast, hm]; omega) (by simpa [natsV] using r2)
    exact ((row_far r3 (a := ⟨g, a, none⟩) hne' _).alloc o).kept hg (.inr hne')
  · have hb := h.below.setCell (p := ⟨g, a, none⟩) hgB (.int .i64 (k : Int))
    exact (hb.alloc hb.size o).grown hg (by have := hb.size; simp at this ⊢; omega) (fun j e => by simp at e; omega)
end
end Go.Proofs.Ytnclhgaikglbgaa
/- The walk of l01Partners. -/
namespace Go.Proofs.Ytnclhgaikglbgaa
open Go.RowKit

def RowPost (T : TypeId) (n : Nat) (xs : List Value) (w : World) (e : Ending) (w' : World) : Prop :=
  ∃ A c, e = .returned (.slice A n c) ∧ w'.ownsRow w.heap.size T 1 (.slice A n c) n xs ∧ Below w.heap.size w w'

theorem SRel.start (w : World) (ks : List Nat) :
    SRel w ks 0 0 (some ⟨w.heap.size, 0, none⟩) 0 (some ⟨w.heap.size + 1, 0, none⟩) 0 ((w.alloc (.cells #[] 2)).alloc (.cells #[] 3)) := by
  refine ⟨by simp [opns, pst], ?_, ?_, ((Below.refl _ _).alloc (Nat.le_refl _) _).alloc (by simp) _⟩
  · have h := World.ownsRow_lit (base := w.heap.size) (e := 2) (size := 1) w #[] 0 (Nat.le_refl _) (by unfold maxLen; omega) rfl
    simpa [numsV, prts, pst] using h.alloc (.cells #[] 3)
  · have h := World.ownsRow_lit (base := w.heap.size) (e := 3) (size := 1) (w.alloc (.cells #[] 2)) #[] 0 (by simp) (by unfold maxLen; omega) rfl
    simpa [natsV, opns, pst] using h

set_option maxHeartbeats 3200000 in
set_option maxRecDepth 100000 in
theorem spec_partners (s : ByteArray) (w : World) (hw : IsW s) :
    Calls Try.prog 45 #[.string s] w (RowPost 2 s.size (numsV (prts (ksOf s.data.toList))) w) := by
  obtain ⟨h60, hall⟩ := hw
  obtain ⟨i0, hi, hz0, hz1, hz2⟩ := info_parts info_i64
  obtain ⟨j0, hj, hy0, hy1, hy2⟩ := info_parts info_int
  obtain ⟨ks, hks⟩ : ∃ ks, ks = ksOf s.data.toList := ⟨_, rfl⟩
  have hkl : ks.length = s.size := by rw [hks, ksOf_len]; simp
  rw [← hks]
  have Hks := Lib.hid hks
  have Hkl := Lib.hid hkl
  have Hall := Lib.hid hall
  clear hks hkl hall
  go_enter Try.func45, Try.ntmps45
  go_wp2
  go_loopw [3, 4, 5] (fun o p i wr => ∃ (k m : Nat) (A : Option Addr) (c : Nat) (A' : Option Addr) (c' : Nat), k ≤ s.size ∧ i = .int .i64 k ∧ o = .slice A k c ∧ p = .slice A' m c' ∧ SRel w ks k m A c A' c' wr) (fun _ _ i _ => s.size - (intOf i).toNat)
  case atStart => exact ⟨0, 0, _, _, _, _, Nat.zero_le _, rfl, rfl, rfl, SRel.start w ks⟩
  case round =>
    obtain ⟨k, m, A, c, A', c', hk, rfl, rfl, rfl, hR⟩ := hrel
    by_cases hlt : k < s.size
    · have hb : Hid (s.data.toList[k]? = some s[k]) := by
        show _ = _
        rw [List.getElem?_eq_getElem (by simpa using hlt)]; rfl
      have hsy : 0 ≤ symNo (s[k].toNat : Int) := Hall.out _ (List.mem_of_getElem? hb.out)
      have hkk : Hid (ks[k]? = some (kindS (symNo (s[k].toNat : Int)))) := by
        show _ = _
        rw [Hks.out]
        exact ksOf_at _ _ _ hb.out
      have hmk := hR.m_le hkk.out
      have hbs := hR.below.size
      cases hc : callB (s[k].toNat : Int) with
      | true =>
        have hk0 : Hid (ks[k]? = some 0) := by
          show _ = _
          rw [hkk.out, kind_call hc]
        clear hkk hb
        go_wp2_with (first
          | (go_at_call 52; refine (spec_call _ _).mono ?_; rintro e w' ⟨rfl, rfl⟩)
          | (at_builtin; refine wpList_append_own _ rfl _ _ 25 rfl w.heap.size 2 i0 (.int .i64 0) 1 8 Try.underlying25 hi hz0 hz1 hz2 rfl (by decide) _ _ _ rfl (hR.rowP.alloc _) ⟨wr.heap.size, 0, none⟩ 1 1 [.int .i64 (-2)] rfl rfl (cell_one_new _ _ _) ?c2 ?c3 ?c4 ?c5 ?_))
        case c2 => simp [Value.oneCell']
        case c3 => unfold maxLen; omega
        case c4 => omega
        case c5 => simp; omega
        intro v1 w1 hown1 hg1 _
        have hO := fun o' => hR.keepO (o' := o') hg1
        have hs1 : w.heap.size ≤ w1.heap.size := by have := hg1.size; simp at this; omega
        go_wp2_with (at_builtin; refine wpList_append_own _ rfl _ _ 84 rfl w.heap.size 3 j0 (.int .i64 0) 1 8 Try.underlying84 hj hy0 hy1 hy2 rfl (by decide) _ _ _ rfl (hO _) ⟨w1.heap.size, 0, none⟩ 1 1 [.int .i64 (k : Int)] rfl rfl (cell_one_new _ _ _) ?d2 ?d3 ?d4 ?d5 ?_)
        case d2 => simp [Value.oneCell']
        case d3 => unfold maxLen; omega
        case d4 => omega
        case d5 => simp; omega
        intro v2 w2 hown2 hg2 _
        obtain ⟨g1, c1, g2, c2, rfl, rfl, hR'⟩ := hR.open_ hk0.out hown1 hg1 hown2 hg2
        clear hown1 hg1 hown2 hg2 hO
        go_wp2
        go_roundw
        case rel => exact ⟨k + 1, m + 1, _, _, _, _, by omega, by go_num, rfl, rfl, hR'⟩
        case measure => simp [intOf]; omega
      | false =>
        cases hd : retB (s[k].toNat : Int) with
        | true =>
          have hk1 : Hid (ks[k]? = some 1) := by
            show _ = _
            rw [hkk.out, kind_ret hd]
          clear hkk hb
          cases m with
          | zero =>
            go_wp2_with (first
              | (go_at_call 52; refine (spec_call _ _).mono ?_; rintro e w' ⟨rfl, rfl⟩)
              | (go_at_call 51; refine (spec_return _ _).mono ?_; rintro e w' ⟨rfl, rfl⟩)
              | (at_builtin; refine wpList_append_own _ rfl _ _ 25 rfl w.heap.size 2 i0 (.int .i64 0) 1 8 Try.underlying25 hi hz0 hz1 hz2 rfl (by decide) _ _ _ rfl (hR.rowP.alloc _) ⟨wr.heap.size, 0, none⟩ 1 1 [.int .i64 (-2)] rfl rfl (cell_one_new _ _ _) ?c2 ?c3 ?c4 ?c5 ?_))
            case c2 => simp [Value.oneCell']
            case c3 => unfold maxLen; omega
            case c4 => omega
            case c5 => simp; omega
            intro v1 w1 hown1 hg1 _
            obtain ⟨g1, c1, rfl, hR'⟩ := hR.lone hk1.out hown1 hg1
            clear hown1 hg1
            go_wp2
            go_roundw
            case rel => exact ⟨k + 1, 0, _, _, _, _, by omega, by go_num, rfl, rfl, hR'⟩
            case measure => simp [intOf]; omega
          | succ m =>
            obtain ⟨g, g', a, u, rfl, rfl, ha, hlast, hsp, hcell, hca, hfa, hroom⟩ := hR.last hk1.out
            have Hlast := Lib.hid hlast
            have Hsp := Lib.hid hsp
            clear hlast hsp
            have hst := hR.stored (a := a)
            go_wp2_with (first
              | (go_at_call 52; refine (spec_call _ _).mono ?_; rintro e w' ⟨rfl, rfl⟩)
              | (go_at_call 51; refine (spec_return _ _).mono ?_; rintro e w' ⟨rfl, rfl⟩)
              | (at_builtin; refine wpList_append_own _ rfl _ _ 25 rfl w.heap.size 2 i0 (.int .i64 0) 1 8 Try.underlying25 hi hz0 hz1 hz2 rfl (by decide) _ _ _ rfl (hst.alloc _) ⟨wr.heap.size, 0, none⟩ 1 1 [.int .i64 (a : Int)] rfl rfl ?c1 ?c2 ?c3 ?c4 ?c5 ?_))
            case c1 =>
              intro j u hj
              have h := cell_one_new (wr.setCell ⟨g, a, none⟩ (.int .i64 (k : Int))) (.int .i64 (a : Int)) 2 j u hj
              rwa [show (wr.setCell ⟨g, a, none⟩ (.int .i64 (k : Int))).heap.size = wr.heap.size from by simp] at h
            case c2 => simp [Value.oneCell']
            case c3 => unfold maxLen; omega
            case c4 => omega
            case c5 => simp; omega
            intro v1 w1 hown1 hg1 _
            obtain ⟨g1, c1, rfl, hR'⟩ := hR.close hk1.out Hlast.out Hsp.out hown1 hg1
            clear hown1 hg1 hst
            go_wp2
            go_roundw
            case rel => exact ⟨k + 1, m, _, _, _, _, by omega, by go_num, rfl, rfl, hR'⟩
            case measure => simp [intOf]; omega
        | false =>
          have hk2 : Hid (ks[k]? = some 2) := by
            show _ = _
            rcases kind_in hc hd with h | h
            · rw [hkk.out, h]
            · omega
          clear hkk hb
          go_wp2_with (first
            | (go_at_call 52; refine (spec_call _ _).mono ?_; rintro e w' ⟨rfl, rfl⟩)
            | (go_at_call 51; refine (spec_return _ _).mono ?_; rintro e w' ⟨rfl, rfl⟩)
            | (at_builtin; refine wpList_append_own _ rfl _ _ 25 rfl w.heap.size 2 i0 (.int .i64 0) 1 8 Try.underlying25 hi hz0 hz1 hz2 rfl (by decide) _ _ _ rfl (hR.rowP.alloc _) ⟨wr.heap.size, 0, none⟩ 1 1 [.int .i64 (-1)] rfl rfl (cell_one_new _ _ _) ?c2 ?c3 ?c4 ?c5 ?_))
          case c2 => simp [Value.oneCell']
          case c3 => unfold maxLen; omega
          case c4 => omega
          case c5 => simp; omega
          intro v1 w1 hown1 hg1 _
          obtain ⟨g1, c1, rfl, hR'⟩ := hR.inner hk2.out hown1 hg1
          clear hown1 hg1
          go_wp2
          go_roundw
          case rel => exact ⟨k + 1, m, _, _, _, _, by omega, by go_num, rfl, rfl, hR'⟩
          case measure => simp [intOf]; omega
    · have e : k = s.size := by omega
      subst e
      have h1 := hR.rowP
      rw [List.take_of_length_le (by rw [Hkl.out]; exact Nat.le_refl _)] at h1
      go_wp2
      go_ret
      exact ⟨_, _, rfl, h1, hR.below⟩
end Go.Proofs.Ytnclhgaikglbgaa
/- What is pending is counted: l01Pending, l01Matched, IsMatched. -/
namespace Go.Proofs.Ytnclhgaikglbgaa
open Go.RowKit

/-! Plain mathematics: an inner place is never pending. -/
theorem opns_call (ks : List Nat) : ∀ a ∈ opns ks, ks[a]? = some 0 := by
  refine snoc_ind (p := fun ks => ∀ a ∈ opns ks, ks[a]? = some 0) ?_ (fun l k ih => ?_) ks
  · intro a h; simp [opns, pst] at h
  · intro a h
    have hlt := opns_lt l
    have keep : ∀ a ∈ opns l, (l ++ [k])[a]? = some 0 := fun a ha => by
      rw [List.getElem?_append_left (hlt a ha)]; exact ih a ha
    by_cases h0 : k = 0
    · subst h0
      rw [(prts_call l).2] at h
      rcases List.mem_append.1 h with h | h
      · exact keep a h
      · simp at h
        subst h
        simp
    · by_cases h1 : k = 1
      · subst h1
        cases hl : (opns l).getLast? with
        | none =>
          rw [(prts_ret_none l (List.getLast?_eq_none_iff.1 hl)).2] at h
          cases h
        | some b =>
          rw [(prts_ret_some l b hl).2] at h
          exact keep a (List.dropLast_subset _ h)
      · rw [(prts_inner l k h0 h1).2] at h
        exact keep a h

theorem prts_at_inner (ks : List Nat) : ∀ (i x : Nat), ks[i]? = some x → x ≠ 0 → x ≠ 1 → (prts ks)[i]? = some (-1) := by
  refine snoc_ind (p := fun ks => ∀ (i x : Nat), ks[i]? = some x → x ≠ 0 → x ≠ 1 → (prts ks)[i]? = some (-1)) ?_ (fun l k ih => ?_) ks
  · intro i x h; simp at h
  · intro i x hi hx0 hx1
    have hlen := prts_len l
    by_cases hil : i < l.length
    · rw [List.getElem?_append_left hil] at hi
      have hI := ih i x hi hx0 hx1
      by_cases h0 : k = 0
      · subst h0
        rw [(prts_call l).1, List.getElem?_append_left (by omega)]; exact hI
      · by_cases h1 : k = 1
        · subst h1
          cases hl : (opns l).getLast? with
          | none =>
            rw [(prts_ret_none l (List.getLast?_eq_none_iff.1 hl)).1, List.getElem?_append_left (by omega)]; exact hI
          | some b =>
            have hb := opns_call l b (List.mem_of_getLast? hl)
            have hne : b ≠ i := fun e => by subst e; rw [hb] at hi; exact hx0 (Option.some.inj hi).symm
            rw [(prts_ret_some l b hl).1, List.getElem?_append_left (by simp; omega), List.getElem?_set_ne hne]; exact hI
        · rw [(prts_inner l k h0 h1).1, List.getElem?_append_left (by omega)]; exact hI
    · have hie : i = l.length := by
        have := (List.getElem?_eq_some_iff.1 hi).1
        simp at this
        omega
      subst hie
      simp at hi
      subst hi
      rw [(prts_inner l k hx0 hx1).1, List.getElem?_append_right (by omega), hlen]
      simp

def cR (l : List UInt8) (ps : List Int) : Nat → Nat
  | 0 => 0
  | k + 1 => cR l ps k + if ps[k]? = some (-2) ∧ retB ((l[k]?.getD 0).toNat : Int) = true then 1 else 0
def cC (l : List UInt8) (ps : List Int) : Nat → Nat
  | 0 => 0
  | k + 1 => cC l ps k + if ps[k]? = some (-2) ∧ callB ((l[k]?.getD 0).toNat : Int) = true then 1 else 0

theorem call_kind {b : UInt8} (h : 0 ≤ symNo (b.toNat : Int)) : callB (b.toNat : Int) = callS (symNo (b.toNat : Int)) ∧ retB (b.toNat : Int) = retS (symNo (b.toNat : Int)) ∧
    (kindS (symNo (b.toNat : Int)) ≠ 2 → retB (b.toNat : Int) = !callB (b.toNat : Int)) := by
  have : b = 40 ∨ b = 91 ∨ b = 41 ∨ b = 93 ∨ b = 97 ∨ b = 98 := by
    unfold symNo at h
    have f (k : UInt8) (e : (b.toNat : Int) = k.toNat) : b = k := UInt8.toNat_inj.1 (by omega)
    by_cases h0 : (b.toNat : Int) = 40
    · exact .inl (f 40 h0)
    by_cases h1 : (b.toNat : Int) = 91
    · exact .inr (.inl (f 91 h1))
    by_cases h2 : (b.toNat : Int) = 41
    · exact .inr (.inr (.inl (f 41 h2)))
    by_cases h3 : (b.toNat : Int) = 93
    · exact .inr (.inr (.inr (.inl (f 93 h3))))
    by_cases h4 : (b.toNat : Int) = 97
    · exact .inr (.inr (.inr (.inr (.inl (f 97 h4)))))
    by_cases h5 : (b.toNat : Int) = 98
    · exact .inr (.inr (.inr (.inr (.inr (f 98 h5)))))
    rw [if_neg h0, if_neg h1, if_neg h2, if_neg h3, if_neg h4, if_neg h5] at h
    omega
  rcases this with rfl | rfl | rfl | rfl | rfl | rfl <;> decide

/-- What the iterator hands on, counted by the kind. -/
theorem pend_counts (l : List UInt8) (hall : AllSym l) (k : Nat) (hk : k ≤ l.length) :
    ((pend (symL l) (prts (ksOf l)) k).filter fun x => callS x.1.2).length = cC l (prts (ksOf l)) k ∧ ((pend (symL l) (prts (ksOf l)) k).filter fun x => !callS x.1.2).length = cR l (prts (ksOf l)) k := by
  induction k with
  | zero => exact ⟨rfl, rfl⟩
  | succ k ih =>
    have ih := ih (by omega)
    obtain ⟨b, hb⟩ : ∃ b, l[k]? = some b := ⟨_, List.getElem?_eq_getElem (by omega)⟩
    have hs := hall b (List.mem_of_getElem? hb)
    have hsy : (symL l)[k]?.getD 0 = symNo (b.toNat : Int) := by simp [symL, hb]
    have hlb : l[k]?.getD 0 = b := by rw [hb]; rfl
    have hkk := ksOf_at l k b hb
    obtain ⟨c1, c2, c3⟩ := call_kind hs
    by_cases hp : (prts (ksOf l))[k]? = some (-2)
    · have hk2 : kindS (symNo (b.toNat : Int)) ≠ 2 := fun e => by
        have := prts_at_inner (ksOf l) k 2 (by rw [hkk, e]) (by decide) (by decide)
        rw [hp] at this
        simp at this
      have c4 := c3 hk2
      rw [pend_yes hp (by rw [hsy]; exact ⟨hs, symNo_le _⟩), List.filter_append, List.filter_append, List.length_append, List.length_append, ih.1, ih.2, cC, cR, hlb]
      simp only [hsy, hp, true_and]
      rw [c4, c1]
      cases hcs : callS (symNo (b.toNat : Int)) <;> simp [hcs]
    · rw [pend_no hp, cC, cR, if_neg (fun h => hp h.1), if_neg (fun h => hp h.1)]
      exact ih

theorem pend_empty (l : List UInt8) (hall : AllSym l) (k : Nat) (hk : k ≤ l.length) :
    (pend (symL l) (prts (ksOf l)) k).isEmpty = decide (cR l (prts (ksOf l)) k + cC l (prts (ksOf l)) k = 0) := by
  have h := pend_counts l hall k hk
  have hs : (pend (symL l) (prts (ksOf l)) k).length = cC l (prts (ksOf l)) k + cR l (prts (ksOf l)) k := by
    rw [← h.1, ← h.2]
    generalize pend (symL l) (prts (ksOf l)) k = L
    clear h
    induction L with
    | nil => rfl
    | cons x L ih =>
      cases hx : callS x.1.2 <;> simp [hx, ih] <;> omega
  cases hL : pend (symL l) (prts (ksOf l)) k with
  | nil =>
    rw [hL] at hs
    simp only [List.length_nil] at hs
    exact (decide_eq_true (by omega)).symm
  | cons x L =>
    rw [hL] at hs
    simp only [List.length_cons] at hs
    exact (decide_eq_false (by omega)).symm

theorem syms_cell {w : World} {base g n c : Nat} {sy : List Int} (h : w.ownsRow base 58 1 (.slice (some ⟨g, 0, none⟩) n c) n (symsV sy)) : ∀ (j : Nat) (x : Int), sy[j]? = some x → w.cell? ⟨g, j, none⟩ = some (.int .u8 x) := by
  intro j x hx
  have hl := h.1
  simp [symsV] at hl
  have := (List.getElem?_eq_some_iff.1 hx).1
  rw [h.cellAt j (by omega)]
  simp [symsV, hx]
theorem nums_cell {w : World} {base g n c : Nat} {xs : List Int} (h : w.ownsRow base 2 1 (.slice (some ⟨g, 0, none⟩) n c) n (numsV xs)) : ∀ (j : Nat) (x : Int), xs[j]? = some x → w.cell? ⟨g, j, none⟩ = some (.int .i64 x) := by
  intro j x hx
  have hl := h.1
  simp [numsV] at hl
  have := (List.getElem?_eq_some_iff.1 hx).1
  rw [h.cellAt j (by omega)]
  simp [numsV, hx]

/-- isMatched at what readNested hands on. -/
theorem matched_read {s : ByteArray} {w w1 : World} {M : Nat} (h : IsW s) (hsy : w1.ownsRow w.heap.size 58 1 (.slice (some ⟨w.heap.size + 1 + 1, 0, none⟩) s.size s.size) s.size (symsV (symL s.data.toList)))
    (hps : w1.ownsRow w.heap.size 2 1 (.slice (some ⟨M, 0, none⟩) s.size s.size) s.size (numsV (prts (ksOf s.data.toList)))) {w2 : World} (hb : Below w1.heap.size w1 w2) :
    Calls Try.prog 38 #[.agg #[.slice (some ⟨w.heap.size + 1 + 1, 0, none⟩) s.size s.size, .slice (some ⟨M, 0, none⟩) s.size s.size]] w2
      (TupPost (.bool (decide (cR s.data.toList (prts (ksOf s.data.toList)) s.size + cC s.data.toList (prts (ksOf s.data.toList)) s.size = 0))) w2) := by
  have hl : s.data.toList.length = s.size := by simp
  rw [← pend_empty s.data.toList h.2 s.size (by rw [hl]; exact Nat.le_refl _)]
  have hsy2 := row_below hsy hb
  have hps2 := row_below hps hb
  exact impl_isMatched _ _ _ _ _ _ _ w2 h.1 (by rw [symL_len, hl]) (by rw [prts_len, ksOf_len, hl]) (hsy2.lt _ rfl).2 (hps2.lt _ rfl).2 (symL_ok h.2) (syms_cell hsy2) (nums_cell hps2)

theorem impl_IsMatched_yes (s : ByteArray) (w : World) (h : IsW s) :
    Calls Try.prog 17 #[.string s] w (TupPost (.tuple #[.bool (decide (cR s.data.toList (prts (ksOf s.data.toList)) s.size + cC s.data.toList (prts (ksOf s.data.toList)) s.size = 0)), .int .i64 0]) w) := by
  have hp := fun w => impl_read_yes s w h.1 h.2
  have hm := fun (w w1 : World) (M : Nat) hsy hps (w2 : World) hb => matched_read (w := w) (w1 := w1) (M := M) h hsy hps (w2 := w2) hb
  generalize decide (cR s.data.toList (prts (ksOf s.data.toList)) s.size + cC s.data.toList (prts (ksOf s.data.toList)) s.size = 0) = r at hm ⊢
  have Hp := Lib.hid hp
  have Hm := Lib.hid hm
  clear h hp hm
  go_enter Try.func17, Try.ntmps17
  go_wp2_with (first
    | (go_at_call 31; refine (Hp.out _).mono ?_; rintro e w1 ⟨M, rfl, hsy, hps, hb⟩)
    | (go_at_call 38; refine (Hm.out _ _ _ hsy hps _ ((Below.refl _ _).alloc (Nat.le_refl _) _)).mono ?_; rintro e w2 ⟨rfl, hb2⟩))
  go_ret2
  exact ⟨rfl, (hb.alloc hb.size _).trans (hb2.mono (by have := hb.size; simp; omega))⟩
theorem impl_IsMatched_no (s : ByteArray) (w : World) (hs : s.size ≤ 1048576) (h : ¬ IsW s) :
    Calls Try.prog 17 #[.string s] w (TupPost (.tuple #[.bool false, .int .i64 1]) w) := by
  have H := Lib.hid h
  clear h
  go_enter Try.func17, Try.ntmps17
  go_wp2_with (go_at_call 31; refine (impl_read_no _ _ hs H.out).mono ?_; rintro e w1 ⟨rfl, hb⟩)
  go_ret2
  exact ⟨rfl, hb.alloc hb.size _⟩
end Go.Proofs.Ytnclhgaikglbgaa
