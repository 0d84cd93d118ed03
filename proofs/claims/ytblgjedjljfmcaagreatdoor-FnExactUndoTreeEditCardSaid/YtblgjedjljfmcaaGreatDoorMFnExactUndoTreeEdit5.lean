import Derived.Test.YtblgjedjljfmcaaGreatDoorMFnExactUndoTreeEdit3
import Derived.RangeFuncNested
import Derived.RangeFuncBound
import Derived.RangeFuncCalls
import Derived.RangeFuncLeaves
import Derived.RangeFuncFrom
import Derived.Shelf.Abstract
import Derived.Shelf.RegionOpen
import Derived.OwnWalkIn
import Derived.TacticsInMore
import Derived.LoopNIn
import Derived.LoopIn
/- The pending places: the iterator pendingPlaces by its contract, and isMatched. -/
namespace Go.Proofs.YtblgjedjljfmcaaGreatDoor
open Go.RowKit Go.Shelf

attribute [local go_sem] Oper.semAt_some

/-- A place and its symbol's number. -/
abbrev PS : Type := { x : Int × Int // 0 ≤ x.2 ∧ x.2 ≤ 5 }
/-- What is pending among the first k places, in order. -/
def pend (sy ps : List Int) : Nat → List PS
  | 0 => []
  | k + 1 => pend sy ps k ++ (if h : ps[k]? = some (-2) ∧ 0 ≤ (sy[k]?.getD 0) ∧ (sy[k]?.getD 0) ≤ 5 then [⟨((k : Int), sy[k]?.getD 0), h.2⟩] else [])

theorem pend_yes {sy ps : List Int} {k : Nat} (h : ps[k]? = some (-2)) (h5 : 0 ≤ (sy[k]?.getD 0) ∧ (sy[k]?.getD 0) ≤ 5) : pend sy ps (k + 1) = pend sy ps k ++ [⟨((k : Int), sy[k]?.getD 0), h5⟩] := by
  rw [pend, dif_pos ⟨h, h5⟩]
theorem pend_no {sy ps : List Int} {k : Nat} (h : ps[k]? ≠ some (-2)) : pend sy ps (k + 1) = pend sy ps k := by
  rw [pend, dif_neg (fun h' => h h'.1), List.append_nil]
theorem pend_len (sy ps : List Int) (k : Nat) : (pend sy ps k).length ≤ k := by
  induction k with
  | zero => simp [pend]
  | succ k ih =>
    rw [pend, List.length_append]
    split <;> simp <;> omega
theorem pend_prefix (sy ps : List Int) (k m : Nat) : pend sy ps k <+: pend sy ps (k + m) := by
  induction m with
  | zero => exact List.prefix_refl _
  | succ m ih => exact ih.trans (by rw [← Nat.add_assoc, pend]; exact List.prefix_append _ _)

/-- What a round that goes on keeps: what lay below n₀, and the iterator's own box. -/
def KpB (n₀ Bs : Nat) (W W' : World) : Prop := Below n₀ W W' ∧ W'.heap[Bs]? = W.heap[Bs]?
theorem KpB.refl (n₀ Bs : Nat) (W : World) : KpB n₀ Bs W W := ⟨Below.refl _ _, rfl⟩
theorem kpB_t {n₀ Bs : Nat} {A B C : World} (h : KpB n₀ Bs A B) (k : KpB n₀ Bs B C) : KpB n₀ Bs A C := ⟨h.1.trans k.1, k.2.trans h.2⟩
theorem kpB_b {n₀ Bs : Nat} {w : World} (hn : n₀ ≤ w.heap.size) (hB : Bs < w.heap.size) (W : World) (l : Nat) (o o' : Obj) (hl : w.heap.size ≤ l) (h : W.heap[l]? = some o) (h1 : o.isCells = false) (h2 : o.isWalk = false) : KpB n₀ Bs W (W.putObj l o') :=
  ⟨belowK_b hn W l o o' hl h h1 h2, (grownBy_putObj' W l o').block Bs (by have := (Array.getElem?_eq_some_iff.1 h).1; omega) (by simp; omega)⟩

/-- The iterator's box and the rows to which it leads. -/
structure NestAt (W : World) (Bs g M N c c' : Nat) (sy ps : List Int) : Prop where
  b0 : W.cell? ⟨Bs, 0, none⟩ = some (.slice (some ⟨g, 0, none⟩) N c)
  b1 : W.cell? ⟨Bs, 1, none⟩ = some (.slice (some ⟨M, 0, none⟩) N c')
  cs : ∀ (j : Nat) (x : Int), sy[j]? = some x → W.cell? ⟨g, j, none⟩ = some (.int .u8 x)
  cp : ∀ (j : Nat) (x : Int), ps[j]? = some x → W.cell? ⟨M, j, none⟩ = some (.int .i64 x)
theorem NestAt.kept {W W' : World} {n₀ Bs g M N c c' : Nat} {sy ps : List Int} (h : NestAt W Bs g M N c c' sy ps) (hg : g < n₀) (hM : M < n₀) (hk : KpB n₀ Bs W W') : NestAt W' Bs g M N c c' sy ps :=
  ⟨(World.cell?_of_block (a := ⟨Bs, 0, none⟩) hk.2).trans h.b0, (World.cell?_of_block (a := ⟨Bs, 1, none⟩) hk.2).trans h.b1,
    fun j x hx => (hk.1.cell (p := ⟨g, j, none⟩) hg).trans (h.cs j x hx), fun j x hx => (hk.1.cell (p := ⟨M, j, none⟩) hM).trans (h.cp j x hx)⟩

set_option maxRecDepth 100000 in
set_option maxHeartbeats 2000000 in
theorem pend1_in (F : Fence) (n : Nat) (hf : F.fn 122) (hro : F.round = none) (hn : 1 ≤ n) (l Bs n₀ g M N c c' : Nat) (sy ps : List Int) (hN : N ≤ 60) (hsl : sy.length = N) (hpl : ps.length = N)
    (hg : g < n₀) (hM : M < n₀) (hok : ∀ x ∈ sy, 0 ≤ x ∧ x ≤ 5) (J Jx : List PS → World → Prop)
    (hY : ∀ pre (x : PS) W, J pre W → pre.length < N → YieldAt F (n - 1) Tryz.prog l #[.int .i64 x.1.1, .int .u8 x.1.2] W fun e W' =>
      (e = .returned (.bool true) ∧ J (pre ++ [x]) W' ∧ KpB n₀ Bs W W') ∨ (e = .returned (.bool false) ∧ Jx (pre ++ [x]) W'))
    (W : World) (hA : NestAt W Bs g M N c c' sy ps) (h0 : J [] W) :
    CallsIn F n Tryz.prog 122 #[.func (.yield l) #[] #[], .pointer (some ⟨Bs, 0, none⟩)] W fun e W' => (∃ v, e = .returned v) ∧
      ((∃ ys, ys = pend sy ps N ∧ J ys W') ∨ (∃ pre, (∃ k, k ≤ N ∧ pre = pend sy ps k ∧ pre ≠ []) ∧ Jx pre W')) := by
  have hb0 := hA.b0
  have Hsl := Lib.hid hsl
  have Hpl := Lib.hid hpl
  have Hok := Lib.hid hok
  clear hsl hpl hok
  refine callsIn_of_wp Tryz.func122 rfl hf ?_ hro
  simp only [Tryz.ntmps122, List.size_toArray, List.length_cons, List.length_nil, Nat.reduceAdd, Nat.reduceSub, Array.replicate_succ, Array.replicate_zero, List.push_toArray, List.append_toArray, List.nil_append, List.cons_append]
  gi_wp2
  gi_loopw [8] (fun i wr => ∃ k : Nat, k ≤ N ∧ i = .int .i64 k ∧ J (pend sy ps k) wr ∧ KpB n₀ Bs W wr)
    (fun i _ => N - (intOf i).toNat)
  case atStart => exact ⟨0, Nat.zero_le _, rfl, h0, KpB.refl _ _ _⟩
  case round =>
    obtain ⟨k, hk, rfl, hJs, hnx⟩ := hrel
    have hA' := hA.kept hg hM hnx
    by_cases hlt : k < N
    · have hs : Hid (sy[k]? = some (sy[k]?.getD 0)) := by
        show _ = _
        rw [List.getElem?_eq_getElem (by rw [Hsl.out]; exact hlt)]; rfl
      have hx5 := Hok.out _ (List.mem_of_getElem? hs.out)
      obtain ⟨p, hp⟩ : ∃ p, ps[k]? = some p := ⟨_, List.getElem?_eq_getElem (by rw [Hpl.out]; exact hlt)⟩
      have hcs := hA'.cs k _ hs.out
      have hcp := hA'.cp k _ hp
      have hb1 := hA'.b1
      by_cases h2 : p = -2
      · subst h2
        have hpl' := pend_len sy ps k
        obtain ⟨fn, tmps, assign, body, hy, hR⟩ := hY _ ⟨((k : Int), sy[k]?.getD 0), hx5⟩ wr hJs (by omega)
        have hpy := pend_yes hp hx5
        have Hpy := Lib.hid hpy
        have Hp := Lib.hid hp
        clear hpy hp
        dsimp only at hy
        gi_wp2
        refine hR.mono ?_
        rintro e W3 (⟨rfl, hJ3, hk3⟩ | ⟨rfl, hJx3⟩)
        · gi_wp2
          go_roundw
          case rel => exact ⟨k + 1, by omega, by go_num, by rw [Hpy.out]; exact hJ3, kpB_t hnx hk3⟩
          case measure => simp [intOf]; omega
        · gi_wp2
          refine bodyPost_ret (results_none rfl _ _ _) rfl ?_
          exact ⟨⟨_, rfl⟩, .inr ⟨_, ⟨k + 1, by omega, Hpy.out.symm, by simp⟩, hJx3⟩⟩
      · have hp2 : (p == -2) = false := by simpa using h2
        have hpn := pend_no (sy := sy) (ps := ps) (k := k) (by rw [hp]; simpa using h2)
        have Hpn := Lib.hid hpn
        have Hp := Lib.hid hp
        clear hpn hp h2
        gi_wp2
        refine ⟨fun _ h => (by cases h), ?_⟩
        gi_wp2
        go_roundw
        case rel => exact ⟨k + 1, by omega, by go_num, by rw [Hpn.out]; exact hJs, hnx⟩
        case measure => simp [intOf]; omega
    · obtain rfl : k = N := by omega
      gi_wp2
      go_end0
      exact ⟨⟨_, rfl⟩, .inl ⟨_, rfl, hJs⟩⟩

theorem pend_stops (F : Fence) (n : Nat) (hf : F.fn 122) (hro : F.round = none) (hn : 1 ≤ n) (Bs n₀ g M N c c' : Nat) (sy ps : List Int) (hN : N ≤ 60) (hsl : sy.length = N) (hpl : ps.length = N)
    (hg : g < n₀) (hM : M < n₀) (hok : ∀ x ∈ sy, 0 ≤ x ∧ x ≤ 5) (w : World) (hn₀ : n₀ ≤ w.heap.size) (hBs : Bs < w.heap.size) (hA : NestAt w Bs g M N c c' sy ps) :
    SeqStopsK F n Tryz.prog 122 #[.pointer (some ⟨Bs, 0, none⟩)] (fun x : PS => #[Value.int .i64 x.1.1, Value.int .u8 x.1.2]) (KpB n₀ Bs) (fun ys => ys = pend sy ps N)
      (fun pre => ∃ k, k ≤ N ∧ pre = pend sy ps k ∧ pre ≠ []) N w := fun l J Jx W hW _ _ hY h0 =>
  pend1_in F n hf hro hn l Bs n₀ g M N c c' sy ps hN hsl hpl hg hM hok J Jx hY W (hA.kept hg hM ⟨hW.mono hn₀, hW.block Bs hBs⟩) h0

theorem pendingPlaces_in (F : Fence) (n : Nat) (hf : F.fn 115) (hro : F.round = none) (v0 v1 : Value) (w : World) :
    CallsIn F n Tryz.prog 115 #[.agg #[v0, v1]] w fun e w' =>
      e = .returned (.func (.func 122) #[] #[.pointer (some ⟨w.heap.size, 0, none⟩)]) ∧ w' = w.alloc (.cells #[v0, v1] 94) := by
  refine callsIn_of_wp Tryz.func115 rfl hf ?_ hro
  simp only [Tryz.ntmps115, List.size_toArray, List.length_cons, List.length_nil, Nat.reduceAdd, Nat.reduceSub, Array.replicate_succ, Array.replicate_zero, List.push_toArray, List.append_toArray, List.nil_append, List.cons_append]
  gi_wp2
  go_ret
  exact ⟨rfl, rfl⟩

set_option maxRecDepth 100000 in
set_option maxHeartbeats 2000000 in
theorem impl_isMatched (g M N c c' : Nat) (sy ps : List Int) (w : World) (hN : N ≤ 60) (hsl : sy.length = N) (hpl : ps.length = N) (hg : g < w.heap.size) (hM : M < w.heap.size) (hok : ∀ x ∈ sy, 0 ≤ x ∧ x ≤ 5)
    (hcs : ∀ (j : Nat) (x : Int), sy[j]? = some x → w.cell? ⟨g, j, none⟩ = some (.int .u8 x)) (hcp : ∀ (j : Nat) (x : Int), ps[j]? = some x → w.cell? ⟨M, j, none⟩ = some (.int .i64 x)) :
    Calls Tryz.prog 92 #[.agg #[.slice (some ⟨g, 0, none⟩) N c, .slice (some ⟨M, 0, none⟩) N c']] w (TupPost (.bool (pend sy ps N).isEmpty) w) := by
  refine (callsIn_wide (n := 3)).1 ?_
  refine callsIn_of_wp_marks Tryz.func92 rfl trivial ?_ rfl
  simp only [Tryz.ntmps92, List.size_toArray, List.length_cons, List.length_nil, Nat.reduceAdd, Nat.reduceSub, Array.replicate_succ, Array.replicate_zero, List.push_toArray, List.append_toArray, List.nil_append, List.cons_append]
  gi_wp2_with (refine ⟨trivial, ?_⟩; gi_at_call 115; refine (pendingPlaces_in Fence.wide _ trivial rfl _ _ _).mono ?_; rintro e w' ⟨rfl, rfl⟩)
  have hb0 : Below w.heap.size w (((w.alloc (.cells #[.slice (some ⟨g, 0, none⟩) N c, .slice (some ⟨M, 0, none⟩) N c'] 94)).alloc (.cells #[.bool false] 4)).alloc (.cells #[.slice (some ⟨g, 0, none⟩) N c, .slice (some ⟨M, 0, none⟩) N c'] 94)) :=
    (((Below.refl _ w).alloc (Nat.le_refl _) _).alloc (by simp) _).alloc (by simp; omega) _
  have hA : NestAt (((w.alloc (.cells #[.slice (some ⟨g, 0, none⟩) N c, .slice (some ⟨M, 0, none⟩) N c'] 94)).alloc (.cells #[.bool false] 4)).alloc (.cells #[.slice (some ⟨g, 0, none⟩) N c, .slice (some ⟨M, 0, none⟩) N c'] 94))
      (w.heap.size + 1 + 1) g M N c c' sy ps :=
    ⟨by simp [go_sem], by simp [go_sem], fun j x hx => (hb0.cell (p := ⟨g, j, none⟩) hg).trans (hcs j x hx), fun j x hx => (hb0.cell (p := ⟨M, j, none⟩) hM).trans (hcp j x hx)⟩
  refine wpIn_rangeFunc_ownG rfl (by omega) (gf := 122) (lb := #[.pointer (some ⟨w.heap.size + 1 + 1, 0, none⟩)]) rfl trivial (enters_of Tryz.func122 (by kernel_rfl) rfl)
    (pend_stops Fence.wide _ trivial rfl (by omega) (w.heap.size + 1 + 1) w.heap.size g M N c c' sy ps hN hsl hpl hg hM hok _ (by simp; omega) (by simp) hA) kpB_t (kpB_b (by simp; omega) (by simp)) (Below.refl _ _) (fun _ => rfl)
    (fun pre W => (pre = [] ∧ W.cell? ⟨w.heap.size + 1, 0, none⟩ = some (.bool false) ∧ W.frozen? ⟨w.heap.size + 1, 0, none⟩ = false) ∧ Below w.heap.size w W)
    (fun c pre W => (c = .ret ∧ W.cell? ⟨w.heap.size + 1, 0, none⟩ = some (.bool false)) ∧ Below w.heap.size w W)
    (OwnFrom.and (Own.from (fun s A B row hs hg hr => ⟨hs.1, cell_kept hs.2.1 hg hr, (frozen_kept hs.2.1 hg hr).trans hs.2.2⟩) _) (ownFrom_below (Nat.le_refl _) (by simp; omega)))
    (fun c => OwnFrom.and (Own.from (fun s A B row hs hg hr => ⟨hs.1, cell_kept hs.2 hg hr⟩) _) (ownFrom_below (Nat.le_refl _) (by simp; omega)))
    ⟨⟨rfl, by simp [go_sem], by simp [go_sem]⟩, hb0⟩
    (fun x => { tmps := #[.agg #[.slice (some ⟨g, 0, none⟩) N c, .slice (some ⟨M, 0, none⟩) N c'], .pointer (some ⟨w.heap.size, 0, none⟩), .pointer (some ⟨w.heap.size + 1, 0, none⟩), .agg #[.slice (some ⟨g, 0, none⟩) N c, .slice (some ⟨M, 0, none⟩) N c'], .func (.func 122) #[] #[.pointer (some ⟨w.heap.size + 1 + 1, 0, none⟩)], .int .i64 x.1.1, .int .u8 x.1.2], defers := [] }) ?assign ?body ?done ?stop
  case assign =>
    intro l x W K hK
    gi_wp2
    simpa using hK
  case body =>
    rintro l pre x W ⟨⟨hp, hcr, hfr⟩, hB⟩ _
    gi_wp2
    exact ⟨(KeepsOthers.setCell _ _ _).from _, ⟨rfl, World.cell?_setCell_same' _ _ _ (by rw [hcr]; rfl)⟩, hB.setCell (p := ⟨w.heap.size + 1, 0, none⟩) (by simp) _⟩
  case done =>
    rintro D ys W hD rfl ⟨⟨hp, hcr, hfr⟩, hB⟩ hK
    have hr : (pend sy ps N).isEmpty = true := by rw [hp]; rfl
    have Hr := Lib.hid hr
    clear hp hr
    gi_wp2
    have hK' := (KeepsOthers.setCell W ⟨w.heap.size + 1, 0, none⟩ (.bool true)).same D _ hK rfl
    refine ⟨by simp, .inl ⟨_, _, rfl, run_takeDeferred hK', ?_⟩⟩
    have hc5 := cell_kept (World.cell?_setCell_same' W ⟨w.heap.size + 1, 0, none⟩ (.bool true) (by rw [hcr]; rfl)) (grownBy_putObj' _ D (.deferred none)) (fun r e => by cases e; exact ⟨_, hK', rfl⟩)
    refine ⟨.bool true, ?_, by rw [Hr.out], (hB.setCell (p := ⟨w.heap.size + 1, 0, none⟩) (by simp) _).trans (belowK_b (w := w) (Nat.le_refl _) _ D _ _ (by simp at hD; omega) hK' rfl rfl)⟩
    simp [results, Tryz.f92, go_sem, hc5]
  case stop =>
    rintro D c pre W hD ⟨k, hk, rfl, hne⟩ ⟨⟨rfl, hcr⟩, hB⟩ hK
    have hr : (pend sy ps N).isEmpty = false := by
      obtain ⟨m, rfl⟩ : ∃ m, N = k + m := ⟨N - k, by omega⟩
      obtain ⟨r, hr⟩ := pend_prefix sy ps k m
      rw [← hr]
      cases h : pend sy ps k with
      | nil => exact absurd h hne
      | cons a l => rfl
    have Hr := Lib.hid hr
    clear hr hne
    gi_wp2
    refine ⟨by simp, .inl ⟨_, _, rfl, run_takeDeferred hK, ?_⟩⟩
    have hc5 := cell_kept hcr (grownBy_putObj' _ D (.deferred none)) (fun r e => by cases e; exact ⟨_, hK, rfl⟩)
    refine ⟨.bool false, ?_, by rw [Hr.out], hB.trans (belowK_b (w := w) (Nat.le_refl _) W D _ _ (by simp at hD; omega) hK rfl rfl)⟩
    simp [results, Tryz.f92, go_sem, hc5]
end Go.Proofs.YtblgjedjljfmcaaGreatDoor
/- l01Partners returns the partners of a word's places. -/
namespace Go.Proofs.YtblgjedjljfmcaaGreatDoor
open Go.RowKit

theorem kind_call {n : Int} (h : callB n = true) : kindS (symNo n) = 0 := by
  simp only [callB, decide_eq_true_eq] at h
  rcases h with rfl | rfl <;> rfl
theorem kind_ret {n : Int} (h : retB n = true) : kindS (symNo n) = 1 := by
  simp only [retB, decide_eq_true_eq] at h
  rcases h with rfl | rfl <;> rfl
theorem kind_in {n : Int} (h : callB n = false) (h1 : retB n = false) : kindS (symNo n) = 2 ∨ symNo n < 0 := by
  simp only [callB, retB, decide_eq_false_iff_not] at h h1
  unfold symNo
  rw [if_neg (by omega), if_neg (by omega), if_neg (by omega), if_neg (by omega)]
  by_cases h4 : n = 97
  · rw [if_pos h4]; exact .inl rfl
  · rw [if_neg h4]
    by_cases h5 : n = 98
    · rw [if_pos h5]; exact .inl rfl
    · rw [if_neg h5]; exact .inr (by omega)

theorem ksOf_at (l : List UInt8) (k : Nat) (b : UInt8) (h : l[k]? = some b) : (ksOf l)[k]? = some (kindS (symNo b.toNat)) := by simp [ksOf, h]
theorem ksOf_len (l : List UInt8) : (ksOf l).length = l.length := by simp [ksOf]

theorem info_int : (Tryz.prog.info? 3).map (fun i => (i.zero, i.size, i.bytes)) = some (some (.int .i64 0), 1, 8) := by kernel_rfl

structure SRel (w : World) (ks : List Nat) (k m : Nat) (A : Option Addr) (c : Nat) (A' : Option Addr) (c' : Nat) (wr : World) : Prop where
  hm : (opns (ks.take k)).length = m
  rowP : wr.ownsRow w.heap.size 2 1 (.slice A k c) k (numsV (prts (ks.take k)))
  rowO : wr.ownsRow w.heap.size 3 1 (.slice A' m c') m (natsV (opns (ks.take k)))
  below : Below w.heap.size w wr

section
variable {w wr : World} {ks : List Nat} {k m : Nat} {A : Option Addr} {c : Nat} {A' : Option Addr} {c' : Nat}

theorem take_of {x : Nat} (h : ks[k]? = some x) : ks.take (k + 1) = ks.take k ++ [x] := by rw [List.take_add_one, h]; rfl
theorem len_of {x : Nat} (h : ks[k]? = some x) : (ks.take k).length = k := by
  have := (List.getElem?_eq_some_iff.1 h).1
  rw [List.length_take]; omega
theorem SRel.m_le {x : Nat} (h : SRel w ks k m A c A' c' wr) (hk : ks[k]? = some x) : m ≤ k := by
  have := opns_len (ks.take k)
  rw [h.hm, len_of hk] at this
  exact this

theorem SRel.grow {w1 : World} {v' : Value} {o : Obj} {x : Nat} {p : Int} (h : SRel w ks k m A c A' c' wr) (hk : ks[k]? = some x)
    (hp : prts (ks.take k ++ [x]) = prts (ks.take k) ++ [p]) (ho : opns (ks.take k ++ [x]) = opns (ks.take k))
    (hown : w1.ownsRow w.heap.size 2 1 v' (k + 1) (numsV (prts (ks.take k)) ++ [.int .i64 p])) (hg : (wr.alloc o).grownBy w1 (Value.slice A k c).ownBlock) :
    ∃ g1 c1, v' = .slice (some ⟨g1, 0, none⟩) (k + 1) c1 ∧ SRel w ks (k + 1) m (some ⟨g1, 0, none⟩) c1 A' c' w1 := by
  obtain ⟨g1, c1, rfl⟩ := ownsRow_succ hown
  refine ⟨g1, c1, rfl, ?_, ?_, ?_, ?_⟩
  · rw [take_of hk, ho]; exact h.hm
  · rw [take_of hk, hp]; simpa [numsV] using hown
  · rw [take_of hk, ho]; exact (h.rowO.alloc o).kept hg (rows_ne h.rowO h.rowP (by decide))
  · exact (h.below.alloc h.below.size o).grown hg (by have := h.below.size; simp; omega) (fun j e => (h.rowP.lt j e).1)

theorem SRel.inner {w1 : World} {v' : Value} {o : Obj} (h : SRel w ks k m A c A' c' wr) (hk : ks[k]? = some 2)
    (hown : w1.ownsRow w.heap.size 2 1 v' (k + 1) (numsV (prts (ks.take k)) ++ [.int .i64 (-1)])) (hg : (wr.alloc o).grownBy w1 (Value.slice A k c).ownBlock) :
    ∃ g1 c1, v' = .slice (some ⟨g1, 0, none⟩) (k + 1) c1 ∧ SRel w ks (k + 1) m (some ⟨g1, 0, none⟩) c1 A' c' w1 :=
  h.grow hk (prts_inner _ 2 (by decide) (by decide)).1 (prts_inner _ 2 (by decide) (by decide)).2 hown hg

theorem SRel.lone {w1 : World} {v' : Value} {o : Obj} (h : SRel w ks k 0 A c A' c' wr) (hk : ks[k]? = some 1)
    (hown : w1.ownsRow w.heap.size 2 1 v' (k + 1) (numsV (prts (ks.take k)) ++ [.int .i64 (-2)])) (hg : (wr.alloc o).grownBy w1 (Value.slice A k c).ownBlock) :
    ∃ g1 c1, v' = .slice (some ⟨g1, 0, none⟩) (k + 1) c1 ∧ SRel w ks (k + 1) 0 (some ⟨g1, 0, none⟩) c1 A' c' w1 := by
  have hz : opns (ks.take k) = [] := List.eq_nil_of_length_eq_zero h.hm
  exact h.grow hk (prts_ret_none _ hz).1 ((prts_ret_none _ hz).2.trans hz.symm) hown hg

/-- A call: what the second append needs of the first. -/
theorem SRel.keepO {w1 : World} {o o' : Obj} (h : SRel w ks k m A c A' c' wr) (hg : (wr.alloc o).grownBy w1 (Value.slice A k c).ownBlock) :
    (w1.alloc o').ownsRow w.heap.size 3 1 (.slice A' m c') m (natsV (opns (ks.take k))) :=
  ((h.rowO.alloc o).kept hg (rows_ne h.rowO h.rowP (by decide))).alloc o'

theorem SRel.open_ {w1 w2 : World} {v' v2 : Value} {o o' : Obj} (h : SRel w ks k m A c A' c' wr) (hk : ks[k]? = some 0)
    (hown : w1.ownsRow w.heap.size 2 1 v' (k + 1) (numsV (prts (ks.take k)) ++ [.int .i64 (-2)])) (hg : (wr.alloc o).grownBy w1 (Value.slice A k c).ownBlock)
    (hown2 : w2.ownsRow w.heap.size 3 1 v2 (m + 1) (natsV (opns (ks.take k)) ++ [.int .i64 (k : Int)])) (hg2 : (w1.alloc o').grownBy w2 (Value.slice A' m c').ownBlock) :
    ∃ g1 c1 g2 c2, v' = .slice (some ⟨g1, 0, none⟩) (k + 1) c1 ∧ v2 = .slice (some ⟨g2, 0, none⟩) (m + 1) c2 ∧ SRel w ks (k + 1) (m + 1) (some ⟨g1, 0, none⟩) c1 (some ⟨g2, 0, none⟩) c2 w2 := by
  obtain ⟨g1, c1, rfl⟩ := ownsRow_succ hown
  obtain ⟨g2, c2, rfl⟩ := ownsRow_succ hown2
  have p := prts_call (ks.take k)
  rw [len_of hk] at p
  have hb1 : Below w.heap.size w w1 := (h.below.alloc h.below.size o).grown hg (by have := h.below.size; simp; omega) (fun j e => (h.rowP.lt j e).1)
  have hO := (h.rowO.alloc o).kept hg (rows_ne h.rowO h.rowP (by decide))
  refine ⟨g1, c1, g2, c2, rfl, rfl, ?_, ?_, ?_, ?_⟩
  · rw [take_of hk, p.2]; simp [h.hm]
  · rw [take_of hk, p.1]
    have h1 := (hown.alloc o').kept hg2 (rows_ne hown hO (by decide))
    simpa [numsV] using h1
  · rw [take_of hk, p.2]; simpa [natsV] using hown2
  · exact (hb1.alloc hb1.size o').grown hg2 (by have := hb1.size; simp; omega) (fun j e => (h.rowO.lt j e).1)

/-- A return that matches. -/
theorem SRel.last (h : SRel w ks k (m + 1) A c A' c' wr) (hk : ks[k]? = some 1) :
    ∃ (g g' a : Nat) (u : Value), A = some ⟨g, 0, none⟩ ∧ A' = some ⟨g', 0, none⟩ ∧ a < k ∧ (opns (ks.take k)).getLast? = some a ∧ opns (ks.take k) = (opns (ks.take k)).dropLast ++ [a] ∧
      wr.cell? ⟨g', m, none⟩ = some (.int .i64 (a : Int)) ∧ wr.cell? ⟨g, a, none⟩ = some u ∧ wr.frozen? ⟨g, a, none⟩ = false ∧ m + 1 ≤ c' := by
  obtain ⟨g', cap', hv'⟩ := ownsRow_succ h.rowO
  simp only [Value.slice.injEq] at hv'
  obtain ⟨rfl, _, rfl⟩ := hv'
  have hne : opns (ks.take k) ≠ [] := fun e => by have := h.hm; rw [e] at this; simp at this
  have hg := List.getLast?_eq_some_getLast hne
  have hlt := opns_lt (ks.take k) _ (List.getLast_mem hne)
  rw [len_of hk] at hlt
  have hP := h.rowP
  obtain ⟨g, cap, hv⟩ : ∃ g cap, Value.slice A k c = .slice (some ⟨g, 0, none⟩) k cap := by
    rcases hP.2 with ⟨_, h1⟩ | ⟨g, cap, cur, hv, _⟩
    · omega
    · exact ⟨g, cap, hv⟩
  simp only [Value.slice.injEq] at hv
  obtain ⟨rfl, _, rfl⟩ := hv
  have hca := hP.cellAt ((opns (ks.take k)).getLast hne) (by omega)
  rw [List.getElem?_eq_getElem (by have := hP.1; omega)] at hca
  refine ⟨g, g', (opns (ks.take k)).getLast hne, _, rfl, rfl, hlt, hg, (List.dropLast_concat_getLast hne).symm, ?_, hca, hP.frozenAt _, ?_⟩
  · rw [h.rowO.cellAt m (by omega)]
    simp only [natsV, List.getElem?_map]
    rw [List.getLast?_eq_getElem?, h.hm] at hg
    simp only [Nat.add_sub_cancel] at hg
    rw [hg]
    rfl
  · rcases h.rowO.2 with ⟨h0, _⟩ | ⟨g', cap, cur, hv, _, _, hle, _⟩
    · cases h0
    · simp only [Value.slice.injEq] at hv
      omega

theorem SRel.stored {g g' a : Nat} (h : SRel w ks k (m + 1) (some ⟨g, 0, none⟩) c (some ⟨g', 0, none⟩) c' wr) :
    (wr.setCell ⟨g, a, none⟩ (.int .i64 (k : Int))).ownsRow w.heap.size 2 1 (.slice (some ⟨g, 0, none⟩) k c) k ((numsV (prts (ks.take k))).set a (.int .i64 (k : Int))) :=
  (h.rowP.stored a _).1

theorem SRel.close {w1 : World} {v' : Value} {o : Obj} {g g' a : Nat} (h : SRel w ks k (m + 1) (some ⟨g, 0, none⟩) c (some ⟨g', 0, none⟩) c' wr) (hk : ks[k]? = some 1)
    (hlast : (opns (ks.take k)).getLast? = some a) (hsp : opns (ks.take k) = (opns (ks.take k)).dropLast ++ [a])
    (hown : w1.ownsRow w.heap.size 2 1 v' (k + 1) ((numsV (prts (ks.take k))).set a (.int .i64 (k : Int)) ++ [.int .i64 (a : Int)]))
    (hg : ((wr.setCell ⟨g, a, none⟩ (.int .i64 (k : Int))).alloc o).grownBy w1 (some g)) :
    ∃ g1 c1, v' = .slice (some ⟨g1, 0, none⟩) (k + 1) c1 ∧ SRel w ks (k + 1) m (some ⟨g1, 0, none⟩) c1 (some ⟨g', 0, none⟩) c' w1 := by
  obtain ⟨g1, c1, rfl⟩ := ownsRow_succ hown
  have p := prts_ret_some (ks.take k) a hlast
  rw [len_of hk] at p
  have hm := h.hm
  have hne := rows_ne h.rowO h.rowP (by decide)
  have hgB := (h.rowP.lt g rfl).1
  have hne' : (Value.slice (some ⟨g', 0, none⟩) (m + 1) c').ownBlock ≠ some g := by
    rcases hne with hne | hne
    · simp [Value.ownBlock] at hne
    · exact hne
  refine ⟨g1, c1, rfl, ?_, ?_, ?_, ?_⟩
  · rw [take_of hk, p.2, List.length_dropLast, hm]; rfl
  · rw [take_of hk, p.1]; simpa [numsV, List.map_set] using hown
  · have r2 := h.rowO
    rw [hsp] at r2
    rw [take_of hk, p.2]
    have r3 := ownsRow_pop (size := 1) (n := m) (xs := natsV (opns (ks.take k)).dropLast) (last := [.int .i64 (a : Int)]) (by simp only [natsV, List.length_map, List.length_dropLast, hm]; omega) (by simpa [natsV] using r2)
    exact ((row_far r3 (a := ⟨g, a, none⟩) hne' _).alloc o).kept hg (.inr hne')
  · have hb := h.below.setCell (p := ⟨g, a, none⟩) hgB (.int .i64 (k : Int))
    exact (hb.alloc hb.size o).grown hg (by have := hb.size; simp at this ⊢; omega) (fun j e => by simp at e; omega)
end
end Go.Proofs.YtblgjedjljfmcaaGreatDoor
