/- The pending places: the iterator pendingPlaces by its contract, and isMatched. -/
import Derived.Test.YtcboalnpbmnfcaaWord
import Derived.RangeFuncNested
import Derived.RangeFuncBound
import Derived.RangeFuncCalls
import Derived.RangeFuncLeaves
import Derived.RangeFuncFrom
import Derived.Shelf.Abstract
import Derived.Shelf.RegionOpen
import Derived.OwnWalkIn
import Derived.TacticsInMore
import Derived.LoopNIn
import Derived.LoopIn
namespace Go.Proofs.Ytcboalnpbmnfcaa
open Go.RowKit Go.Shelf

attribute [local go_sem] Oper.semAt_some

/-- A place and its symbol's number. -/
abbrev PS : Type := { x : Int × Int // 0 ≤ x.2 ∧ x.2 ≤ 5 }
/-- What is pending among the first k places, in order. -/
def pend (sy ps : List Int) : Nat → List PS
  | 0 => []
  | k + 1 => pend sy ps k ++ (if h : ps[k]? = some (-2) ∧ 0 ≤ (sy[k]?.getD 0) ∧ (sy[k]?.getD 0) ≤ 5 then [⟨((k : Int), sy[k]?.getD 0), h.2⟩] else [])

theorem pend_yes {sy ps : List Int} {k : Nat} (h : ps[k]? = some (-2)) (h5 : 0 ≤ (sy[k]?.getD 0) ∧ (sy[k]?.getD 0) ≤ 5) : pend sy ps (k + 1) = pend sy ps k ++ [⟨((k : Int), sy[k]?.getD 0), h5⟩] := by
  rw [pend, dif_pos ⟨h, h5⟩]
theorem pend_no {sy ps : List Int} {k : Nat} (h : ps[k]? ≠ some (-2)) : pend sy ps (k + 1) = pend sy ps k := by
  rw [pend, dif_neg (fun h' => h h'.1), List.append_nil]
theorem pend_len (sy ps : List Int) (k : Nat) : (pend sy ps k).length ≤ k := by
  induction k with
  | zero => simp [pend]
  | succ k ih =>
    rw [pend, List.length_append]
    split <;> simp <;> omega
theorem pend_prefix (sy ps : List Int) (k m : Nat) : pend sy ps k <+: pend sy ps (k + m) := by
  induction m with
  | zero => exact List.prefix_refl _
  | succ m ih => exact ih.trans (by rw [← Nat.add_assoc, pend]; exact List.prefix_append _ _)

/-- What a round that goes on keeps: what lay below n₀, and the iterator's own box. -/
def KpB (n₀ Bs : Nat) (W W' : World) : Prop := Below n₀ W W' ∧ W'.heap[Bs]? = W.heap[Bs]?
theorem KpB.refl (n₀ Bs : Nat) (W : World) : KpB n₀ Bs W W := ⟨Below.refl _ _, rfl⟩
theorem kpB_t {n₀ Bs : Nat} {A B C : World} (h : KpB n₀ Bs A B) (k : KpB n₀ Bs B C) : KpB n₀ Bs A C := ⟨h.1.trans k.1, k.2.trans h.2⟩
theorem kpB_b {n₀ Bs : Nat} {w : World} (hn : n₀ ≤ w.heap.size) (hB : Bs < w.heap.size) (W : World) (l : Nat) (o o' : Obj) (hl : w.heap.size ≤ l) (h : W.heap[l]? = some o) (h1 : o.isCells = false) (h2 : o.isWalk = false) : KpB n₀ Bs W (W.putObj l o') :=
  ⟨belowK_b hn W l o o' hl h h1 h2, (grownBy_putObj' W l o').block Bs (by have := (Array.getElem?_eq_some_iff.1 h).1; omega) (by simp; omega)⟩

/-- The iterator's box and the rows to which it leads. -/
structure NestAt (W : World) (Bs g M N c c' : Nat) (sy ps : List Int) : Prop where
  b0 : W.cell? ⟨Bs, 0, none⟩ = some (.slice (some ⟨g, 0, none⟩) N c)
  b1 : W.cell? ⟨Bs, 1, none⟩ = some (.slice (some ⟨M, 0, none⟩) N c')
  cs : ∀ (j : Nat) (x : Int), sy[j]? = some x → W.cell? ⟨g, j, none⟩ = some (.int .u8 x)
  cp : ∀ (j : Nat) (x : Int), ps[j]? = some x → W.cell? ⟨M, j, none⟩ = some (.int .i64 x)
theorem NestAt.kept {W W' : World} {n₀ Bs g M N c c' : Nat} {sy ps : List Int} (h : NestAt W Bs g M N c c' sy ps) (hg : g < n₀) (hM : M < n₀) (hk : KpB n₀ Bs W W') : NestAt W' Bs g M N c c' sy ps :=
  ⟨(World.cell?_of_block (a := ⟨Bs, 0, none⟩) hk.2).trans h.b0, (World.cell?_of_block (a := ⟨Bs, 1, none⟩) hk.2).trans h.b1,
    fun j x hx => (hk.1.cell (p := ⟨g, j, none⟩) hg).trans (h.cs j x hx), fun j x hx => (hk.1.cell (p := ⟨M, j, none⟩) hM).trans (h.cp j x hx)⟩

set_option maxRecDepth 100000 in
set_option maxHeartbeats 2000000 in
theorem pend1_in (F : Fence) (n : Nat) (hf : F.fn 161) (hro : F.round = none) (hn : 1 ≤ n) (l Bs n₀ g M N c c' : Nat) (sy ps : List Int) (hN : N ≤ 60) (hsl : sy.length = N) (hpl : ps.length = N)
    (hg : g < n₀) (hM : M < n₀) (hok : ∀ x ∈ sy, 0 ≤ x ∧ x ≤ 5) (J Jx : List PS → World → Prop)
    (hY : ∀ pre (x : PS) W, J pre W → pre.length < N → YieldAt F (n - 1) Try.prog l #[.int .i64 x.1.1, .int .u8 x.1.2] W fun e W' =>
      (e = .returned (.bool true) ∧ J (pre ++ [x]) W' ∧ KpB n₀ Bs W W') ∨ (e = .returned (.bool false) ∧ Jx (pre ++ [x]) W'))
    (W : World) (hA : NestAt W Bs g M N c c' sy ps) (h0 : J [] W) :
    CallsIn F n Try.prog 161 #[.func (.yield l) #[] #[], .pointer (some ⟨Bs, 0, none⟩)] W fun e W' => (∃ v, e = .returned v) ∧
      ((∃ ys, ys = pend sy ps N ∧ J ys W') ∨ (∃ pre, (∃ k, k ≤ N ∧ pre = pend sy ps k ∧ pre ≠ []) ∧ Jx pre W')) := by
  have hb0 := hA.b0
  have Hsl := Lib.hid hsl
  have Hpl := Lib.hid hpl
  have Hok := Lib.hid hok
  clear hsl hpl hok
  refine callsIn_of_wp Try.func161 rfl hf ?_ hro
  simp only [Try.ntmps161, List.size_toArray, List.length_cons, List.length_nil, Nat.reduceAdd, Nat.reduceSub, Array.replicate_succ, Array.replicate_zero, List.push_toArray, List.append_toArray, List.nil_append, List.cons_append]
  gi_wp2
  gi_loopw [8] (fun i wr => ∃ k : Nat, k ≤ N ∧ i = .int .i64 k ∧ J (pend sy ps k) wr ∧ KpB n₀ Bs W wr)
    (fun i _ => N - (intOf i).toNat)
  case atStart => exact ⟨0, Nat.zero_le _, rfl, h0, KpB.refl _ _ _⟩
  case round =>
    obtain ⟨k, hk, rfl, hJs, hnx⟩ := hrel
    have hA' := hA.kept hg hM hnx
    by_cases hlt : k < N
    · have hs : Hid (sy[k]? = some (sy[k]?.getD 0)) := by
        show _ = _
        rw [List.getElem?_eq_getElem (by rw [Hsl.out]; exact hlt)]; rfl
      have hx5 := Hok.out _ (List.mem_of_getElem? hs.out)
      obtain ⟨p, hp⟩ : ∃ p, ps[k]? = some p := ⟨_, List.getElem?_eq_getElem (by rw [Hpl.out]; exact hlt)⟩
      have hcs := hA'.cs k _ hs.out
      have hcp := hA'.cp k _ hp
      have hb1 := hA'.b1
      by_cases h2 : p = -2
      · subst h2
        have hpl' := pend_len sy ps k
        obtain ⟨fn, tmps, assign, body, hy, hR⟩ := hY _ ⟨((k : Int), sy[k]?.getD 0), hx5⟩ wr hJs (by omega)
        have hpy := pend_yes hp hx5
        have Hpy := Lib.hid hpy
        have Hp := Lib.hid hp
        clear hpy hp
        dsimp only at hy
        gi_wp2
        refine hR.mono ?_
        rintro e W3 (⟨rfl, hJ3, hk3⟩ | ⟨rfl, hJx3⟩)
        · gi_wp2
          go_roundw
          case rel => exact ⟨k + 1, by omega, by go_num, by rw [Hpy.out]; exact hJ3, kpB_t hnx hk3⟩
          case measure => simp [intOf]; omega
        · gi_wp2
          refine bodyPost_ret (results_none rfl _ _ _) rfl ?_
          exact ⟨⟨_, rfl⟩, .inr ⟨_, ⟨k + 1, by omega, Hpy.out.symm, by simp⟩, hJx3⟩⟩
      · have hp2 : (p == -2) = false := by simpa using h2
        have hpn := pend_no (sy := sy) (ps := ps) (k := k) (by rw [hp]; simpa using h2)
        have Hpn := Lib.hid hpn
        have Hp := Lib.hid hp
        clear hpn hp h2
        gi_wp2
        refine ⟨fun _ h => (by cases h), ?_⟩
        gi_wp2
        go_roundw
        case rel => exact ⟨k + 1, by omega, by go_num, by rw [Hpn.out]; exact hJs, hnx⟩
        case measure => simp [intOf]; omega
    · obtain rfl : k = N := by omega
      gi_wp2
      go_end0
      exact ⟨⟨_, rfl⟩, .inl ⟨_, rfl, hJs⟩⟩

theorem pend_stops (F : Fence) (n : Nat) (hf : F.fn 161) (hro : F.round = none) (hn : 1 ≤ n) (Bs n₀ g M N c c' : Nat) (sy ps : List Int) (hN : N ≤ 60) (hsl : sy.length = N) (hpl : ps.length = N)
    (hg : g < n₀) (hM : M < n₀) (hok : ∀ x ∈ sy, 0 ≤ x ∧ x ≤ 5) (w : World) (hn₀ : n₀ ≤ w.heap.size) (hBs : Bs < w.heap.size) (hA : NestAt w Bs g M N c c' sy ps) :
    SeqStopsK F n Try.prog 161 #[.pointer (some ⟨Bs, 0, none⟩)] (fun x : PS => #[Value.int .i64 x.1.1, Value.int .u8 x.1.2]) (KpB n₀ Bs) (fun ys => ys = pend sy ps N)
      (fun pre => ∃ k, k ≤ N ∧ pre = pend sy ps k ∧ pre ≠ []) N w := fun l J Jx W hW _ _ hY h0 =>
  pend1_in F n hf hro hn l Bs n₀ g M N c c' sy ps hN hsl hpl hg hM hok J Jx hY W (hA.kept hg hM ⟨hW.mono hn₀, hW.block Bs hBs⟩) h0

theorem pendingPlaces_in (F : Fence) (n : Nat) (hf : F.fn 131) (hro : F.round = none) (v0 v1 : Value) (w : World) :
    CallsIn F n Try.prog 131 #[.agg #[v0, v1]] w fun e w' =>
      e = .returned (.func (.func 161) #[] #[.pointer (some ⟨w.heap.size, 0, none⟩)]) ∧ w' = w.alloc (.cells #[v0, v1] 88) := by
  refine callsIn_of_wp Try.func131 rfl hf ?_ hro
  simp only [Try.ntmps131, List.size_toArray, List.length_cons, List.length_nil, Nat.reduceAdd, Nat.reduceSub, Array.replicate_succ, Array.replicate_zero, List.push_toArray, List.append_toArray, List.nil_append, List.cons_append]
  gi_wp2
  go_ret
  exact ⟨rfl, rfl⟩

set_option maxRecDepth 100000 in
set_option maxHeartbeats 2000000 in
theorem impl_isMatched (g M N c c' : Nat) (sy ps : List Int) (w : World) (hN : N ≤ 60) (hsl : sy.length = N) (hpl : ps.length = N) (hg : g < w.heap.size) (hM : M < w.heap.size) (hok : ∀ x ∈ sy, 0 ≤ x ∧ x ≤ 5)
    (hcs : ∀ (j : Nat) (x : Int), sy[j]? = some x → w.cell? ⟨g, j, none⟩ = some (.int .u8 x)) (hcp : ∀ (j : Nat) (x : Int), ps[j]? = some x → w.cell? ⟨M, j, none⟩ = some (.int .i64 x)) :
    Calls Try.prog 61 #[.agg #[.slice (some ⟨g, 0, none⟩) N c, .slice (some ⟨M, 0, none⟩) N c']] w (TupPost (.bool (pend sy ps N).isEmpty) w) := by
  refine (callsIn_wide (n := 3)).1 ?_
  refine callsIn_of_wp_marks Try.func61 rfl trivial ?_ rfl
  simp only [Try.ntmps61, List.size_toArray, List.length_cons, List.length_nil, Nat.reduceAdd, Nat.reduceSub, Array.replicate_succ, Array.replicate_zero, List.push_toArray, List.append_toArray, List.nil_append, List.cons_append]
  gi_wp2_with (refine ⟨trivial, ?_⟩; gi_at_call 131; refine (pendingPlaces_in Fence.wide _ trivial rfl _ _ _).mono ?_; rintro e w' ⟨rfl, rfl⟩)
  have hb0 : Below w.heap.size w (((w.alloc (.cells #[.slice (some ⟨g, 0, none⟩) N c, .slice (some ⟨M, 0, none⟩) N c'] 88)).alloc (.cells #[.bool false] 4)).alloc (.cells #[.slice (some ⟨g, 0, none⟩) N c, .slice (some ⟨M, 0, none⟩) N c'] 88)) :=
    (((Below.refl _ w).alloc (Nat.le_refl _) _).alloc (by simp) _).alloc (by simp; omega) _
  have hA : NestAt (((w.alloc (.cells #[.slice (some ⟨g, 0, none⟩) N c, .slice (some ⟨M, 0, none⟩) N c'] 88)).alloc (.cells #[.bool false] 4)).alloc (.cells #[.slice (some ⟨g, 0, none⟩) N c, .slice (some ⟨M, 0, none⟩) N c'] 88))
      (w.heap.size + 1 + 1) g M N c c' sy ps :=
    ⟨by simp [go_sem], by simp [go_sem], fun j x hx => (hb0.cell (p := ⟨g, j, none⟩) hg).trans (hcs j x hx), fun j x hx => (hb0.cell (p := ⟨M, j, none⟩) hM).trans (hcp j x hx)⟩
  refine wpIn_rangeFunc_ownG rfl (by omega) (gf := 161) (lb := #[.pointer (some ⟨w.heap.size + 1 + 1, 0, none⟩)]) rfl trivial (enters_of Try.func161 (by kernel_rfl) rfl)
    (pend_stops Fence.wide _ trivial rfl (by omega) (w.heap.size + 1 + 1) w.heap.size g M N c c' sy ps hN hsl hpl hg hM hok _ (by simp; omega) (by simp) hA) kpB_t (kpB_b (by simp; omega) (by simp)) (Below.refl _ _) (fun _ => rfl)
    (fun pre W => (pre = [] ∧ W.cell? ⟨w.heap.size + 1, 0, none⟩ = some (.bool false) ∧ W.frozen? ⟨w.heap.size + 1, 0, none⟩ = false) ∧ Below w.heap.size w W)
    (fun c pre W => (c = .ret ∧ W.cell? ⟨w.heap.size + 1, 0, none⟩ = some (.bool false)) ∧ Below w.heap.size w W)
    (OwnFrom.and (Own.from (fun s A B row hs hg hr => ⟨hs.1, cell_kept hs.2.1 hg hr, (frozen_kept hs.2.1 hg hr).trans hs.2.2⟩) _) (ownFrom_below (Nat.le_refl _) (by simp; omega)))
    (fun c => OwnFrom.and (Own.from (fun s A B row hs hg hr => ⟨hs.1, cell_kept hs.2 hg hr⟩) _) (ownFrom_below (Nat.le_refl _) (by simp; omega)))
    ⟨⟨rfl, by simp [go_sem], by simp [go_sem]⟩, hb0⟩
    (fun x => { tmps := #[.agg #[.slice (some ⟨g, 0, none⟩) N c, .slice (some ⟨M, 0, none⟩) N c'], .pointer (some ⟨w.heap.size, 0, none⟩), .pointer (some ⟨w.heap.size + 1, 0, none⟩), .agg #[.slice (some ⟨g, 0, none⟩) N c, .slice (some ⟨M, 0, none⟩) N c'], .func (.func 161) #[] #[.pointer (some ⟨w.heap.size + 1 + 1, 0, none⟩)], .int .i64 x.1.1, .int .u8 x.1.2], defers := [] }) ?assign ?body ?done ?stop
  case assign =>
    intro l x W K hK
    gi_wp2
    simpa using hK
  case body =>
    rintro l pre x W ⟨⟨hp, hcr, hfr⟩, hB⟩ _
    gi_wp2
    exact ⟨(KeepsOthers.setCell _ _ _).from _, ⟨rfl, World.cell?_setCell_same' _ _ _ (by rw [hcr]; rfl)⟩, hB.setCell (p := ⟨w.heap.size + 1, 0, none⟩) (by simp) _⟩
  case done =>
    rintro D ys W hD rfl ⟨⟨hp, hcr, hfr⟩, hB⟩ hK
    have hr : (pend sy ps N).isEmpty = true := by rw [hp]; rfl
    have Hr := Lib.hid hr
    clear hp hr
    gi_wp2
    have hK' := (KeepsOthers.setCell W ⟨w.heap.size + 1, 0, none⟩ (.bool true)).same D _ hK rfl
    refine ⟨by simp, .inl ⟨_, _, rfl, run_takeDeferred hK', ?_⟩⟩
    have hc5 := cell_kept (World.cell?_setCell_same' W ⟨w.heap.size + 1, 0, none⟩ (.bool true) (by rw [hcr]; rfl)) (grownBy_putObj' _ D (.deferred none)) (fun r e => by cases e; exact ⟨_, hK', rfl⟩)
    refine ⟨.bool true, ?_, by rw [Hr.out], (hB.setCell (p := ⟨w.heap.size + 1, 0, none⟩) (by simp) _).trans (belowK_b (w := w) (Nat.le_refl _) _ D _ _ (by simp at hD; omega) hK' rfl rfl)⟩
    simp [results, Try.f61, go_sem, hc5]
  case stop =>
    rintro D c pre W hD ⟨k, hk, rfl, hne⟩ ⟨⟨rfl, hcr⟩, hB⟩ hK
    have hr : (pend sy ps N).isEmpty = false := by
      obtain ⟨m, rfl⟩ : ∃ m, N = k + m := ⟨N - k, by omega⟩
      obtain ⟨r, hr⟩ := pend_prefix sy ps k m
      rw [← hr]
      cases h : pend sy ps k with
      | nil => exact absurd h hne
      | cons a l => rfl
    have Hr := Lib.hid hr
    clear hr hne
    gi_wp2
    refine ⟨by simp, .inl ⟨_, _, rfl, run_takeDeferred hK, ?_⟩⟩
    have hc5 := cell_kept hcr (grownBy_putObj' _ D (.deferred none)) (fun r e => by cases e; exact ⟨_, hK, rfl⟩)
    refine ⟨.bool false, ?_, by rw [Hr.out], hB.trans (belowK_b (w := w) (Nat.le_refl _) W D _ _ (by simp at hD; omega) hK rfl rfl)⟩
    simp [results, Try.f61, go_sem, hc5]
end Go.Proofs.Ytcboalnpbmnfcaa
