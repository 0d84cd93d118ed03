/- PendingOf, of the model and of the program. -/
import Derived.Test.YtmkamodmnplclaaPending
namespace Go.Proofs.Ytmkamodmnplclaa
open Go.RowKit Go.Shelf

attribute [local go_sem] Oper.semAt_some

theorem impl_PendingOf_no (s : ByteArray) (w : World) (hs : s.size ≤ 1048576) (h : ¬ IsW s) :
    Calls Try.prog 149 #[.string s] w (TupPost (.tuple #[.int .i64 0, .int .i64 0, .int .i64 1]) w) := by
  have H := Lib.hid h
  clear h
  go_enter Try.func149, Try.ntmps149
  go_wp2_with (go_at_call 66; refine (impl_read_no _ _ hs H.out).mono ?_; rintro e w1 ⟨rfl, hb⟩)
  go_ret3
  exact ⟨rfl, hb.alloc hb.size _⟩

set_option maxRecDepth 100000 in
set_option maxHeartbeats 2000000 in
theorem impl_PendingOf_yes (s : ByteArray) (w : World) (h : IsW s) :
    Calls Try.prog 149 #[.string s] w
      (TupPost (.tuple #[.int .i64 ((pend (symL s.data.toList) (prts (ksOf s.data.toList)) s.size).filter fun x => !callS x.1.2).length, .int .i64 ((pend (symL s.data.toList) (prts (ksOf s.data.toList)) s.size).filter fun x => callS x.1.2).length, .int .i64 0]) w) := by
  have hp := fun w => impl_read_yes s w h.1 h.2
  have h60 := h.1
  have hall := h.2
  obtain ⟨l, hl⟩ : ∃ l, l = s.data.toList := ⟨_, rfl⟩
  have hlen : l.length = s.size := by rw [hl]; simp
  rw [← hl] at hp hall ⊢
  have Hp := Lib.hid hp
  have Hlen := Lib.hid hlen
  have Hall := Lib.hid hall
  clear h hp hl hlen hall
  refine (callsIn_wide (n := 4)).1 ?_
  refine callsIn_of_wp_marks Try.func149 rfl trivial ?_ rfl
  simp only [Try.ntmps149, List.size_toArray, List.length_cons, List.length_nil, Nat.reduceAdd, Nat.reduceSub, Array.replicate_succ, Array.replicate_zero, List.push_toArray, List.append_toArray, List.nil_append, List.cons_append]
  gi_wp2_with (first
    | (refine ⟨trivial, ?_⟩; gi_at_call 66; refine (callsIn_wide.2 (Hp.out _)).mono ?_; rintro e w1 ⟨M, rfl, hsy, hps, hb⟩)
    | (refine ⟨trivial, ?_⟩; gi_at_call 160; refine (pendingPlaces_in Fence.wide _ trivial rfl _ _ _).mono ?_; rintro e w' ⟨rfl, rfl⟩))
  have hb0 : Below w1.heap.size w1 ((((w1.alloc (.cells #[.slice (some ⟨w.heap.size + 1 + 1, 0, none⟩) s.size s.size, .slice (some ⟨M, 0, none⟩) s.size s.size] 97)).alloc (.cells #[.int .i64 0] 2)).alloc (.cells #[.int .i64 0] 2)).alloc (.cells #[.slice (some ⟨w.heap.size + 1 + 1, 0, none⟩) s.size s.size, .slice (some ⟨M, 0, none⟩) s.size s.size] 97)) := ((((Below.refl _ w1).alloc (Nat.le_refl _) _).alloc (by simp) _).alloc (by simp; omega) _).alloc (by simp; omega) _
  have hsyl : (symL l).length = s.size := by rw [symL_len, Hlen.out]
  have hpsl : (prts (ksOf l)).length = s.size := by rw [prts_len, ksOf_len, Hlen.out]
  have hA : NestAt ((((w1.alloc (.cells #[.slice (some ⟨w.heap.size + 1 + 1, 0, none⟩) s.size s.size, .slice (some ⟨M, 0, none⟩) s.size s.size] 97)).alloc (.cells #[.int .i64 0] 2)).alloc (.cells #[.int .i64 0] 2)).alloc (.cells #[.slice (some ⟨w.heap.size + 1 + 1, 0, none⟩) s.size s.size, .slice (some ⟨M, 0, none⟩) s.size s.size] 97)) (w1.heap.size + 1 + 1 + 1) (w.heap.size + 1 + 1) M s.size s.size s.size (symL l) (prts (ksOf l)) :=
    ⟨by simp [go_sem], by simp [go_sem], syms_cell (row_below hsy hb0), nums_cell (row_below hps hb0)⟩
  refine wpIn_rangeFunc_ownG rfl (by omega) (gf := 162) (lb := #[.pointer (some ⟨w1.heap.size + 1 + 1 + 1, 0, none⟩)]) rfl trivial (enters_of Try.func162 (by kernel_rfl) rfl)
    (pend_stops Fence.wide _ trivial rfl (by omega) (w1.heap.size + 1 + 1 + 1) w1.heap.size (w.heap.size + 1 + 1) M s.size s.size s.size (symL l) (prts (ksOf l)) h60 hsyl hpsl (hsy.lt _ rfl).2 (hps.lt _ rfl).2 (symL_ok Hall.out) _ (by simp; omega) (by simp) hA) kpB_t (kpB_b (by simp; omega) (by simp)) (Below.refl _ _) (fun _ => rfl)
    (fun pre W => (W.cell? ⟨w1.heap.size + 1, 0, none⟩ = some (.int .i64 (pre.filter fun x => !callS x.1.2).length) ∧ W.frozen? ⟨w1.heap.size + 1, 0, none⟩ = false ∧ W.cell? ⟨w1.heap.size + 1 + 1, 0, none⟩ = some (.int .i64 (pre.filter fun x => callS x.1.2).length) ∧ W.frozen? ⟨w1.heap.size + 1 + 1, 0, none⟩ = false) ∧ Below w1.heap.size w1 W)
    (fun _ _ _ => False)
    (OwnFrom.and (Own.from (fun s A B row hs hg hr => ⟨cell_kept hs.1 hg hr, (frozen_kept hs.1 hg hr).trans hs.2.1, cell_kept hs.2.2.1 hg hr, (frozen_kept hs.2.2.1 hg hr).trans hs.2.2.2⟩) _) (ownFrom_below (Nat.le_refl _) (by simp; omega)))
    (fun _ _ _ _ _ hs _ _ => hs)
    ⟨⟨by simp [go_sem], by simp [go_sem], by simp [go_sem], by simp [go_sem]⟩, hb0⟩
    (fun x => { tmps := #[.string s, undef, .int .i64 0, .int .i64 0, .int .i64 0, .pointer (some ⟨w1.heap.size, 0, none⟩), .bool true, .pointer (some ⟨w1.heap.size + 1, 0, none⟩), .pointer (some ⟨w1.heap.size + 1 + 1, 0, none⟩), undef, .int .u8 x.1.2, .tuple #[.agg #[.slice (some ⟨w.heap.size + 1 + 1, 0, none⟩) s.size s.size, .slice (some ⟨M, 0, none⟩) s.size s.size], .bool true], .string s, .tuple #[.agg #[.slice (some ⟨w.heap.size + 1 + 1, 0, none⟩) s.size s.size, .slice (some ⟨M, 0, none⟩) s.size s.size], .bool true], .agg #[.slice (some ⟨w.heap.size + 1 + 1, 0, none⟩) s.size s.size, .slice (some ⟨M, 0, none⟩) s.size s.size], .bool true, .bool true, .bool false, .agg #[.slice (some ⟨w.heap.size + 1 + 1, 0, none⟩) s.size s.size, .slice (some ⟨M, 0, none⟩) s.size s.size], .func (.func 162) #[] #[.pointer (some ⟨w1.heap.size + 1 + 1 + 1, 0, none⟩)], .int .i64 x.1.1, .int .u8 x.1.2, undef, undef, undef, undef, undef, undef, undef, undef], defers := [] }) ?assign ?body ?done ?stop
  case assign =>
    intro l x W K hK
    gi_wp2
    exact hK
  case body =>
    rintro l' pre x W ⟨⟨hc1, hf1, hc2, hf2⟩, hB⟩ hlt
    have b1 : (pre.filter fun x => !callS x.1.2).length ≤ pre.length := List.length_filter_le _ _
    have b2 : (pre.filter fun x => callS x.1.2).length ≤ pre.length := List.length_filter_le _ _
    obtain ⟨r, hr⟩ : ∃ r, r = (pre.filter fun x => !callS x.1.2).length := ⟨_, rfl⟩
    obtain ⟨q, hq⟩ : ∃ q, q = (pre.filter fun x => callS x.1.2).length := ⟨_, rfl⟩
    rw [← hr] at hc1 b1
    rw [← hq] at hc2 b2
    have Hr := Lib.hid hr
    have Hq := Lib.hid hq
    have hr60 : r ≤ 60 := by omega
    have hq60 : q ≤ 60 := by omega
    clear hr hq b1 b2 hlt
    cases hcs : callS x.1.2 with
    | true =>
      gi_wp2_with (refine ⟨trivial, ?_⟩; gi_at_call 106; refine (CallsIn.inRound l' (callsIn_wide.2 (impl_isCall _ _))).mono ?_; rintro e w' ⟨rfl, rfl⟩)
      have e1 : ((pre ++ [x]).filter fun x => !callS x.1.2).length = r := by rw [List.filter_append, List.length_append, ← Hr.out]; simp [hcs]
      have e2 : ((pre ++ [x]).filter fun x => callS x.1.2).length = q + 1 := by rw [List.filter_append, List.length_append, ← Hq.out]; simp [hcs]
      refine ⟨(KeepsOthers.setCell _ _ _).from _, ⟨(Below.refl _ _).setCell (p := ⟨w1.heap.size + 1 + 1, 0, none⟩) (by simp; omega) _, Below.heap_setCell _ _ _ _ (by simp)⟩, ⟨⟨?_, ?_, ?_, ?_⟩, hB.setCell (p := ⟨w1.heap.size + 1 + 1, 0, none⟩) (by simp; omega) _⟩⟩
      · rw [e1]; exact (World.cell?_setCell_other _ _ _ _ (by simp)).trans hc1
      · rw [World.frozen?_setCell]; exact hf1
      · rw [e2]; exact World.cell?_setCell_same' _ _ _ (by rw [hc2]; rfl)
      · rw [World.frozen?_setCell]; exact hf2
    | false =>
      gi_wp2_with (refine ⟨trivial, ?_⟩; gi_at_call 106; refine (CallsIn.inRound l' (callsIn_wide.2 (impl_isCall _ _))).mono ?_; rintro e w' ⟨rfl, rfl⟩)
      have e1 : ((pre ++ [x]).filter fun x => !callS x.1.2).length = r + 1 := by rw [List.filter_append, List.length_append, ← Hr.out]; simp [hcs]
      have e2 : ((pre ++ [x]).filter fun x => callS x.1.2).length = q := by rw [List.filter_append, List.length_append, ← Hq.out]; simp [hcs]
      refine ⟨(KeepsOthers.setCell _ _ _).from _, ⟨(Below.refl _ _).setCell (p := ⟨w1.heap.size + 1, 0, none⟩) (by simp) _, Below.heap_setCell _ _ _ _ (by simp; omega)⟩, ⟨⟨?_, ?_, ?_, ?_⟩, hB.setCell (p := ⟨w1.heap.size + 1, 0, none⟩) (by simp) _⟩⟩
      · rw [e1]; exact World.cell?_setCell_same' _ _ _ (by rw [hc1]; rfl)
      · rw [World.frozen?_setCell]; exact hf1
      · rw [e2]; exact (World.cell?_setCell_other _ _ _ _ (by simp)).trans hc2
      · rw [World.frozen?_setCell]; exact hf2
  case done =>
    rintro D ys W hD rfl ⟨⟨hc1, hf1, hc2, hf2⟩, hB⟩ hK
    obtain ⟨r, hr⟩ : ∃ r, r = (List.filter (fun x : PS => !callS x.1.2) (pend (symL l) (prts (ksOf l)) s.size)).length := ⟨_, rfl⟩
    obtain ⟨q, hq⟩ : ∃ q, q = (List.filter (fun x : PS => callS x.1.2) (pend (symL l) (prts (ksOf l)) s.size)).length := ⟨_, rfl⟩
    rw [← hr] at hc1
    rw [← hq] at hc2
    have Hr := Lib.hid hr
    have Hq := Lib.hid hq
    clear hr hq
    gi_wp2
    gi_region
    all_goals gi_wp2
    all_goals
      refine ⟨by simp, .inl ⟨_, _, rfl, run_takeDeferred (w := W.drew) hK, ?_⟩⟩
      refine ⟨_, results_tmp3 rfl _ _ _, ?_, ?_⟩
      · show Ending.returned (.tuple #[.int .i64 (r : Int), .int .i64 (q : Int), .int .i64 0]) = _
        rw [Hr.out, Hq.out]
      · exact ((hb.trans (hB.mono hb.size)).drew).trans (belowK_b (w := w) (Nat.le_refl _) W.drew D _ _ (by have := hb.size; simp at hD; omega) hK rfl rfl)
  case stop =>
    rintro D c pre W _ _ h _
    exact h.elim

end Go.Proofs.Ytmkamodmnplclaa
