import Derived.Test.YtnclhgaikglbgaaMFnPutAndCut4
import Derived.Test.YtnclhgaikglbgaaMFnPutAndCut8
import Derived.Test.YtnclhgaikglbgaaMFnPutAndCut3
import Derived.Laws.IdiomStrings
/- PartnersOf, of the model and of the program. -/
namespace Go.Proofs.Ytnclhgaikglbgaa
open Go.RowKit

theorem spec_PartnersOf_yes (s : ByteArray) (w : World) (h : IsW s) :
    Calls Try.prog 22 #[.string s] w (NumsPost s.size (prts (ksOf s.data.toList)) 0 w) := by
  have hp := fun w => spec_partners s w h
  have Hp := Lib.hid hp
  have H := Lib.hid h
  clear h hp
  go_enter Try.func22, Try.ntmps22
  go_wp2_with (first
    | (go_at_call 44; refine (spec_ok_yes _ _ H.out).mono ?_; rintro e w' ⟨rfl, rfl⟩)
    | (go_at_call 45; refine (Hp.out _).mono ?_; rintro e w1 ⟨A, c, rfl, hr, hb⟩))
  go_ret2
  exact ⟨A, c, rfl, hr, hb⟩
theorem spec_PartnersOf_no (s : ByteArray) (w : World) (hs : s.size ≤ 1048576) (h : ¬ IsW s) :
    Calls Try.prog 22 #[.string s] w (NumsPost 0 [] 1 w) := by
  have H := Lib.hid h
  clear h
  go_enter Try.func22, Try.ntmps22
  go_wp2_with (go_at_call 44; refine (spec_ok_no _ _ hs H.out).mono ?_; rintro e w' ⟨rfl, rfl⟩)
  go_ret2
  exact ⟨_, _, rfl, World.ownsRow_lit (base := w.heap.size) (e := 2) (size := 1) w #[] 0 (Nat.le_refl _) (by unfold maxLen; omega) rfl, (Below.refl _ _).alloc (Nat.le_refl _) _⟩

theorem impl_PartnersOf_yes (s : ByteArray) (w : World) (h : IsW s) :
    Calls Try.prog 14 #[.string s] w (NumsPost s.size (prts (ksOf s.data.toList)) 0 w) := by
  have hp := fun w => impl_read_yes s w h.1 h.2
  have Hp := Lib.hid hp
  clear h hp
  go_enter Try.func14, Try.ntmps14
  go_wp2_with (go_at_call 31; refine (Hp.out _).mono ?_; rintro e w1 ⟨M, rfl, _, hr, hb⟩)
  go_ret2
  exact ⟨_, _, rfl, hr.alloc _, hb.alloc hb.size _⟩
theorem impl_PartnersOf_no (s : ByteArray) (w : World) (hs : s.size ≤ 1048576) (h : ¬ IsW s) :
    Calls Try.prog 14 #[.string s] w (NumsPost 0 [] 1 w) := by
  have H := Lib.hid h
  clear h
  go_enter Try.func14, Try.ntmps14
  go_wp2_with (go_at_call 31; refine (impl_read_no _ _ hs H.out).mono ?_; rintro e w1 ⟨rfl, hb⟩)
  go_ret2
  exact ⟨_, _, rfl, World.ownsRow_nil _ _ _ _, hb.alloc hb.size _⟩

theorem both_PartnersOf (s : ByteArray) (hs : s.size ≤ 1048576) : ∃ (n : Nat) (xs : List Int) (code : Int), xs.length = n ∧ n ≤ 1048576 ∧
    (∀ w, Calls Try.prog 22 #[.string s] w (NumsPost n xs code w)) ∧ (∀ w, Calls Try.prog 14 #[.string s] w (NumsPost n xs code w)) := by
  by_cases h : IsW s
  · exact ⟨_, _, _, by rw [prts_len, ksOf_len]; simp, hs, fun w => spec_PartnersOf_yes s w h, fun w => impl_PartnersOf_yes s w h⟩
  · exact ⟨0, [], 1, rfl, by omega, fun w => spec_PartnersOf_no s w hs h, fun w => impl_PartnersOf_no s w hs h⟩
end Go.Proofs.Ytnclhgaikglbgaa
/- PendingOf, of the model and of the program. -/
namespace Go.Proofs.Ytnclhgaikglbgaa
open Go.RowKit Go.Shelf

attribute [local go_sem] Oper.semAt_some

theorem impl_PendingOf_no (s : ByteArray) (w : World) (hs : s.size ≤ 1048576) (h : ¬ IsW s) :
    Calls Try.prog 11 #[.string s] w (TupPost (.tuple #[.int .i64 0, .int .i64 0, .int .i64 1]) w) := by
  have H := Lib.hid h
  clear h
  go_enter Try.func11, Try.ntmps11
  go_wp2_with (go_at_call 31; refine (impl_read_no _ _ hs H.out).mono ?_; rintro e w1 ⟨rfl, hb⟩)
  go_ret3
  exact ⟨rfl, hb.alloc hb.size _⟩

set_option maxRecDepth 100000 in
set_option maxHeartbeats 2000000 in
theorem impl_PendingOf_yes (s : ByteArray) (w : World) (h : IsW s) :
    Calls Try.prog 11 #[.string s] w
      (TupPost (.tuple #[.int .i64 ((pend (symL s.data.toList) (prts (ksOf s.data.toList)) s.size).filter fun x => !callS x.1.2).length, .int .i64 ((pend (symL s.data.toList) (prts (ksOf s.data.toList)) s.size).filter fun x => callS x.1.2).length, .int .i64 0]) w) := by
  have hp := fun w => impl_read_yes s w h.1 h.2
  have h60 := h.1
  have hall := h.2
  obtain ⟨l, hl⟩ : ∃ l, l = s.data.toList := ⟨_, rfl⟩
  have hlen : l.length = s.size := by rw [hl]; simp
  rw [← hl] at hp hall ⊢
  have Hp := Lib.hid hp
  have Hlen := Lib.hid hlen
  have Hall := Lib.hid hall
  clear h hp hl hlen hall
  refine (callsIn_wide (n := 4)).1 ?_
  refine callsIn_of_wp_marks Try.func11 rfl trivial ?_ rfl
  simp only [Try.ntmps11, List.size_toArray, List.length_cons, List.length_nil, Nat.reduceAdd, Nat.reduceSub, Array.replicate_succ, Array.replicate_zero, List.push_toArray, List.append_toArray, List.nil_append, List.cons_append]
  gi_wp2_with (first
    | (refine ⟨trivial, ?_⟩; gi_at_call 31; refine (callsIn_wide.2 (Hp.out _)).mono ?_; rintro e w1 ⟨M, rfl, hsy, hps, hb⟩)
    | (refine ⟨trivial, ?_⟩; gi_at_call 34; refine (pendingPlaces_in Fence.wide _ trivial rfl _ _ _).mono ?_; rintro e w' ⟨rfl, rfl⟩))
  have hb0 : Below w1.heap.size w1 ((((w1.alloc (.cells #[.slice (some ⟨w.heap.size + 1 + 1, 0, none⟩) s.size s.size, .slice (some ⟨M, 0, none⟩) s.size s.size] 50)).alloc (.cells #[.int .i64 0] 2)).alloc (.cells #[.int .i64 0] 2)).alloc (.cells #[.slice (some ⟨w.heap.size + 1 + 1, 0, none⟩) s.size s.size, .slice (some ⟨M, 0, none⟩) s.size s.size] 50)) := ((((Below.refl _ w1).alloc (Nat.le_refl _) _).alloc (by simp) _).alloc (by simp; omega) _).alloc (by simp; omega) _
  have hsyl : (symL l).length = s.size := by rw [symL_len, Hlen.out]
  have hpsl : (prts (ksOf l)).length = s.size := by rw [prts_len, ksOf_len, Hlen.out]
  have hA : NestAt ((((w1.alloc (.cells #[.slice (some ⟨w.heap.size + 1 + 1, 0, none⟩) s.size s.size, .slice (some ⟨M, 0, none⟩) s.size s.size] 50)).alloc (.cells #[.int .i64 0] 2)).alloc (.cells #[.int .i64 0] 2)).alloc (.cells #[.slice (some ⟨w.heap.size + 1 + 1, 0, none⟩) s.size s.size, .slice (some ⟨M, 0, none⟩) s.size s.size] 50)) (w1.heap.size + 1 + 1 + 1) (w.heap.size + 1 + 1) M s.size s.size s.size (symL l) (prts (ksOf l)) :=
    ⟨by simp [go_sem], by simp [go_sem], syms_cell (row_below hsy hb0), nums_cell (row_below hps hb0)⟩
  refine wpIn_rangeFunc_ownG rfl (by omega) (gf := 57) (lb := #[.pointer (some ⟨w1.heap.size + 1 + 1 + 1, 0, none⟩)]) rfl trivial (enters_of Try.func57 (by kernel_rfl) rfl)
    (pend_stops Fence.wide _ trivial rfl (by omega) (w1.heap.size + 1 + 1 + 1) w1.heap.size (w.heap.size + 1 + 1) M s.size s.size s.size (symL l) (prts (ksOf l)) h60 hsyl hpsl (hsy.lt _ rfl).2 (hps.lt _ rfl).2 (symL_ok Hall.out) _ (by simp; omega) (by simp) hA) kpB_t (kpB_b (by simp; omega) (by simp)) (Below.refl _ _) (fun _ => rfl)
    (fun pre W => (W.cell? ⟨w1.heap.size + 1, 0, none⟩ = some (.int .i64 (pre.filter fun x => !callS x.1.2).length) ∧ W.frozen? ⟨w1.heap.size + 1, 0, none⟩ = false ∧ W.cell? ⟨w1.heap.size + 1 + 1, 0, none⟩ = some (.int .i64 (pre.filter fun x => callS x.1.2).length) ∧ W.frozen? ⟨w1.heap.size + 1 + 1, 0, none⟩ = false) ∧ Below w1.heap.size w1 W)
    (fun _ _ _ => False)
    (OwnFrom.and (Own.from (fun s A B row hs hg hr => ⟨cell_kept hs.1 hg hr, (frozen_kept hs.1 hg hr).trans hs.2.1, cell_kept hs.2.2.1 hg hr, (frozen_kept hs.2.2.1 hg hr).trans hs.2.2.2⟩) _) (ownFrom_below (Nat.le_refl _) (by simp; omega)))
    (fun _ _ _ _ _ hs _ _ => hs)
    ⟨⟨by simp [go_sem], by simp [go_sem], by simp [go_sem], by simp [go_sem]⟩, hb0⟩
    (fun x => { tmps := #[.string s, undef, .int .i64 0, .int .i64 0, .int .i64 0, .pointer (some ⟨w1.heap.size, 0, none⟩), .bool true, .pointer (some ⟨w1.heap.size + 1, 0, none⟩), .pointer (some ⟨w1.heap.size + 1 + 1, 0, none⟩), undef, .int .u8 x.1.2, .tuple #[.agg #[.slice (some ⟨w.heap.size + 1 + 1, 0, none⟩) s.size s.size, .slice (some ⟨M, 0, none⟩) s.size s.size], .bool true], .string s, .tuple #[.agg #[.slice (some ⟨w.heap.size + 1 + 1, 0, none⟩) s.size s.size, .slice (some ⟨M, 0, none⟩) s.size s.size], .bool true], .agg #[.slice (some ⟨w.heap.size + 1 + 1, 0, none⟩) s.size s.size, .slice (some ⟨M, 0, none⟩) s.size s.size], .bool true, .bool true, .bool false, .agg #[.slice (some ⟨w.heap.size + 1 + 1, 0, none⟩) s.size s.size, .slice (some ⟨M, 0, none⟩) s.size s.size], .func (.func 57) #[] #[.pointer (some ⟨w1.heap.size + 1 + 1 + 1, 0, none⟩)], .int .i64 x.1.1, .int .u8 x.1.2, undef, undef, undef, undef, undef, undef, undef, undef], defers := [] }) ?assign ?body ?done ?stop
  case assign =>
    intro l x W K hK
    gi_wp2
    exact hK
  case body =>
    rintro l' pre x W ⟨⟨hc1, hf1, hc2, hf2⟩, hB⟩ hlt
    have b1 : (pre.filter fun x => !callS x.1.2).length ≤ pre.length := List.length_filter_le _ _
    have b2 : (pre.filter fun x => callS x.1.2).length ≤ pre.length := List.length_filter_le _ _
    obtain ⟨r, hr⟩ : ∃ r, r = (pre.filter fun x => !callS x.1.2).length := ⟨_, rfl⟩
    obtain ⟨q, hq⟩ : ∃ q, q = (pre.filter fun x => callS x.1.2).length := ⟨_, rfl⟩
    rw [← hr] at hc1 b1
    rw [← hq] at hc2 b2
    have Hr := Lib.hid hr
    have Hq := Lib.hid hq
    have hr60 : r ≤ 60 := by omega
    have hq60 : q ≤ 60 := by omega
    clear hr hq b1 b2 hlt
    cases hcs : callS x.1.2 with
    | true =>
      gi_wp2_with (refine ⟨trivial, ?_⟩; gi_at_call 35; refine (CallsIn.inRound l' (callsIn_wide.2 (impl_isCall _ _))).mono ?_; rintro e w' ⟨rfl, rfl⟩)
      have e1 : ((pre ++ [x]).filter fun x => !callS x.1.2).length = r := by rw [List.filter_append, List.length_append, ← Hr.out]; simp [hcs]
      have e2 : ((pre ++ [x]).filter fun x => callS x.1.2).length = q + 1 := by rw [List.filter_append, List.length_append, ← Hq.out]; simp [hcs]
      refine ⟨(KeepsOthers.setCell _ _ _).from _, ⟨(Below.refl _ _).setCell (p := ⟨w1.heap.size + 1 + 1, 0, none⟩) (by simp; omega) _, Below.heap_setCell _ _ _ _ (by simp)⟩, ⟨⟨?_, ?_, ?_, ?_⟩, hB.setCell (p := ⟨w1.heap.size + 1 + 1, 0, none⟩) (by simp; omega) _⟩⟩
      · rw [e1]; exact (World.cell?_setCell_other _ _ _ _ (by simp)).trans hc1
      · rw [World.frozen?_setCell]; exact hf1
      · rw [e2]; exact World.cell?_setCell_same' _ _ _ (by rw [hc2]; rfl)
      · rw [World.frozen?_setCell]; exact hf2
    | false =>
      gi_wp2_with (refine ⟨trivial, ?_⟩; gi_at_call 35; refine (CallsIn.inRound l' (callsIn_wide.2 (impl_isCall _ _))).mono ?_; rintro e w' ⟨rfl, rfl⟩)
      have e1 : ((pre ++ [x]).filter fun x => !callS x.1.2).length = r + 1 := by rw [List.filter_append, List.length_append, ← Hr.out]; simp [hcs]
      have e2 : ((pre ++ [x]).filter fun x => callS x.1.2).length = q := by rw [List.filter_append, List.length_append, ← Hq.out]; simp [hcs]
      refine ⟨(KeepsOthers.setCell _ _ _).from _, ⟨(Below.refl _ _).setCell (p := ⟨w1.heap.size + 1, 0, none⟩) (by simp) _, Below.heap_setCell _ _ _ _ (by simp; omega)⟩, ⟨⟨?_, ?_, ?_, ?_⟩, hB.setCell (p := ⟨w1.heap.size + 1, 0, none⟩) (by simp) _⟩⟩
      · rw [e1]; exact World.cell?_setCell_same' _ _ _ (by rw [hc1]; rfl)
      · rw [World.frozen?_setCell]; exact hf1
      · rw [e2]; exact (World.cell?_setCell_other _ _ _ _ (by simp)).trans hc2
      · rw [World.frozen?_setCell]; exact hf2
  case done =>
    rintro D ys W hD rfl ⟨⟨hc1, hf1, hc2, hf2⟩, hB⟩ hK
    obtain ⟨r, hr⟩ : ∃ r, r = (List.filter (fun x : PS => !callS x.1.2) (pend (symL l) (prts (ksOf l)) s.size)).length := ⟨_, rfl⟩
    obtain ⟨q, hq⟩ : ∃ q, q = (List.filter (fun x : PS => callS x.1.2) (pend (symL l) (prts (ksOf l)) s.size)).length := ⟨_, rfl⟩
    rw [← hr] at hc1
    rw [← hq] at hc2
    have Hr := Lib.hid hr
    have Hq := Lib.hid hq
    clear hr hq
    gi_wp2
    gi_region
    all_goals gi_wp2
    all_goals
      refine ⟨by simp, .inl ⟨_, _, rfl, run_takeDeferred (w := W.drew) hK, ?_⟩⟩
      refine ⟨_, results_tmp3 rfl _ _ _, ?_, ?_⟩
      · show Ending.returned (.tuple #[.int .i64 (r : Int), .int .i64 (q : Int), .int .i64 0]) = _
        rw [Hr.out, Hq.out]
      · exact ((hb.trans (hB.mono hb.size)).drew).trans (belowK_b (w := w) (Nat.le_refl _) W.drew D _ _ (by have := hb.size; simp at hD; omega) hK rfl rfl)
  case stop =>
    rintro D c pre W _ _ h _
    exact h.elim

end Go.Proofs.Ytnclhgaikglbgaa
/- TurnWord, of the model and of the program. -/
namespace Go.Proofs.Ytnclhgaikglbgaa
open Go.RowKit

theorem valid_byte {b : UInt8} (h : 0 ≤ symNo (b.toNat : Int)) : b = 40 ∨ b = 91 ∨ b = 41 ∨ b = 93 ∨ b = 97 ∨ b = 98 := by
  unfold symNo at h
  have f (k : UInt8) (e : (b.toNat : Int) = k.toNat) : b = k := UInt8.toNat_inj.1 (by omega)
  by_cases h0 : (b.toNat : Int) = 40
  · exact .inl (f 40 h0)
  by_cases h1 : (b.toNat : Int) = 91
  · exact .inr (.inl (f 91 h1))
  by_cases h2 : (b.toNat : Int) = 41
  · exact .inr (.inr (.inl (f 41 h2)))
  by_cases h3 : (b.toNat : Int) = 93
  · exact .inr (.inr (.inr (.inl (f 93 h3))))
  by_cases h4 : (b.toNat : Int) = 97
  · exact .inr (.inr (.inr (.inr (.inl (f 97 h4)))))
  by_cases h5 : (b.toNat : Int) = 98
  · exact .inr (.inr (.inr (.inr (.inr (f 98 h5)))))
  rw [if_neg h0, if_neg h1, if_neg h2, if_neg h3, if_neg h4, if_neg h5] at h
  omega

def turnB (b : UInt8) : UInt8 := byteOf (turnS (symNo b.toNat))
theorem other_turn {b : UInt8} (h : 0 ≤ symNo (b.toNat : Int)) : otherB b.toNat = ((turnB b).toNat : Int) := by
  rcases valid_byte h with rfl | rfl | rfl | rfl | rfl | rfl <;> rfl
theorem turnS_ok {n : Int} (h : 0 ≤ n ∧ n ≤ 5) : 0 ≤ turnS n ∧ turnS n ≤ 5 := by
  rcases six n h with rfl | rfl | rfl | rfl | rfl | rfl <;> decide

def bytesV (l : List UInt8) : List Value := l.map fun b => Value.int .u8 (b.toNat : Int)
theorem info_u8 : (Try.prog.info? 5).map (fun i => (i.zero, i.size, i.bytes)) = some (some (.int .u8 0), 1, 1) := by kernel_rfl

theorem convert_row {w : World} {base g n c : Nat} {l : List UInt8} (h : w.ownsRow base 5 1 (.slice (some ⟨g, 0, none⟩) n c) n (bytesV l)) :
    (convert 22 9 (.slice (some ⟨g, 0, none⟩) n c)).run Try.prog w = .ok (.string ⟨l.toArray⟩) w := by
  have hl : l.length = n := by have := h.1; simpa [bytesV] using this
  subst hl
  refine run_convert_bytes_back w 22 9 5 ⟨g, 0, none⟩ c l Try.underlying22 Try.underlying5 Try.underlying9 fun j hj => ?_
  have h1 := h.cellAt j (by omega)
  have e : (⟨g, 0, none⟩ : Addr).add j = ⟨g, j, none⟩ := by unfold Addr.add; split <;> simp_all
  rw [e, h1]
  simp [bytesV, List.getElem?_eq_getElem hj]

theorem impl_TurnWord_no (s : ByteArray) (w : World) (hs : s.size ≤ 1048576) (h : ¬ IsW s) :
    Calls Try.prog 15 #[.string s] w (TupPost (.tuple #[.string ⟨#[]⟩, .int .i64 1]) w) := by
  have H := Lib.hid h
  clear h
  go_enter Try.func15, Try.ntmps15
  go_wp2_with (go_at_call 31; refine (impl_read_no _ _ hs H.out).mono ?_; rintro e w1 ⟨rfl, hb⟩)
  go_ret2
  exact ⟨rfl, hb.alloc hb.size _⟩

theorem symsV_at {w : World} {base g n c : Nat} {l : List UInt8} (h : w.ownsRow base 58 1 (.slice (some ⟨g, 0, none⟩) n c) n (symsV (symL l))) (k : Nat) (b : UInt8) (hb : l[k]? = some b) (hk : k < n) :
    w.cell? ⟨g, k, none⟩ = some (.int .u8 (symNo b.toNat)) := by
  rw [h.cellAt k (by omega)]
  simp [symsV, symL, hb]

set_option maxHeartbeats 1600000 in
set_option maxRecDepth 100000 in
theorem impl_TurnWord_yes (s : ByteArray) (w : World) (h : IsW s) :
    Calls Try.prog 15 #[.string s] w (TupPost (.tuple #[.string ⟨((s.data.toList.map turnB).reverse).toArray⟩, .int .i64 0]) w) := by
  have hp := fun w => impl_read_yes s w h.1 h.2
  have h60 := h.1
  have hall := h.2
  obtain ⟨l, hl⟩ : ∃ l, l = s.data.toList := ⟨_, rfl⟩
  have hlen : l.length = s.size := by rw [hl]; simp
  rw [← hl] at hp hall ⊢
  have Hp := Lib.hid hp
  have Hl := Lib.hid hl
  have Hlen := Lib.hid hlen
  have Hall := Lib.hid hall
  clear h hp hl hlen hall
  go_enter Try.func15, Try.ntmps15
  go_wp2_with (go_at_call 31; refine (Hp.out _).mono ?_; rintro e w1 ⟨M, rfl, hsy, _, hb⟩)
  have hsy2 := hsy.alloc (.cells #[.slice (some ⟨w.heap.size + 1 + 1, 0, none⟩) s.size s.size, .slice (some ⟨M, 0, none⟩) s.size s.size] 50)
  have hb2 := hb.alloc hb.size (.cells #[.slice (some ⟨w.heap.size + 1 + 1, 0, none⟩) s.size s.size, .slice (some ⟨M, 0, none⟩) s.size s.size] 50)
  clear hsy hb
  go_loop [6, 19] (fun v i => ∃ (k : Nat) (t : ByteArray), k ≤ s.size ∧ i = .int .i64 k ∧ v = .string t ∧ t.size ≤ k ∧ Hid (t.data.toList = ((l.take k).map turnB).reverse)) (fun _ i => s.size - (intOf i).toNat)
  case atStart => exact ⟨0, ⟨#[]⟩, Nat.zero_le _, rfl, rfl, Nat.le_refl _, rfl⟩
  case round =>
    obtain ⟨k, t, hk, rfl, rfl, htk, ht⟩ := hrel
    by_cases hlt : k < s.size
    · obtain ⟨b, hlb⟩ : ∃ b, l[k]? = some b := ⟨_, List.getElem?_eq_getElem (by rw [Hlen.out]; exact hlt)⟩
      have hx : 0 ≤ symNo (b.toNat : Int) ∧ symNo (b.toNat : Int) ≤ 5 := ⟨Hall.out _ (List.mem_of_getElem? hlb), symNo_le _⟩
      have hc := symsV_at hsy2 k b hlb hlt
      have Hlb := Lib.hid hlb
      clear hlb
      have ht60 : t.size ≤ 60 := by omega
      go_wp2_with (first
        | (go_at_call 36; refine (impl_turned _ _ hx).mono ?_; rintro e w' ⟨rfl, rfl⟩)
        | (go_at_call 37; refine (impl_text _ _ (turnS_ok hx)).mono ?_; rintro e w' ⟨rfl, rfl⟩))
      go_round
      case rel =>
        refine ⟨k + 1, ⟨#[byteOf (turnS (symNo b.toNat))]⟩ ++ t, by omega, by go_num, rfl, ?_, ?_⟩
        · rw [ByteArray.size_append]
          have : (ByteArray.mk #[byteOf (turnS (symNo b.toNat))]).size = 1 := rfl
          omega
        · show _ = _
          rw [List.take_add_one, Hlb.out, ByteArray.data_append, Array.toList_append, ht.out]
          simp [turnB]
      case measure => simp [intOf]; omega
    · have e : k = s.size := by omega
      subst e
      have e2 : t = ⟨((l.map turnB).reverse).toArray⟩ := by
        have h1 := ht.out
        rw [List.take_of_length_le (by rw [Hlen.out]; exact Nat.le_refl _)] at h1
        rw [← h1]
      subst e2
      clear ht htk
      go_wp2
      go_ret2
      exact ⟨rfl, hb2⟩

end Go.Proofs.Ytnclhgaikglbgaa
