/- CoreOf, of the model and of the program. -/
import Derived.Test.YtnclhgaikglbgaaPending
namespace Go.Proofs.Ytnclhgaikglbgaa
open Go.RowKit Go.Shelf

attribute [local go_sem] Oper.semAt_some

theorem byte_sym {b : UInt8} (h : 0 ≤ symNo (b.toNat : Int)) : byteOf (symNo (b.toNat : Int)) = b := by
  have f (k : UInt8) (e : (b.toNat : Int) = k.toNat) : b = k := UInt8.toNat_inj.1 (by omega)
  by_cases h0 : (b.toNat : Int) = 40
  · rw [f 40 h0]; rfl
  by_cases h1 : (b.toNat : Int) = 91
  · rw [f 91 h1]; rfl
  by_cases h2 : (b.toNat : Int) = 41
  · rw [f 41 h2]; rfl
  by_cases h3 : (b.toNat : Int) = 93
  · rw [f 93 h3]; rfl
  by_cases h4 : (b.toNat : Int) = 97
  · rw [f 97 h4]; rfl
  by_cases h5 : (b.toNat : Int) = 98
  · rw [f 98 h5]; rfl
  unfold symNo at h
  rw [if_neg h0, if_neg h1, if_neg h2, if_neg h3, if_neg h4, if_neg h5] at h
  omega

/-- The bytes of what is pending among the first k places. -/
def coreL (l : List UInt8) (ps : List Int) (k : Nat) : List UInt8 := (pend (symL l) ps k).map fun x => byteOf x.1.2
theorem coreL_yes {l : List UInt8} {ps : List Int} {k : Nat} {b : UInt8} (hp : ps[k]? = some (-2)) (hb : l[k]? = some b) (hs : 0 ≤ symNo (b.toNat : Int)) : coreL l ps (k + 1) = coreL l ps k ++ [b] := by
  have hsy : (symL l)[k]?.getD 0 = symNo (b.toNat : Int) := by simp [symL, hb]
  rw [coreL, pend_yes hp (by rw [hsy]; exact ⟨hs, symNo_le _⟩), List.map_append]
  simp [coreL, hsy, byte_sym hs]
theorem coreL_no {l : List UInt8} {ps : List Int} {k : Nat} (hp : ps[k]? ≠ some (-2)) : coreL l ps (k + 1) = coreL l ps k := by rw [coreL, pend_no hp]; rfl
theorem coreL_len (l : List UInt8) (ps : List Int) (k : Nat) : (coreL l ps k).length ≤ k := by rw [coreL, List.length_map]; exact pend_len _ _ _

theorem cut_one (s : ByteArray) (k : Nat) (h : k < s.size) : (s.extract k (k + 1)).data.toList = [s[k]] := by
  have h1 : (s.extract k (k + 1)).data.toList = (s.data.toList.drop k).take 1 := by simp [List.extract_eq_take_drop, ByteArray.data_extract]
  rw [h1, List.drop_eq_getElem_cons (by simpa using h)]
  rfl

theorem impl_CoreOf_no (s : ByteArray) (w : World) (hs : s.size ≤ 1048576) (h : ¬ IsW s) :
    Calls Try.prog 16 #[.string s] w (TupPost (.tuple #[.string ⟨#[]⟩, .int .i64 1]) w) := by
  have H := Lib.hid h
  clear h
  go_enter Try.func16, Try.ntmps16
  go_wp2_with (go_at_call 31; refine (impl_read_no _ _ hs H.out).mono ?_; rintro e w1 ⟨rfl, hb⟩)
  go_ret2
  exact ⟨rfl, hb.alloc hb.size _⟩

set_option maxRecDepth 100000 in
set_option maxHeartbeats 2000000 in
theorem impl_CoreOf_yes (s : ByteArray) (w : World) (h : IsW s) :
    Calls Try.prog 16 #[.string s] w (TupPost (.tuple #[.string ⟨(coreL s.data.toList (prts (ksOf s.data.toList)) s.size).toArray⟩, .int .i64 0]) w) := by
  have hp := fun w => impl_read_yes s w h.1 h.2
  have h60 := h.1
  have hall := h.2
  obtain ⟨l, hl⟩ : ∃ l, l = s.data.toList := ⟨_, rfl⟩
  have hlen : l.length = s.size := by rw [hl]; simp
  rw [← hl] at hp hall ⊢
  have Hp := Lib.hid hp
  have Hlen := Lib.hid hlen
  have Hall := Lib.hid hall
  clear h hp hl hlen hall
  refine (callsIn_wide (n := 4)).1 ?_
  refine callsIn_of_wp_marks Try.func16 rfl trivial ?_ rfl
  simp only [Try.ntmps16, List.size_toArray, List.length_cons, List.length_nil, Nat.reduceAdd, Nat.reduceSub, Array.replicate_succ, Array.replicate_zero, List.push_toArray, List.append_toArray, List.nil_append, List.cons_append]
  gi_wp2_with (first
    | (refine ⟨trivial, ?_⟩; gi_at_call 31; refine (callsIn_wide.2 (Hp.out _)).mono ?_; rintro e w1 ⟨M, rfl, hsy, hps, hb⟩)
    | (refine ⟨trivial, ?_⟩; gi_at_call 34; refine (pendingPlaces_in Fence.wide _ trivial rfl _ _ _).mono ?_; rintro e w' ⟨rfl, rfl⟩))
  have hb0 : Below w1.heap.size w1 (((w1.alloc (.cells #[.slice (some ⟨w.heap.size + 1 + 1, 0, none⟩) s.size s.size, .slice (some ⟨M, 0, none⟩) s.size s.size] 50)).alloc (.cells #[.string ⟨#[]⟩] 9)).alloc (.cells #[.slice (some ⟨w.heap.size + 1 + 1, 0, none⟩) s.size s.size, .slice (some ⟨M, 0, none⟩) s.size s.size] 50)) := (((Below.refl _ w1).alloc (Nat.le_refl _) _).alloc (by simp) _).alloc (by simp; omega) _
  have hsyl : (symL l).length = s.size := by rw [symL_len, Hlen.out]
  have hpsl : (prts (ksOf l)).length = s.size := by rw [prts_len, ksOf_len, Hlen.out]
  have hA : NestAt (((w1.alloc (.cells #[.slice (some ⟨w.heap.size + 1 + 1, 0, none⟩) s.size s.size, .slice (some ⟨M, 0, none⟩) s.size s.size] 50)).alloc (.cells #[.string ⟨#[]⟩] 9)).alloc (.cells #[.slice (some ⟨w.heap.size + 1 + 1, 0, none⟩) s.size s.size, .slice (some ⟨M, 0, none⟩) s.size s.size] 50)) (w1.heap.size + 1 + 1) (w.heap.size + 1 + 1) M s.size s.size s.size (symL l) (prts (ksOf l)) :=
    ⟨by simp [go_sem], by simp [go_sem], syms_cell (row_below hsy hb0), nums_cell (row_below hps hb0)⟩
  refine wpIn_rangeFunc_ownG rfl (by omega) (gf := 57) (lb := #[.pointer (some ⟨w1.heap.size + 1 + 1, 0, none⟩)]) rfl trivial (enters_of Try.func57 (by kernel_rfl) rfl)
    (pend_stops Fence.wide _ trivial rfl (by omega) (w1.heap.size + 1 + 1) w1.heap.size (w.heap.size + 1 + 1) M s.size s.size s.size (symL l) (prts (ksOf l)) h60 hsyl hpsl (hsy.lt _ rfl).2 (hps.lt _ rfl).2 (symL_ok Hall.out) _ (by simp; omega) (by simp) hA) kpB_t (kpB_b (by simp; omega) (by simp)) (Below.refl _ _) (fun _ => rfl)
    (fun pre W => ((∃ t : ByteArray, W.cell? ⟨w1.heap.size + 1, 0, none⟩ = some (.string t) ∧ t.data.toList = pre.map (fun x => byteOf x.1.2)) ∧ W.frozen? ⟨w1.heap.size + 1, 0, none⟩ = false) ∧ Below w1.heap.size w1 W)
    (fun _ _ _ => False)
    (OwnFrom.and (Own.from (fun s A B row hs hg hr => by obtain ⟨⟨t, h1, h2⟩, h3⟩ := hs; exact ⟨⟨t, cell_kept h1 hg hr, h2⟩, (frozen_kept h1 hg hr).trans h3⟩) _) (ownFrom_below (Nat.le_refl _) (by simp; omega)))
    (fun _ _ _ _ _ hs _ _ => hs)
    ⟨⟨⟨⟨#[]⟩, by simp [go_sem], rfl⟩, by simp [go_sem]⟩, hb0⟩
    (fun x => { tmps := #[.string s, undef, .string ⟨#[]⟩, .int .i64 0, .pointer (some ⟨w1.heap.size, 0, none⟩), .bool true, .pointer (some ⟨w1.heap.size + 1, 0, none⟩), undef, .int .u8 x.1.2, .tuple #[.agg #[.slice (some ⟨w.heap.size + 1 + 1, 0, none⟩) s.size s.size, .slice (some ⟨M, 0, none⟩) s.size s.size], .bool true], .string s, .tuple #[.agg #[.slice (some ⟨w.heap.size + 1 + 1, 0, none⟩) s.size s.size, .slice (some ⟨M, 0, none⟩) s.size s.size], .bool true], .agg #[.slice (some ⟨w.heap.size + 1 + 1, 0, none⟩) s.size s.size, .slice (some ⟨M, 0, none⟩) s.size s.size], .bool true, .bool true, .bool false, .agg #[.slice (some ⟨w.heap.size + 1 + 1, 0, none⟩) s.size s.size, .slice (some ⟨M, 0, none⟩) s.size s.size], .func (.func 57) #[] #[.pointer (some ⟨w1.heap.size + 1 + 1, 0, none⟩)], .int .i64 x.1.1, .int .u8 x.1.2, undef, undef, undef, undef, undef], defers := [] }) ?assign ?body ?done ?stop
  case assign =>
    intro l x W K hK
    gi_wp2
    exact hK
  case body =>
    rintro l' pre x W ⟨⟨⟨t, hc1, ht⟩, hf1⟩, hB⟩ hlt
    have ht60 : t.size ≤ 60 := by
      have e2 : t.size = t.data.toList.length := by rw [Array.length_toList]; rfl
      rw [e2, ht, List.length_map]; omega
    have Ht := Lib.hid ht
    clear ht hlt
    have hx := x.2
    have hmx : Try.prog.follows .mixedOrders = true := by kernel_rfl
    gi_wp2
    gi_region_with_o (first
      | (gi_at_call 37; refine (CallsIn.inRound l' (callsIn_wide.2 (impl_text _ _ hx))).mono ?_; rintro e w' ⟨rfl, rfl⟩)
      | (refine ⟨trivial, ?_⟩; gi_at_call 37; refine (CallsIn.inRound l' (callsIn_wide.2 (impl_text _ _ hx))).mono ?_; rintro e w' ⟨rfl, rfl⟩))
    all_goals gi_wp2
    all_goals
      refine ⟨((KeepsOthers.setCell _ _ _).trans (KeepsOthers.drew _)).from _, ⟨((Below.refl _ _).setCell (p := ⟨w1.heap.size + 1, 0, none⟩) (by simp) _).drew, Below.heap_setCell _ _ _ _ (by simp)⟩, ⟨⟨⟨_, World.cell?_setCell_same' _ _ _ (by rw [hc1]; rfl), ?_⟩, ?_⟩, (hB.setCell (p := ⟨w1.heap.size + 1, 0, none⟩) (by simp) _).drew⟩⟩
      · rw [ByteArray.data_append, Array.toList_append, Ht.out, List.map_append]; rfl
      · rw [frozen_drew_own, World.frozen?_setCell]; exact hf1
  case done =>
    rintro D ys W hD rfl ⟨⟨⟨t, hc1, ht⟩, hf1⟩, hB⟩ hK
    have e2 : t = ⟨(coreL l (prts (ksOf l)) s.size).toArray⟩ := by rw [coreL, ← ht]
    subst e2
    clear ht
    gi_wp2
    refine ⟨by simp, .inl ⟨_, _, rfl, run_takeDeferred hK, ?_⟩⟩
    exact ⟨_, results_tmp2 rfl _ _ _, rfl, (hb.trans (hB.mono hb.size)).trans (belowK_b (w := w) (Nat.le_refl _) W D _ _ (by have := hb.size; simp at hD; omega) hK rfl rfl)⟩
  case stop =>
    rintro D c pre W _ _ h _
    exact h.elim

end Go.Proofs.Ytnclhgaikglbgaa
