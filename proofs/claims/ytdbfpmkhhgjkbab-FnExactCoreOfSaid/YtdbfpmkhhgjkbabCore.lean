/- CoreOf, of the model and of the program. -/
import Derived.Test.YtdbfpmkhhgjkbabPending
namespace Go.Proofs.Ytdbfpmkhhgjkbab
open Go.RowKit Go.Shelf

attribute [local go_sem] Oper.semAt_some

theorem byte_sym {b : UInt8} (h : 0 ≤ symNo (b.toNat : Int)) : byteOf (symNo (b.toNat : Int)) = b := by
  have f (k : UInt8) (e : (b.toNat : Int) = k.toNat) : b = k := UInt8.toNat_inj.1 (by omega)
  by_cases h0 : (b.toNat : Int) = 40
  · rw [f 40 h0]; rfl
  by_cases h1 : (b.toNat : Int) = 91
  · rw [f 91 h1]; rfl
  by_cases h2 : (b.toNat : Int) = 41
  · rw [f 41 h2]; rfl
  by_cases h3 : (b.toNat : Int) = 93
  · rw [f 93 h3]; rfl
  by_cases h4 : (b.toNat : Int) = 97
  · rw [f 97 h4]; rfl
  by_cases h5 : (b.toNat : Int) = 98
  · rw [f 98 h5]; rfl
  unfold symNo at h
  rw [if_neg h0, if_neg h1, if_neg h2, if_neg h3, if_neg h4, if_neg h5] at h
  omega

/-- The bytes of what is pending among the first k places. -/
def coreL (l : List UInt8) (ps : List Int) (k : Nat) : List UInt8 := (pend (symL l) ps k).map fun x => byteOf x.1.2
theorem coreL_yes {l : List UInt8} {ps : List Int} {k : Nat} {b : UInt8} (hp : ps[k]? = some (-2)) (hb : l[k]? = some b) (hs : 0 ≤ symNo (b.toNat : Int)) : coreL l ps (k + 1) = coreL l ps k ++ [b] := by
  have hsy : (symL l)[k]?.getD 0 = symNo (b.toNat : Int) := by simp [symL, hb]
  rw [coreL, pend_yes hp (by rw [hsy]; exact ⟨hs, symNo_le _⟩), List.map_append]
  simp [coreL, hsy, byte_sym hs]
theorem coreL_no {l : List UInt8} {ps : List Int} {k : Nat} (hp : ps[k]? ≠ some (-2)) : coreL l ps (k + 1) = coreL l ps k := by rw [coreL, pend_no hp]; rfl
theorem coreL_len (l : List UInt8) (ps : List Int) (k : Nat) : (coreL l ps k).length ≤ k := by rw [coreL, List.length_map]; exact pend_len _ _ _

theorem cut_one (s : ByteArray) (k : Nat) (h : k < s.size) : (s.extract k (k + 1)).data.toList = [s[k]] := by
  have h1 : (s.extract k (k + 1)).data.toList = (s.data.toList.drop k).take 1 := by simp [List.extract_eq_take_drop, ByteArray.data_extract]
  rw [h1, List.drop_eq_getElem_cons (by simpa using h)]
  rfl

set_option maxHeartbeats 1600000 in
set_option maxRecDepth 100000 in
theorem spec_core (s : ByteArray) (w : World) (hw : IsW s) :
    Calls Try.prog 39 #[.string s] w (TupPost (.string ⟨(coreL s.data.toList (prts (ksOf s.data.toList)) s.size).toArray⟩) w) := by
  have hp := fun w => spec_partners s w hw
  obtain ⟨h60, hall⟩ := hw
  obtain ⟨l, hl⟩ : ∃ l, l = s.data.toList := ⟨_, rfl⟩
  have hlen : l.length = s.size := by rw [hl]; simp
  rw [← hl] at hp hall ⊢
  obtain ⟨ps, hps⟩ : ∃ ps, ps = prts (ksOf l) := ⟨_, rfl⟩
  have hpl : ps.length = s.size := by rw [hps, prts_len, ksOf_len]; exact hlen
  rw [← hps] at hp ⊢
  have Hp := Lib.hid hp
  have Hl := Lib.hid hl
  have Hpl := Lib.hid hpl
  have Hall := Lib.hid hall
  clear hp hl hlen hps hpl hall
  go_enter Try.func39, Try.ntmps39
  go_wp2_with (go_at_call 49; refine (Hp.out _).mono ?_; rintro e w1 ⟨A, c, rfl, hr, hb⟩)
  go_loop [4, 5] (fun v i => ∃ (k : Nat) (t : ByteArray), k ≤ s.size ∧ i = .int .i64 k ∧ v = .string t ∧ t.size ≤ k ∧ Hid (t.data.toList = coreL l ps k)) (fun _ i => s.size - (intOf i).toNat)
  case atStart => exact ⟨0, ⟨#[]⟩, Nat.zero_le _, rfl, rfl, Nat.le_refl _, rfl⟩
  case round =>
    obtain ⟨k, t, hk, rfl, rfl, htk, ht⟩ := hrel
    by_cases hlt : k < s.size
    · obtain ⟨g, rfl⟩ : ∃ g, A = some ⟨g, 0, none⟩ := by
        rcases hr.2 with ⟨_, h1⟩ | ⟨g, cap, cur, hv, _⟩
        · omega
        · simp only [Value.slice.injEq] at hv
          exact ⟨g, hv.1⟩
      obtain ⟨p, hp⟩ : ∃ p, ps[k]? = some p := ⟨_, List.getElem?_eq_getElem (by rw [Hpl.out]; exact hlt)⟩
      have hcell := nums_cell hr k p hp
      have Hp' := Lib.hid hp
      have hlb : Hid (l[k]? = some s[k]) := by
        show _ = _
        rw [Hl.out, List.getElem?_eq_getElem (by simpa using hlt)]; rfl
      have ht60 : t.size ≤ 60 := by omega
      clear hp
      by_cases h2 : p = -2
      · subst h2
        have hsy := Hall.out _ (List.mem_of_getElem? hlb.out)
        have fin : (t ++ s.extract k (k + 1)).size ≤ k + 1 ∧ (t ++ s.extract k (k + 1)).data.toList = coreL l ps (k + 1) := by
          have e1 : (t ++ s.extract k (k + 1)).data.toList = coreL l ps (k + 1) := by
            rw [coreL_yes Hp'.out hlb.out hsy, ByteArray.data_append, Array.toList_append, ht.out, cut_one s k hlt]
          refine ⟨?_, e1⟩
          have e2 : (t ++ s.extract k (k + 1)).size = (t ++ s.extract k (k + 1)).data.toList.length := by rw [Array.length_toList]; rfl
          rw [e2, e1]
          exact coreL_len _ _ _
        have Fin := Lib.hid fin
        clear fin
        have hsl : ∀ W : World, (Instr.slice 9 (.string s) (some (.int .i64 (k : Int))) (some (.int .i64 ((k : Int) + 1))) none).run Try.prog W = .ok (.string (s.extract k (k + 1))) W := fun W => by
          have := run_slice_string (P := Try.prog) W 9 s .i64 .i64 (k : Int) ((k : Int) + 1) Try.underlying9 (by omega) (by omega) (by omega)
          rwa [show ((k : Int) + 1).toNat = k + 1 from by omega, Int.toNat_natCast] at this
        have hsz : (s.extract k (k + 1)).size ≤ 60 := by rw [ByteArray.size_extract]; omega
        go_wp2
        go_round
        case rel => exact ⟨k + 1, _, by omega, by go_num, rfl, Fin.out.1, Fin.out.2⟩
        case measure => simp [intOf]; omega
      · have hp2 : (p == -2) = false := by simpa using h2
        have hcn : Hid (coreL l ps (k + 1) = coreL l ps k) := coreL_no (by rw [Hp'.out]; simpa using h2)
        clear h2
        go_wp2
        go_round
        case rel => exact ⟨k + 1, t, by omega, by go_num, rfl, by omega, by show _ = _; rw [hcn.out]; exact ht.out⟩
        case measure => simp [intOf]; omega
    · have e : k = s.size := by omega
      subst e
      have e2 : t = ⟨(coreL l ps s.size).toArray⟩ := by rw [← ht.out]
      subst e2
      clear ht htk
      go_wp2
      go_ret
      exact ⟨rfl, hb⟩

theorem spec_CoreOf_yes (s : ByteArray) (w : World) (h : IsW s) :
    Calls Try.prog 22 #[.string s] w (TupPost (.tuple #[.string ⟨(coreL s.data.toList (prts (ksOf s.data.toList)) s.size).toArray⟩, .int .i64 0]) w) := by
  have hp := fun w => spec_core s w h
  generalize ByteArray.mk (coreL s.data.toList (prts (ksOf s.data.toList)) s.size).toArray = r at hp ⊢
  have Hp := Lib.hid hp
  have H := Lib.hid h
  clear h hp
  go_enter Try.func22, Try.ntmps22
  go_wp2_with (first
    | (go_at_call 24; refine (spec_ok_yes _ _ H.out).mono ?_; rintro e w' ⟨rfl, rfl⟩)
    | (go_at_call 39; refine (Hp.out _).mono ?_; rintro e w1 ⟨rfl, hb⟩))
  go_ret2
  exact ⟨rfl, hb⟩
theorem spec_CoreOf_no (s : ByteArray) (w : World) (hs : s.size ≤ 1048576) (h : ¬ IsW s) :
    Calls Try.prog 22 #[.string s] w (TupPost (.tuple #[.string ⟨#[]⟩, .int .i64 1]) w) := by
  have H := Lib.hid h
  clear h
  go_enter Try.func22, Try.ntmps22
  go_wp2_with (go_at_call 24; refine (spec_ok_no _ _ hs H.out).mono ?_; rintro e w' ⟨rfl, rfl⟩)
  go_ret2
  exact ⟨rfl, Below.refl _ _⟩
theorem impl_CoreOf_no (s : ByteArray) (w : World) (hs : s.size ≤ 1048576) (h : ¬ IsW s) :
    Calls Try.prog 23 #[.string s] w (TupPost (.tuple #[.string ⟨#[]⟩, .int .i64 1]) w) := by
  have H := Lib.hid h
  clear h
  go_enter Try.func23, Try.ntmps23
  go_wp2_with (go_at_call 26; refine (impl_read_no _ _ hs H.out).mono ?_; rintro e w1 ⟨rfl, hb⟩)
  go_ret2
  exact ⟨rfl, hb.alloc hb.size _⟩

set_option maxRecDepth 100000 in
set_option maxHeartbeats 2000000 in
theorem impl_CoreOf_yes (s : ByteArray) (w : World) (h : IsW s) :
    Calls Try.prog 23 #[.string s] w (TupPost (.tuple #[.string ⟨(coreL s.data.toList (prts (ksOf s.data.toList)) s.size).toArray⟩, .int .i64 0]) w) := by
  have hp := fun w => impl_read_yes s w h.1 h.2
  have h60 := h.1
  have hall := h.2
  obtain ⟨l, hl⟩ : ∃ l, l = s.data.toList := ⟨_, rfl⟩
  have hlen : l.length = s.size := by rw [hl]; simp
  rw [← hl] at hp hall ⊢
  have Hp := Lib.hid hp
  have Hlen := Lib.hid hlen
  have Hall := Lib.hid hall
  clear h hp hl hlen hall
  refine (callsIn_wide (n := 4)).1 ?_
  refine callsIn_of_wp_marks Try.func23 rfl trivial ?_ rfl
  simp only [Try.ntmps23, List.size_toArray, List.length_cons, List.length_nil, Nat.reduceAdd, Nat.reduceSub, Array.replicate_succ, Array.replicate_zero, List.push_toArray, List.append_toArray, List.nil_append, List.cons_append]
  gi_wp2_with (first
    | (refine ⟨trivial, ?_⟩; gi_at_call 26; refine (callsIn_wide.2 (Hp.out _)).mono ?_; rintro e w1 ⟨M, rfl, hsy, hps, hb⟩)
    | (refine ⟨trivial, ?_⟩; gi_at_call 40; refine (pendingPlaces_in Fence.wide _ trivial rfl _ _ _).mono ?_; rintro e w' ⟨rfl, rfl⟩))
  have hb0 : Below w1.heap.size w1 (((w1.alloc (.cells #[.slice (some ⟨w.heap.size + 1 + 1, 0, none⟩) s.size s.size, .slice (some ⟨M, 0, none⟩) s.size s.size] 39)).alloc (.cells #[.string ⟨#[]⟩] 9)).alloc (.cells #[.slice (some ⟨w.heap.size + 1 + 1, 0, none⟩) s.size s.size, .slice (some ⟨M, 0, none⟩) s.size s.size] 39)) := (((Below.refl _ w1).alloc (Nat.le_refl _) _).alloc (by simp) _).alloc (by simp; omega) _
  have hsyl : (symL l).length = s.size := by rw [symL_len, Hlen.out]
  have hpsl : (prts (ksOf l)).length = s.size := by rw [prts_len, ksOf_len, Hlen.out]
  have hA : NestAt (((w1.alloc (.cells #[.slice (some ⟨w.heap.size + 1 + 1, 0, none⟩) s.size s.size, .slice (some ⟨M, 0, none⟩) s.size s.size] 39)).alloc (.cells #[.string ⟨#[]⟩] 9)).alloc (.cells #[.slice (some ⟨w.heap.size + 1 + 1, 0, none⟩) s.size s.size, .slice (some ⟨M, 0, none⟩) s.size s.size] 39)) (w1.heap.size + 1 + 1) (w.heap.size + 1 + 1) M s.size s.size s.size (symL l) (prts (ksOf l)) :=
    ⟨by simp [go_sem], by simp [go_sem], syms_cell (row_below hsy hb0), nums_cell (row_below hps hb0)⟩
  refine wpIn_rangeFunc_ownG rfl (by omega) (gf := 50) (lb := #[.pointer (some ⟨w1.heap.size + 1 + 1, 0, none⟩)]) rfl trivial (enters_of Try.func50 (by kernel_rfl) rfl)
    (pend_stops Fence.wide _ trivial rfl (by omega) (w1.heap.size + 1 + 1) w1.heap.size (w.heap.size + 1 + 1) M s.size s.size s.size (symL l) (prts (ksOf l)) h60 hsyl hpsl (hsy.lt _ rfl).2 (hps.lt _ rfl).2 (symL_ok Hall.out) _ (by simp; omega) (by simp) hA) kpB_t (kpB_b (by simp; omega) (by simp)) (Below.refl _ _) (fun _ => rfl)
    (fun pre W => ((∃ t : ByteArray, W.cell? ⟨w1.heap.size + 1, 0, none⟩ = some (.string t) ∧ t.data.toList = pre.map (fun x => byteOf x.1.2)) ∧ W.frozen? ⟨w1.heap.size + 1, 0, none⟩ = false) ∧ Below w1.heap.size w1 W)
    (fun _ _ _ => False)
    (OwnFrom.and (Own.from (fun s A B row hs hg hr => by obtain ⟨⟨t, h1, h2⟩, h3⟩ := hs; exact ⟨⟨t, cell_kept h1 hg hr, h2⟩, (frozen_kept h1 hg hr).trans h3⟩) _) (ownFrom_below (Nat.le_refl _) (by simp; omega)))
    (fun _ _ _ _ _ hs _ _ => hs)
    ⟨⟨⟨⟨#[]⟩, by simp [go_sem], rfl⟩, by simp [go_sem]⟩, hb0⟩
    (fun x => { tmps := #[.string s, undef, .string ⟨#[]⟩, .int .i64 0, .pointer (some ⟨w1.heap.size, 0, none⟩), .bool true, .pointer (some ⟨w1.heap.size + 1, 0, none⟩), undef, .int .u8 x.1.2, .tuple #[.agg #[.slice (some ⟨w.heap.size + 1 + 1, 0, none⟩) s.size s.size, .slice (some ⟨M, 0, none⟩) s.size s.size], .bool true], .string s, .tuple #[.agg #[.slice (some ⟨w.heap.size + 1 + 1, 0, none⟩) s.size s.size, .slice (some ⟨M, 0, none⟩) s.size s.size], .bool true], .agg #[.slice (some ⟨w.heap.size + 1 + 1, 0, none⟩) s.size s.size, .slice (some ⟨M, 0, none⟩) s.size s.size], .bool true, .bool true, .bool false, .agg #[.slice (some ⟨w.heap.size + 1 + 1, 0, none⟩) s.size s.size, .slice (some ⟨M, 0, none⟩) s.size s.size], .func (.func 50) #[] #[.pointer (some ⟨w1.heap.size + 1 + 1, 0, none⟩)], .int .i64 x.1.1, .int .u8 x.1.2, undef, undef, undef, undef, undef], defers := [] }) ?assign ?body ?done ?stop
  case assign =>
    intro l x W K hK
    gi_wp2
    exact hK
  case body =>
    rintro l' pre x W ⟨⟨⟨t, hc1, ht⟩, hf1⟩, hB⟩ hlt
    have ht60 : t.size ≤ 60 := by
      have e2 : t.size = t.data.toList.length := by rw [Array.length_toList]; rfl
      rw [e2, ht, List.length_map]; omega
    have Ht := Lib.hid ht
    clear ht hlt
    have hx := x.2
    have hmx : Try.prog.follows .mixedOrders = true := by kernel_rfl
    gi_wp2
    gi_region_with_o (first
      | (gi_at_call 38; refine (CallsIn.inRound l' (callsIn_wide.2 (impl_text _ _ hx))).mono ?_; rintro e w' ⟨rfl, rfl⟩)
      | (refine ⟨trivial, ?_⟩; gi_at_call 38; refine (CallsIn.inRound l' (callsIn_wide.2 (impl_text _ _ hx))).mono ?_; rintro e w' ⟨rfl, rfl⟩))
    all_goals gi_wp2
    all_goals
      refine ⟨((KeepsOthers.setCell _ _ _).trans (KeepsOthers.drew _)).from _, ⟨((Below.refl _ _).setCell (p := ⟨w1.heap.size + 1, 0, none⟩) (by simp) _).drew, Below.heap_setCell _ _ _ _ (by simp)⟩, ⟨⟨⟨_, World.cell?_setCell_same' _ _ _ (by rw [hc1]; rfl), ?_⟩, ?_⟩, (hB.setCell (p := ⟨w1.heap.size + 1, 0, none⟩) (by simp) _).drew⟩⟩
      · rw [ByteArray.data_append, Array.toList_append, Ht.out, List.map_append]; rfl
      · rw [frozen_drew_own, World.frozen?_setCell]; exact hf1
  case done =>
    rintro D ys W hD rfl ⟨⟨⟨t, hc1, ht⟩, hf1⟩, hB⟩ hK
    have e2 : t = ⟨(coreL l (prts (ksOf l)) s.size).toArray⟩ := by rw [coreL, ← ht]
    subst e2
    clear ht
    gi_wp2
    refine ⟨by simp, .inl ⟨_, _, rfl, run_takeDeferred hK, ?_⟩⟩
    exact ⟨_, results_tmp2 rfl _ _ _, rfl, (hb.trans (hB.mono hb.size)).trans (belowK_b (w := w) (Nat.le_refl _) W D _ _ (by have := hb.size; simp at hD; omega) hK rfl rfl)⟩
  case stop =>
    rintro D c pre W _ _ h _
    exact h.elim

theorem both_CoreOf (s : ByteArray) (hs : s.size ≤ 1048576) : ∃ (r : ByteArray) (code : Int),
    (∀ w, Calls Try.prog 22 #[.string s] w (TupPost (.tuple #[.string r, .int .i64 code]) w)) ∧ (∀ w, Calls Try.prog 23 #[.string s] w (TupPost (.tuple #[.string r, .int .i64 code]) w)) := by
  by_cases h : IsW s
  · exact ⟨_, _, fun w => spec_CoreOf_yes s w h, fun w => impl_CoreOf_yes s w h⟩
  · exact ⟨_, _, fun w => spec_CoreOf_no s w hs h, fun w => impl_CoreOf_no s w hs h⟩
end Go.Proofs.Ytdbfpmkhhgjkbab
