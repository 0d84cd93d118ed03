import Derived.Test.YtblgjedjljfmcaaGreatDoorMFnExactUndoTreeEdit6
import Derived.Test.YtblgjedjljfmcaaGreatDoorMFnExactUndoTreeEdit7
import Derived.BigQuiet
import Derived.Deep.QuietTactic
/- What closes a call: l01Closed of the model and returnOfCall of the program; BodyOf and CutMatched, of both. -/
namespace Go.Proofs.YtblgjedjljfmcaaGreatDoor
open Go.RowKit

/-! Plain mathematics: a call is pending, or its partner lies behind it. -/
theorem prts_at_call (ks : List Nat) : ∀ i : Nat, ks[i]? = some 0 → (prts ks)[i]? = some (-2) ∨ ∃ q : Nat, i < q ∧ q < ks.length ∧ (prts ks)[i]? = some (q : Int) := by
  refine snoc_ind (p := fun ks => ∀ i : Nat, ks[i]? = some 0 → (prts ks)[i]? = some (-2) ∨ ∃ q : Nat, i < q ∧ q < ks.length ∧ (prts ks)[i]? = some (q : Int)) ?_ (fun l k ih => ?_) ks
  · intro i h; simp at h
  · intro i hi
    have hlen := prts_len l
    have hl1 : (l ++ [k]).length = l.length + 1 := by simp
    by_cases hil : i < l.length
    · rw [List.getElem?_append_left hil] at hi
      have ih := ih i hi
      have lift : ∀ y, ((prts l ++ [y])[i]? = some (-2) ∨ ∃ q : Nat, i < q ∧ q < (l ++ [k]).length ∧ (prts l ++ [y])[i]? = some (q : Int)) := by
        intro y
        rw [List.getElem?_append_left (by omega)]
        rcases ih with h | ⟨q, h1, h2, h3⟩
        · exact .inl h
        · exact .inr ⟨q, h1, by omega, h3⟩
      by_cases h0 : k = 0
      · subst h0; rw [(prts_call l).1]; exact lift _
      · by_cases h1 : k = 1
        · subst h1
          cases hl : (opns l).getLast? with
          | none => rw [(prts_ret_none l (List.getLast?_eq_none_iff.1 hl)).1]; exact lift _
          | some b =>
            rw [(prts_ret_some l b hl).1, List.getElem?_append_left (by simp; omega)]
            by_cases hne : b = i
            · subst hne
              exact .inr ⟨l.length, hil, by omega, List.getElem?_set_self (by omega)⟩
            · rw [List.getElem?_set_ne hne]
              rcases ih with h | ⟨q, h1, h2, h3⟩
              · exact .inl h
              · exact .inr ⟨q, h1, by omega, h3⟩
        · rw [(prts_inner l k h0 h1).1]; exact lift _
    · have hie : i = l.length := by
        have := (List.getElem?_eq_some_iff.1 hi).1
        omega
      subst hie
      simp at hi
      subst hi
      rw [(prts_call l).1, List.getElem?_append_right (by omega), hlen]
      simp

def cloV (q c : Int) : Value := .tuple #[.int .i64 q, .int .i64 c]

set_option maxHeartbeats 800000 in
theorem spec_closed_no (s : ByteArray) (i : Int) (w : World) (hs : s.size ≤ 1048576) (h : ¬ IsW s) :
    Calls Tryz.prog 48 #[.string s, .int .i64 i] w (TupPost (cloV 0 1) w) := by
  have H := Lib.hid h
  clear h
  go_enter Tryz.func48, Tryz.ntmps48
  go_wp2_with fail
  refine (spec_ok_no _ _ hs H.out).mono ?_
  rintro e w' ⟨rfl, rfl⟩
  go_wp2
  go_ret2
  exact ⟨rfl, Below.refl _ _⟩

set_option maxHeartbeats 800000 in
theorem spec_closed_range (s : ByteArray) (i : Int) (w : World) (h : IsW s) (hi : i < 0 ∨ (s.size : Int) ≤ i) :
    Calls Tryz.prog 48 #[.string s, .int .i64 i] w (TupPost (cloV 0 2) w) := by
  have h60 := h.1
  have H := Lib.hid h
  clear h
  go_enter Tryz.func48, Tryz.ntmps48
  go_wp2_with fail
  refine (spec_ok_yes _ _ H.out).mono ?_
  rintro e w' ⟨rfl, rfl⟩
  go_wp2_with fail
  refine (in_no _ _ _ _ (by omega)).mono ?_
  rintro e w' ⟨rfl, rfl⟩
  go_wp2
  go_ret2
  exact ⟨rfl, Below.refl _ _⟩

set_option maxHeartbeats 800000 in
theorem spec_closed_inner (s : ByteArray)  (w : World) (h : IsW s) (k : Nat) (p : Int) (hk : k < s.size) (hp : (prts (ksOf s.data.toList))[k]? = some p) (hc : callB (s[k].toNat : Int) = false) :
    Calls Tryz.prog 48 #[.string s, .int .i64 (k : Int)] w (TupPost (cloV 0 4) w) := by
  have h60 := h.1
  have H := Lib.hid h
  clear h
  have Hp := Lib.hid hp
  clear hp
  go_enter Tryz.func48, Tryz.ntmps48
  go_wp2_with fail
  refine (spec_ok_yes _ _ H.out).mono ?_
  rintro e w' ⟨rfl, rfl⟩
  go_wp2_with fail
  refine (in_yes _ _ _ _ (by omega) (by omega)).mono ?_
  rintro e w' ⟨rfl, rfl⟩
  go_wp2_with fail
  refine (spec_partners _ _ H.out).mono ?_
  rintro e w1 ⟨A, c, rfl, hr, hb⟩
  obtain ⟨g, rfl⟩ : ∃ g, A = some ⟨g, 0, none⟩ := by
    rcases hr.2 with ⟨_, h1⟩ | ⟨g, cap, cur, hv, _⟩
    · omega
    · simp only [Value.slice.injEq] at hv
      exact ⟨g, hv.1⟩
  have hcell := nums_cell hr k p Hp.out
  go_wp2_with fail
  refine (spec_call _ _).mono ?_
  rintro e w' ⟨rfl, rfl⟩
  rw [hc]
  go_wp2
  go_ret2
  exact ⟨rfl, hb⟩

set_option maxHeartbeats 800000 in
theorem spec_closed_pend (s : ByteArray)  (w : World) (h : IsW s) (k : Nat) (p : Int) (hk : k < s.size) (hp : (prts (ksOf s.data.toList))[k]? = some p) (hc : callB (s[k].toNat : Int) = true) (h2 : p < 0) :
    Calls Tryz.prog 48 #[.string s, .int .i64 (k : Int)] w (TupPost (cloV 0 4) w) := by
  have h60 := h.1
  have H := Lib.hid h
  clear h
  have Hp := Lib.hid hp
  clear hp
  go_enter Tryz.func48, Tryz.ntmps48
  go_wp2_with fail
  refine (spec_ok_yes _ _ H.out).mono ?_
  rintro e w' ⟨rfl, rfl⟩
  go_wp2_with fail
  refine (in_yes _ _ _ _ (by omega) (by omega)).mono ?_
  rintro e w' ⟨rfl, rfl⟩
  go_wp2_with fail
  refine (spec_partners _ _ H.out).mono ?_
  rintro e w1 ⟨A, c, rfl, hr, hb⟩
  obtain ⟨g, rfl⟩ : ∃ g, A = some ⟨g, 0, none⟩ := by
    rcases hr.2 with ⟨_, h1⟩ | ⟨g, cap, cur, hv, _⟩
    · omega
    · simp only [Value.slice.injEq] at hv
      exact ⟨g, hv.1⟩
  have hcell := nums_cell hr k p Hp.out
  go_wp2_with fail
  refine (spec_call _ _).mono ?_
  rintro e w' ⟨rfl, rfl⟩
  rw [hc]
  go_wp2
  go_ret2
  exact ⟨rfl, hb⟩

set_option maxHeartbeats 800000 in
theorem spec_closed_yes (s : ByteArray)  (w : World) (h : IsW s) (k : Nat) (p : Int) (hk : k < s.size) (hp : (prts (ksOf s.data.toList))[k]? = some p) (hc : callB (s[k].toNat : Int) = true) (h2 : 0 ≤ p) :
    Calls Tryz.prog 48 #[.string s, .int .i64 (k : Int)] w (TupPost (cloV p 0) w) := by
  have h60 := h.1
  have H := Lib.hid h
  clear h
  have Hp := Lib.hid hp
  clear hp
  go_enter Tryz.func48, Tryz.ntmps48
  go_wp2_with fail
  refine (spec_ok_yes _ _ H.out).mono ?_
  rintro e w' ⟨rfl, rfl⟩
  go_wp2_with fail
  refine (in_yes _ _ _ _ (by omega) (by omega)).mono ?_
  rintro e w' ⟨rfl, rfl⟩
  go_wp2_with fail
  refine (spec_partners _ _ H.out).mono ?_
  rintro e w1 ⟨A, c, rfl, hr, hb⟩
  obtain ⟨g, rfl⟩ : ∃ g, A = some ⟨g, 0, none⟩ := by
    rcases hr.2 with ⟨_, h1⟩ | ⟨g, cap, cur, hv, _⟩
    · omega
    · simp only [Value.slice.injEq] at hv
      exact ⟨g, hv.1⟩
  have hcell := nums_cell hr k p Hp.out
  go_wp2_with fail
  refine (spec_call _ _).mono ?_
  rintro e w' ⟨rfl, rfl⟩
  rw [hc]
  go_wp2
  go_ret2
  exact ⟨rfl, hb⟩

set_option maxHeartbeats 800000 in
theorem impl_closed_no (s : ByteArray) (i : Int) (w : World) (hs : s.size ≤ 1048576) (h : ¬ IsW s) :
    Calls Tryz.prog 152 #[.string s, .int .i64 i] w (TupPost (cloV 0 1) w) := by
  have H := Lib.hid h
  clear h
  go_enter Tryz.func152, Tryz.ntmps152
  go_wp2_with fail
  refine (impl_read_no _ _ hs H.out).mono ?_
  rintro e w1 ⟨rfl, hb⟩
  go_wp2
  go_ret2
  exact ⟨rfl, hb.alloc hb.size _⟩

set_option maxHeartbeats 800000 in
theorem impl_closed_neg (s : ByteArray) (i : Int) (w : World) (h : IsW s) (hi : i < 0) :
    Calls Tryz.prog 152 #[.string s, .int .i64 i] w (TupPost (cloV 0 2) w) := by
  have h60 := h.1
  have H := Lib.hid h
  clear h
  go_enter Tryz.func152, Tryz.ntmps152
  go_wp2_with fail
  refine (impl_read_yes _ _ H.out.1 H.out.2).mono ?_
  rintro e w1 ⟨M, rfl, hsy, hps, hb⟩
  go_wp2
  go_ret2
  exact ⟨rfl, hb.alloc hb.size _⟩

set_option maxHeartbeats 800000 in
theorem impl_closed_range (s : ByteArray) (i : Int) (w : World) (h : IsW s) (h0 : 0 ≤ i) (hi : (s.size : Int) ≤ i) :
    Calls Tryz.prog 152 #[.string s, .int .i64 i] w (TupPost (cloV 0 2) w) := by
  have h60 := h.1
  have H := Lib.hid h
  clear h
  go_enter Tryz.func152, Tryz.ntmps152
  go_wp2_with fail
  refine (impl_read_yes _ _ H.out.1 H.out.2).mono ?_
  rintro e w1 ⟨M, rfl, hsy, hps, hb⟩
  go_wp2
  go_ret2
  exact ⟨rfl, hb.alloc hb.size _⟩

set_option maxHeartbeats 800000 in
theorem impl_closed_inner (s : ByteArray)  (w : World) (h : IsW s) (k : Nat) (p : Int) (hk : k < s.size) (hp : (prts (ksOf s.data.toList))[k]? = some p) (hc : callB (s[k].toNat : Int) = false) :
    Calls Tryz.prog 152 #[.string s, .int .i64 (k : Int)] w (TupPost (cloV 0 4) w) := by
  have hsyx : (symL s.data.toList)[k]? = some (symNo (s[k].toNat : Int)) := by
    rw [symL, List.getElem?_map, List.getElem?_eq_getElem (by simpa using hk)]; rfl
  have hall := h.2 s[k] (by
    have : s.data.toList[k]? = some s[k] := by rw [List.getElem?_eq_getElem (by simpa using hk)]; rfl
    exact List.mem_of_getElem? this)
  rw [(call_kind hall).1] at hc
  have hx : symNo (s[k].toNat : Int) ≤ 5 := symNo_le _
  generalize symNo (s[k].toNat : Int) = x at hsyx hc hall hx
  have Hy := Lib.hid hsyx
  clear hsyx
  have h60 := h.1
  have H := Lib.hid h
  clear h
  have Hp := Lib.hid hp
  clear hp
  go_enter Tryz.func152, Tryz.ntmps152
  go_wp2_with fail
  refine (impl_read_yes _ _ H.out.1 H.out.2).mono ?_
  rintro e w1 ⟨M, rfl, hsy, hps, hb⟩
  have hb2 := hb.alloc hb.size (.cells #[.slice (some ⟨w.heap.size + 1 + 1, 0, none⟩) s.size s.size, .slice (some ⟨M, 0, none⟩) s.size s.size] 94)
  have hsy2 := hsy.alloc (.cells #[.slice (some ⟨w.heap.size + 1 + 1, 0, none⟩) s.size s.size, .slice (some ⟨M, 0, none⟩) s.size s.size] 94)
  have hps2 := hps.alloc (.cells #[.slice (some ⟨w.heap.size + 1 + 1, 0, none⟩) s.size s.size, .slice (some ⟨M, 0, none⟩) s.size s.size] 94)
  have hc0 := syms_cell hsy2 k _ Hy.out
  have hc1 := nums_cell hps2 k p Hp.out
  clear hsy hps hsy2 hps2 hb
  go_wp2_with fail
  refine (impl_isCall _ _).mono ?_
  rintro e w' ⟨rfl, rfl⟩
  rw [hc]
  go_wp2
  go_ret2
  exact ⟨rfl, hb2⟩

set_option maxHeartbeats 800000 in
theorem impl_closed_pend (s : ByteArray)  (w : World) (h : IsW s) (k : Nat) (p : Int) (hk : k < s.size) (hp : (prts (ksOf s.data.toList))[k]? = some p) (hc : callB (s[k].toNat : Int) = true) (h2 : p = -2) :
    Calls Tryz.prog 152 #[.string s, .int .i64 (k : Int)] w (TupPost (cloV 0 4) w) := by
  subst h2
  have hsyx : (symL s.data.toList)[k]? = some (symNo (s[k].toNat : Int)) := by
    rw [symL, List.getElem?_map, List.getElem?_eq_getElem (by simpa using hk)]; rfl
  have hall := h.2 s[k] (by
    have : s.data.toList[k]? = some s[k] := by rw [List.getElem?_eq_getElem (by simpa using hk)]; rfl
    exact List.mem_of_getElem? this)
  rw [(call_kind hall).1] at hc
  have hx : symNo (s[k].toNat : Int) ≤ 5 := symNo_le _
  generalize symNo (s[k].toNat : Int) = x at hsyx hc hall hx
  have Hy := Lib.hid hsyx
  clear hsyx
  have h60 := h.1
  have H := Lib.hid h
  clear h
  have Hp := Lib.hid hp
  clear hp
  go_enter Tryz.func152, Tryz.ntmps152
  go_wp2_with fail
  refine (impl_read_yes _ _ H.out.1 H.out.2).mono ?_
  rintro e w1 ⟨M, rfl, hsy, hps, hb⟩
  have hb2 := hb.alloc hb.size (.cells #[.slice (some ⟨w.heap.size + 1 + 1, 0, none⟩) s.size s.size, .slice (some ⟨M, 0, none⟩) s.size s.size] 94)
  have hsy2 := hsy.alloc (.cells #[.slice (some ⟨w.heap.size + 1 + 1, 0, none⟩) s.size s.size, .slice (some ⟨M, 0, none⟩) s.size s.size] 94)
  have hps2 := hps.alloc (.cells #[.slice (some ⟨w.heap.size + 1 + 1, 0, none⟩) s.size s.size, .slice (some ⟨M, 0, none⟩) s.size s.size] 94)
  have hc0 := syms_cell hsy2 k _ Hy.out
  have hc1 := nums_cell hps2 k _ Hp.out
  clear hsy hps hsy2 hps2 hb
  go_wp2_with fail
  refine (impl_isCall _ _).mono ?_
  rintro e w' ⟨rfl, rfl⟩
  rw [hc]
  go_wp2
  go_ret2
  exact ⟨rfl, hb2⟩

set_option maxHeartbeats 800000 in
theorem impl_closed_yes (s : ByteArray)  (w : World) (h : IsW s) (k : Nat) (p : Int) (hk : k < s.size) (hp : (prts (ksOf s.data.toList))[k]? = some p) (hc : callB (s[k].toNat : Int) = true) (h2 : 0 ≤ p) :
    Calls Tryz.prog 152 #[.string s, .int .i64 (k : Int)] w (TupPost (cloV p 0) w) := by
  have hp2 : (p == -2) = false := by simp; omega
  have hsyx : (symL s.data.toList)[k]? = some (symNo (s[k].toNat : Int)) := by
    rw [symL, List.getElem?_map, List.getElem?_eq_getElem (by simpa using hk)]; rfl
  have hall := h.2 s[k] (by
    have : s.data.toList[k]? = some s[k] := by rw [List.getElem?_eq_getElem (by simpa using hk)]; rfl
    exact List.mem_of_getElem? this)
  rw [(call_kind hall).1] at hc
  have hx : symNo (s[k].toNat : Int) ≤ 5 := symNo_le _
  generalize symNo (s[k].toNat : Int) = x at hsyx hc hall hx
  have Hy := Lib.hid hsyx
  clear hsyx
  have h60 := h.1
  have H := Lib.hid h
  clear h
  have Hp := Lib.hid hp
  clear hp
  go_enter Tryz.func152, Tryz.ntmps152
  go_wp2_with fail
  refine (impl_read_yes _ _ H.out.1 H.out.2).mono ?_
  rintro e w1 ⟨M, rfl, hsy, hps, hb⟩
  have hb2 := hb.alloc hb.size (.cells #[.slice (some ⟨w.heap.size + 1 + 1, 0, none⟩) s.size s.size, .slice (some ⟨M, 0, none⟩) s.size s.size] 94)
  have hsy2 := hsy.alloc (.cells #[.slice (some ⟨w.heap.size + 1 + 1, 0, none⟩) s.size s.size, .slice (some ⟨M, 0, none⟩) s.size s.size] 94)
  have hps2 := hps.alloc (.cells #[.slice (some ⟨w.heap.size + 1 + 1, 0, none⟩) s.size s.size, .slice (some ⟨M, 0, none⟩) s.size s.size] 94)
  have hc0 := syms_cell hsy2 k _ Hy.out
  have hc1 := nums_cell hps2 k p Hp.out
  clear hsy hps hsy2 hps2 hb
  go_wp2_with fail
  refine (impl_isCall _ _).mono ?_
  rintro e w' ⟨rfl, rfl⟩
  rw [hc]
  go_wp2
  go_ret2
  exact ⟨rfl, hb2⟩

/-- Both answer the same: a fault, or the place of the return. -/
theorem both_closed (s : ByteArray) (i : Int) (hs : s.size ≤ 1048576) : ∃ q c : Int,
    ((c = 0 ∧ ∃ k m : Nat, i = k ∧ q = m ∧ k < m ∧ m < s.size ∧ s.size ≤ 60) ∨ c = 1 ∨ c = 2 ∨ c = 4) ∧
    (∀ w, Calls Tryz.prog 48 #[.string s, .int .i64 i] w (TupPost (cloV q c) w)) ∧
    (∀ w, Calls Tryz.prog 152 #[.string s, .int .i64 i] w (TupPost (cloV q c) w)) := by
  by_cases h : IsW s
  · by_cases hi : i < 0 ∨ (s.size : Int) ≤ i
    · refine ⟨_, _, .inr (.inr (.inl rfl)), fun w => spec_closed_range s i w h hi, fun w => ?_⟩
      by_cases h0 : i < 0
      · exact impl_closed_neg s i w h h0
      · exact impl_closed_range s i w h (by omega) (by omega)
    · obtain ⟨k, rfl⟩ := Int.eq_ofNat_of_zero_le (show 0 ≤ i by omega)
      have hk : k < s.size := by omega
      have hlk : s.data.toList[k]? = some s[k] := by rw [List.getElem?_eq_getElem (by simpa using hk)]; rfl
      have hkk := ksOf_at _ _ _ hlk
      have hpl : (prts (ksOf s.data.toList)).length = s.size := by rw [prts_len, ksOf_len]; simp
      have hkl : (ksOf s.data.toList).length = s.size := by rw [ksOf_len]; simp
      obtain ⟨p, hp⟩ : ∃ p, (prts (ksOf s.data.toList))[k]? = some p := ⟨_, List.getElem?_eq_getElem (by omega)⟩
      cases hc : callB (s[k].toNat : Int) with
      | false => exact ⟨_, _, .inr (.inr (.inr rfl)), fun w => spec_closed_inner s w h k p hk hp hc, fun w => impl_closed_inner s w h k p hk hp hc⟩
      | true =>
        rw [kind_call hc] at hkk
        rcases prts_at_call _ _ hkk with h1 | ⟨q, h1, h2, h3⟩
        · rw [hp] at h1
          obtain rfl := Option.some.inj h1
          exact ⟨_, _, .inr (.inr (.inr rfl)), fun w => spec_closed_pend s w h k _ hk hp hc (by decide), fun w => impl_closed_pend s w h k _ hk hp hc rfl⟩
        · rw [hp] at h3
          obtain rfl := Option.some.inj h3
          exact ⟨_, _, .inl ⟨rfl, k, q, rfl, rfl, h1, by omega, h.1⟩, fun w => spec_closed_yes s w h k _ hk hp hc (by omega), fun w => impl_closed_yes s w h k _ hk hp hc (by omega)⟩
  · exact ⟨_, _, .inr (.inl rfl), fun w => spec_closed_no s i w hs h, fun w => impl_closed_no s i w hs h⟩
end Go.Proofs.YtblgjedjljfmcaaGreatDoor
/- BodyOf and CutMatched, of the model and of the program. -/
namespace Go.Proofs.YtblgjedjljfmcaaGreatDoor
open Go.RowKit

def bodV (t : ByteArray) (c : Int) : Value := .tuple #[.string t, .int .i64 c]

theorem slice_mid (s : ByteArray) (k m : Nat) (h : k < m) (h2 : m ≤ s.size) : ∀ W : World, (Instr.slice 9 (.string s) (some (.int .i64 ((k : Int) + 1))) (some (.int .i64 (m : Int))) none).run Tryz.prog W = .ok (.string (s.extract (k + 1) m)) W := fun W => by
  have := run_slice_string (P := Tryz.prog) W 9 s .i64 .i64 ((k : Int) + 1) (m : Int) Tryz.underlying9 (by omega) (by omega) (by omega)
  rwa [show ((k : Int) + 1).toNat = k + 1 from by omega, Int.toNat_natCast] at this
theorem slice_head (s : ByteArray) (k : Nat) (h : k ≤ s.size) : ∀ W : World, (Instr.slice 9 (.string s) none (some (.int .i64 (k : Int))) none).run Tryz.prog W = .ok (.string (s.extract 0 k)) W := fun W => by
  have := run_slice_string_h (P := Tryz.prog) (w := W) (t := 9) (s := s) Tryz.underlying9 .i64 (k : Int) (by omega) (by omega)
  rwa [Int.toNat_natCast] at this
theorem slice_tail (s : ByteArray) (m : Nat) (h : m < s.size) : ∀ W : World, (Instr.slice 9 (.string s) (some (.int .i64 ((m : Int) + 1))) none none).run Tryz.prog W = .ok (.string (s.extract (m + 1) s.size)) W := fun W => by
  have := run_slice_string_l (P := Tryz.prog) (w := W) (t := 9) (s := s) Tryz.underlying9 .i64 ((m : Int) + 1) (by omega) (by omega)
  rwa [show ((m : Int) + 1).toNat = m + 1 from by omega] at this

theorem spec_CutMatched_bad (s : ByteArray) (i q c : Int) (w : World) (hc : c = 1 ∨ c = 2 ∨ c = 4)
    (h : ∀ w, Calls Tryz.prog 48 #[.string s, .int .i64 i] w (TupPost (cloV q c) w)) :
    Calls Tryz.prog 29 #[.string s, .int .i64 i] w (TupPost (bodV ⟨#[]⟩ c) w) := by
  simp only [cloV, bodV] at h ⊢
  have H := Lib.hid h
  clear h
  rcases hc with rfl | rfl | rfl
  all_goals
    go_enter Tryz.func29, Tryz.ntmps29
    go_wp2_with fail
    refine (H.out _).mono ?_
    rintro e w1 ⟨rfl, hb⟩
    go_wp2
    go_ret2
    exact ⟨rfl, hb⟩

theorem spec_CutMatched_yes (s : ByteArray) (k m : Nat) (w : World) (hkm : k < m) (hm : m < s.size) (h60 : s.size ≤ 60)
    (h : ∀ w, Calls Tryz.prog 48 #[.string s, .int .i64 (k : Int)] w (TupPost (cloV (m : Int) 0) w)) :
    Calls Tryz.prog 29 #[.string s, .int .i64 (k : Int)] w (TupPost (bodV (s.extract 0 k ++ s.extract (m + 1) s.size) 0) w) := by
  simp only [cloV, bodV] at h ⊢
  have H := Lib.hid h
  clear h
  have hsl := slice_head s k (by omega)
  have hsl2 := slice_tail s m hm
  have hz : (s.extract 0 k).size ≤ 60 := by rw [ByteArray.size_extract]; omega
  have hz2 : (s.extract (m + 1) s.size).size ≤ 60 := by rw [ByteArray.size_extract]; omega
  go_enter Tryz.func29, Tryz.ntmps29
  go_wp2_with fail
  refine (H.out _).mono ?_
  rintro e w1 ⟨rfl, hb⟩
  go_wp2
  go_quiet (fail)
  go_wp2
  go_ret2
  exact ⟨rfl, below_drewN hb _⟩

theorem impl_CutMatched_bad (s : ByteArray) (i q c : Int) (w : World) (hc : c = 1 ∨ c = 2 ∨ c = 4)
    (h : ∀ w, Calls Tryz.prog 152 #[.string s, .int .i64 i] w (TupPost (cloV q c) w)) :
    Calls Tryz.prog 151 #[.string s, .int .i64 i] w (TupPost (bodV ⟨#[]⟩ c) w) := by
  simp only [cloV, bodV] at h ⊢
  have H := Lib.hid h
  clear h
  rcases hc with rfl | rfl | rfl
  all_goals
    go_enter Tryz.func151, Tryz.ntmps151
    go_wp2_with fail
    refine (H.out _).mono ?_
    rintro e w1 ⟨rfl, hb⟩
    go_wp2
    go_ret2
    exact ⟨rfl, hb⟩

theorem impl_CutMatched_yes (s : ByteArray) (k m : Nat) (w : World) (hkm : k < m) (hm : m < s.size) (h60 : s.size ≤ 60)
    (h : ∀ w, Calls Tryz.prog 152 #[.string s, .int .i64 (k : Int)] w (TupPost (cloV (m : Int) 0) w)) :
    Calls Tryz.prog 151 #[.string s, .int .i64 (k : Int)] w (TupPost (bodV (s.extract 0 k ++ s.extract (m + 1) s.size) 0) w) := by
  simp only [cloV, bodV] at h ⊢
  have H := Lib.hid h
  clear h
  have hsl := slice_head s k (by omega)
  have hsl2 := slice_tail s m hm
  have hz : (s.extract 0 k).size ≤ 60 := by rw [ByteArray.size_extract]; omega
  have hz2 : (s.extract (m + 1) s.size).size ≤ 60 := by rw [ByteArray.size_extract]; omega
  go_enter Tryz.func151, Tryz.ntmps151
  go_wp2_with fail
  refine (H.out _).mono ?_
  rintro e w1 ⟨rfl, hb⟩
  go_wp2
  go_quiet (fail)
  go_wp2
  go_ret2
  exact ⟨rfl, below_drewN hb _⟩

theorem both_CutMatched (s : ByteArray) (i : Int) (hs : s.size ≤ 1048576) (_wi : (Lit.int .i64 i).wf = true) : ∃ (r : ByteArray) (code : Int),
    (∀ w, Calls Tryz.prog 29 #[.string s, .int .i64 i] w (TupPost (.tuple #[.string r, .int .i64 code]) w)) ∧ (∀ w, Calls Tryz.prog 151 #[.string s, .int .i64 i] w (TupPost (.tuple #[.string r, .int .i64 code]) w)) := by
  obtain ⟨q, c, hc, hS, hI⟩ := both_closed s i hs
  rcases hc with ⟨rfl, k, m, rfl, rfl, hkm, hm, h60⟩ | hc
  · exact ⟨_, _, fun w => spec_CutMatched_yes s k m w hkm hm h60 hS, fun w => impl_CutMatched_yes s k m w hkm hm h60 hI⟩
  · exact ⟨_, _, fun w => spec_CutMatched_bad s i q c w hc hS, fun w => impl_CutMatched_bad s i q c w hc hI⟩
end Go.Proofs.YtblgjedjljfmcaaGreatDoor
