/- A list of edits: one step after the other, in plain mathematics; each step's calls. -/
import Derived.Test.YtcdgfmaclgegnaaGreatDoorEdL
import Derived.Test.YtcdgfmaclgegnaaGreatDoorTe
namespace Go.Proofs.YtcdgfmaclgegnaaGreatDoor
open Go.RowKit
set_option linter.unusedVariables false

abbrev Ed := Int × Int × Int × ByteArray
def edOk (x : Ed) : Bool := edB x.1 x.2.1 x.2.2.1 x.2.2.2
def allEd (xs : List Ed) : Bool := xs.all edOk
theorem allEd_take {xs : List Ed} {k : Nat} {x : Ed} (h : xs[k]? = some x) (ha : allEd (xs.take k) = true) (hx : edOk x = true) : allEd (xs.take (k + 1)) = true := by
  rw [List.take_add_one, h]
  simp only [allEd, List.all_append, Option.toList_some, List.all_cons, List.all_nil, Bool.and_true, Bool.and_eq_true] at *
  exact ⟨ha, hx⟩
theorem allEd_no {xs : List Ed} {k : Nat} {x : Ed} (h : xs[k]? = some x) (hx : edOk x = false) : allEd xs = false := by
  refine Bool.eq_false_iff.2 fun ha => ?_
  simp only [allEd, List.all_eq_true] at ha
  rw [ha x (List.mem_of_getElem? h)] at hx
  cases hx
theorem allEd_at {xs : List Ed} {k : Nat} {x : Ed} (h : xs[k]? = some x) (ha : allEd xs = true) : edOk x = true := by
  simp only [allEd, List.all_eq_true] at ha
  exact ha x (List.mem_of_getElem? h)

/-! What stays a word. -/
theorem isW_app {s t : ByteArray} (h : ∀ b ∈ s.data.toList, 0 ≤ symNo b.toNat) (h2 : ∀ b ∈ t.data.toList, 0 ≤ symNo b.toNat) : ∀ b ∈ (s ++ t).data.toList, 0 ≤ symNo b.toNat := by
  intro b hb
  rw [ByteArray.data_append, Array.toList_append, List.mem_append] at hb
  exact hb.elim (h b) (h2 b)
theorem isW_ext {s : ByteArray} (h : ∀ b ∈ s.data.toList, 0 ≤ symNo b.toNat) (i j : Nat) : ∀ b ∈ (s.extract i j).data.toList, 0 ≤ symNo b.toNat := by
  intro b hb
  have e : (s.extract i j).data.toList = (s.data.toList.drop i).take (j - i) := by
    simp [ByteArray.data_extract]
  rw [e] at hb
  exact h b (List.mem_of_mem_drop (List.mem_of_mem_take hb))
theorem brk_syms {u : ByteArray} (h : brkB u = true) : ∀ b ∈ u.data.toList, 0 ≤ symNo b.toNat := by
  rcases brk_cases u with rfl | rfl | rfl | rfl | h1
  · decide
  · decide
  · decide
  · decide
  · rw [h1.2.2.2.2] at h; cases h
theorem told_word {x r : ByteArray} {c : Int} (h : toldV x = .tuple #[.string r, .int .i64 c]) (hx : ∀ b ∈ x.data.toList, 0 ≤ symNo b.toNat) (hc : c = 0) : IsW r := by
  subst hc
  by_cases hz : x.size ≤ 60
  · rw [toldV, if_pos hz] at h
    simp only [Value.tuple.injEq, Array.mk.injEq, List.cons.injEq, Value.string.injEq, and_true] at h
    have e : x = r := by simpa using h
    subst e
    exact ⟨hz, hx⟩
  · rw [toldV, if_neg hz] at h
    simp at h

/-- What a step of both answers. -/
def Step (s : ByteArray) (x : Ed) (r : ByteArray) (c : Int) : Prop :=
  (∀ B o w, EdAt w B o x.1 x.2.1 x.2.2.1 x.2.2.2 → Calls Tryz.prog 27 #[.string s, .pointer (some ⟨B, o, none⟩)] w (TupPost (madV r c) w)) ∧
  (∀ w : World, w.cell? ⟨0, 0, none⟩ = some (.iface 152 (.agg #[.pointer (some ⟨7, 59, none⟩)])) → Calls Tryz.prog 30 #[.string s, .agg #[.int .i64 x.1, .int .i64 x.2.1, .int .i64 x.2.2.1, .string x.2.2.2]] w (TupPost (madV r c) w)) ∧
  (c = 0 → IsW r)

theorem put_word (s : ByteArray) (i : Nat) (u : ByteArray) (hs : IsW s) (l2 : u.size ≤ 1048576) : ∃ (r : ByteArray) (code : Int),
    (∀ w, Calls Tryz.prog 49 #[.string s, .int .i64 (i : Int), .string u] w (TupPost (.tuple #[.string r, .int .i64 code]) w)) ∧ (∀ w, Calls Tryz.prog 152 #[.string s, .int .i64 (i : Int), .string u] w (TupPost (.tuple #[.string r, .int .i64 code]) w)) ∧ (code = 0 → IsW r) := by
  have l1 : s.size ≤ 1048576 := by have := hs.1; omega
  by_cases hu : IsW u
  · by_cases hk : i ≤ s.size
    · cases hm : mB u.data.toList with
      | true =>
        obtain ⟨r, code, hr⟩ := toldV_form (putW s u i)
        exact ⟨r, code, fun w => hr ▸ spec_PutAt_yes s u i w hs hu hk hm, fun w => hr ▸ impl_PutAt_yes s u i w hs hu hk hm, told_word hr (isW_app (isW_app (isW_ext hs.2 _ _) hu.2) (isW_ext hs.2 _ _))⟩
      | false => exact ⟨_, _, fun w => spec_PutAt_state s u i w hs hu (by omega) (by omega) hm, fun w => impl_PutAt_state s u i w hs hu (by omega) (by omega) hm, fun h => by cases h⟩
    · exact ⟨_, _, fun w => spec_PutAt_range s u i w hs hu (by omega), fun w => impl_PutAt_range s u i w hs hu (by omega), fun h => by cases h⟩
  · exact ⟨_, _, fun w => spec_PutAt_inv s u i w l1 l2 (fun h => hu h.2), fun w => impl_PutAt_inv s u i w l1 l2 (fun h => hu h.2), fun h => by cases h⟩
theorem cut_word (s : ByteArray) (i : Nat) (hs : IsW s) : ∃ (r : ByteArray) (code : Int),
    (∀ w, Calls Tryz.prog 50 #[.string s, .int .i64 (i : Int)] w (TupPost (.tuple #[.string r, .int .i64 code]) w)) ∧ (∀ w, Calls Tryz.prog 160 #[.string s, .int .i64 (i : Int)] w (TupPost (.tuple #[.string r, .int .i64 code]) w)) ∧ (code = 0 → IsW r) := by
  have l1 : s.size ≤ 1048576 := by have := hs.1; omega
  obtain ⟨q, c, hc, hS, hI⟩ := both_closed s i l1
  rcases hc with ⟨rfl, k, m, hki, rfl, hkm, hm, h60⟩ | hc
  · obtain rfl : i = k := by omega
    exact ⟨_, _, fun w => spec_CutMatched_yes s i m w hkm hm h60 hS, fun w => impl_CutMatched_yes s i m w hkm hm h60 hI, fun _ => ⟨by rw [ByteArray.size_append, ByteArray.size_extract, ByteArray.size_extract]; omega, isW_app (isW_ext hs.2 _ _) (isW_ext hs.2 _ _)⟩⟩
  · exact ⟨_, _, fun w => spec_CutMatched_bad s i q c w hc hS, fun w => impl_CutMatched_bad s i q c w hc hI, fun h => by omega⟩

theorem step_ex (s : ByteArray) (x : Ed) (hW : IsW s) (hx : edOk x = true) : ∃ r c, Step s x r c := by
  obtain ⟨k, a, t, u⟩ := x
  have hs : s.size ≤ 1048576 := by have := hW.1; omega
  have h60 := hW.1
  have h : (wB s && edB k a t u) = true := by rw [(wB_iff s).2 hW]; exact hx
  obtain ⟨k, a, t, rfl, rfl, rfl, hk, ha, ht, _, _, hu6, _, hb⟩ := edB_iff (show edB k a t u = true from hx)
  have hu : u.size ≤ 1048576 := by omega
  obtain rfl | rfl | rfl | rfl | rfl : k = 1 ∨ k = 2 ∨ k = 3 ∨ k = 4 ∨ k = 5 := by omega
  case inl =>
    obtain ⟨r, c, hS, hI, hr⟩ := put_word s a u hW hu
    exact ⟨r, c, fun B o w hx => spec_made_put a t s u r c w hx hS, fun w hg => impl_EditTree1 a t s u r c w hs hu h hg fun w => impl_put a t s u r c w hI, hr⟩
  case inr.inl =>
    obtain ⟨r, c, hS, hI, hr⟩ := cut_word s a hW
    exact ⟨r, c, fun B o w hx => spec_made_cut a t s u r c w hx hS, fun w hg => impl_EditTree2 a t s u r c w hs hu h hg fun w => impl_cut a t s u r c w hI, hr⟩
  case inr.inr.inr.inl =>
    have hbk := hb (.inl rfl)
    have hu2 := brkB_size hbk
    by_cases hr : t < a ∨ s.size < t
    · exact ⟨_, _, fun B o w hx => spec_made_wrap_range a t s u w h60 hx hr, fun w hg => impl_EditTree4 a t s u _ _ w hs hu h hg fun w => impl_wrap_range a t s u w h60 hr, fun h => by cases h⟩
    · cases hm : mB (s.extract a t).data.toList with
      | false => exact ⟨_, _, fun B o w hx => spec_made_wrap_state a t s u w hW hu2 hx (by omega) (by omega) hm, fun w hg => impl_EditTree4 a t s u _ _ w hs hu h hg fun w => impl_wrap_state a t s u w hW hu2 (by omega) (by omega) hm, fun h => by cases h⟩
      | true =>
        have hz := wrap_size s u a t hu2 (by omega) (by omega)
        have hw : ∀ b ∈ (wrapW s u a t).data.toList, 0 ≤ symNo b.toNat := isW_app (isW_app (isW_app (isW_app (isW_ext hW.2 _ _) (isW_ext (brk_syms hbk) _ _)) (isW_ext hW.2 _ _)) (isW_ext (brk_syms hbk) _ _)) (isW_ext hW.2 _ _)
        by_cases hl : s.size + 2 ≤ 60
        · exact ⟨_, _, fun B o w hx => spec_made_wrap_yes a t s u w hW hu2 hx (by omega) (by omega) hm hl, fun w hg => impl_EditTree4 a t s u _ _ w hs hu h hg fun w => impl_wrap_yes a t s u w hW hu2 (by omega) (by omega) hm _ _ (by rw [toldV, if_pos (by omega)]), fun _ => ⟨by omega, hw⟩⟩
        · exact ⟨_, _, fun B o w hx => spec_made_wrap_limit a t s u w hW hu2 hx (by omega) (by omega) hm (by omega), fun w hg => impl_EditTree4 a t s u _ _ w hs hu h hg fun w => impl_wrap_yes a t s u w hW hu2 (by omega) (by omega) hm _ _ (by rw [toldV, if_neg (by omega)]), fun h => by cases h⟩
  case inr.inr.inl =>
    rcases call_cases s a hW with hr | ⟨hk, p, hp, hc | ⟨hc, rfl⟩ | ⟨hc, m, rfl, h1, h2⟩⟩
    · exact ⟨_, _, fun B o w hx => spec_made_call_range 3 a t s u w h60 (.inl rfl) hx hr, fun w hg => impl_EditTree3 a t s u _ _ w hs hu h hg fun w => impl_open a t s u _ _ w fun w => impl_renamed_bad s _ _ a 0 2 w (.inl rfl) fun w => impl_closed_range s a w hW (by omega) (by omega), fun h => by cases h⟩
    · exact ⟨_, _, fun B o w hx => spec_made_call_inner 3 a t s u w hW (.inl rfl) hx hk p hp hc, fun w hg => impl_EditTree3 a t s u _ _ w hs hu h hg fun w => impl_open a t s u _ _ w fun w => impl_renamed_bad s _ _ a 0 4 w (.inr rfl) fun w => impl_closed_inner s w hW a p hk hp hc, fun h => by cases h⟩
    · exact ⟨_, _, fun B o w hx => spec_made_call_pend 3 a t s u w hW (.inl rfl) hx hk _ hp hc (by decide), fun w hg => impl_EditTree3 a t s u _ _ w hs hu h hg fun w => impl_open a t s u _ _ w fun w => impl_renamed_bad s _ _ a 0 4 w (.inr rfl) fun w => impl_closed_pend s w hW a _ hk hp hc rfl, fun h => by cases h⟩
    · have e : openW s a m = s.extract 0 a ++ ⟨#[]⟩ ++ s.extract (a + 1) m ++ ⟨#[]⟩ ++ s.extract (m + 1) s.size := by
        show _ = s.extract 0 a ++ ByteArray.empty ++ s.extract (a + 1) m ++ ByteArray.empty ++ s.extract (m + 1) s.size
        rw [ByteArray.append_empty, ByteArray.append_empty]; rfl
      exact ⟨_, _, fun B o w hx => spec_made_open a t s u w hW hx hk _ hp m rfl h1 h2 hc, fun w hg => impl_EditTree3 a t s u _ _ w hs hu h hg fun w => impl_open a t s u _ _ w fun w => by rw [e]; exact impl_renamed_yes s _ _ a m w h1 h2 h60 (Nat.zero_le _) (Nat.zero_le _) fun w => impl_closed_yes s w hW a _ hk hp hc (by omega),
        fun _ => ⟨by simp only [openW, ByteArray.size_append, ByteArray.size_extract]; omega, isW_app (isW_app (isW_ext hW.2 _ _) (isW_ext hW.2 _ _)) (isW_ext hW.2 _ _)⟩⟩
  case inr.inr.inr.inr =>
    have hbk := hb (.inr rfl)
    have hu2 := brkB_size hbk
    rcases call_cases s a hW with hr | ⟨hk, p, hp, hc | ⟨hc, rfl⟩ | ⟨hc, m, rfl, h1, h2⟩⟩
    · exact ⟨_, _, fun B o w hx => spec_made_call_range 5 a t s u w h60 (.inr rfl) hx hr, fun w hg => impl_EditTree5 a t s u _ _ w hs hu h hg fun w => impl_name a t s u _ _ w hu2 fun w => impl_renamed_bad s _ _ a 0 2 w (.inl rfl) fun w => impl_closed_range s a w hW (by omega) (by omega), fun h => by cases h⟩
    · exact ⟨_, _, fun B o w hx => spec_made_call_inner 5 a t s u w hW (.inr rfl) hx hk p hp hc, fun w hg => impl_EditTree5 a t s u _ _ w hs hu h hg fun w => impl_name a t s u _ _ w hu2 fun w => impl_renamed_bad s _ _ a 0 4 w (.inr rfl) fun w => impl_closed_inner s w hW a p hk hp hc, fun h => by cases h⟩
    · exact ⟨_, _, fun B o w hx => spec_made_call_pend 5 a t s u w hW (.inr rfl) hx hk _ hp hc (by decide), fun w hg => impl_EditTree5 a t s u _ _ w hs hu h hg fun w => impl_name a t s u _ _ w hu2 fun w => impl_renamed_bad s _ _ a 0 4 w (.inr rfl) fun w => impl_closed_pend s w hW a _ hk hp hc rfl, fun h => by cases h⟩
    · exact ⟨_, _, fun B o w hx => spec_made_name a t s u w hW hx hk _ hp m rfl h1 h2 hc hu2, fun w hg => impl_EditTree5 a t s u _ _ w hs hu h hg fun w => impl_name a t s u _ _ w hu2 fun w => impl_renamed_yes s _ _ a m w h1 h2 h60 (one_le u) (rest_le u hu2) fun w => impl_closed_yes s w hW a _ hk hp hc (by omega),
        fun _ => ⟨by simp only [nameW, ByteArray.size_append, ByteArray.size_extract]; omega, isW_app (isW_app (isW_app (isW_app (isW_ext hW.2 _ _) (isW_ext (brk_syms hbk) _ _)) (isW_ext hW.2 _ _)) (isW_ext (brk_syms hbk) _ _)) (isW_ext hW.2 _ _)⟩⟩

/-- One step. -/
noncomputable def nxt (s : ByteArray) (x : Ed) : ByteArray × Int := open Classical in if h : ∃ p : ByteArray × Int, Step s x p.1 p.2 then Classical.choose h else (s, 1)
theorem nxt_step (s : ByteArray) (x : Ed) (hW : IsW s) (hx : edOk x = true) : Step s x (nxt s x).1 (nxt s x).2 := by
  obtain ⟨r, c, h⟩ := step_ex s x hW hx
  have hh : ∃ p : ByteArray × Int, Step s x p.1 p.2 := ⟨(r, c), h⟩
  unfold nxt
  rw [dif_pos hh]
  exact Classical.choose_spec hh
noncomputable def goE (p : ByteArray × Nat) (x : Ed) : ByteArray × Nat := if (nxt p.1 x).2 = 0 then ((nxt p.1 x).1, p.2 + 1) else p
/-- The word behind all, and how many were made. -/
noncomputable def runE (s : ByteArray) (xs : List Ed) : ByteArray × Nat := xs.foldl goE (s, 0)
theorem runE_succ {s : ByteArray} {xs : List Ed} {k : Nat} {x : Ed} (h : xs[k]? = some x) : runE s (xs.take (k + 1)) = goE (runE s (xs.take k)) x := by
  rw [runE, List.take_add_one, h, List.foldl_append]
  rfl
theorem runE_ok {s : ByteArray} (hW : IsW s) {xs : List Ed} (ha : allEd xs = true) : IsW (runE s xs).1 ∧ (runE s xs).2 ≤ xs.length := by
  have key : ∀ (xs : List Ed) (p : ByteArray × Nat) (m : Nat), allEd xs = true → IsW p.1 → p.2 ≤ m → IsW (xs.foldl goE p).1 ∧ (xs.foldl goE p).2 ≤ m + xs.length := by
    intro xs
    induction xs with
    | nil => intro p m _ h1 h2; exact ⟨h1, h2⟩
    | cons x xs ih =>
      intro p m ha h1 h2
      simp only [allEd, List.all_cons, Bool.and_eq_true] at ha
      have hst := nxt_step p.1 x h1 ha.1
      have hg : IsW (goE p x).1 ∧ (goE p x).2 ≤ m + 1 := by
        unfold goE
        split
        · rename_i hc
          exact ⟨hst.2.2 hc, by show p.2 + 1 ≤ m + 1; omega⟩
        · exact ⟨h1, by omega⟩
      have := ih (goE p x) (m + 1) ha.2 hg.1 hg.2
      refine ⟨this.1, ?_⟩
      rw [List.foldl_cons, List.length_cons]
      omega
  have := key xs (s, 0) 0 ha hW (Nat.le_refl _)
  exact ⟨this.1, by have := this.2; unfold runE; omega⟩
theorem allEd_pre {xs : List Ed} (k : Nat) (ha : allEd xs = true) : allEd (xs.take k) = true := by
  simp only [allEd, List.all_eq_true] at *
  exact fun x hx => ha x (List.mem_of_mem_take hx)
end Go.Proofs.YtcdgfmaclgegnaaGreatDoor
