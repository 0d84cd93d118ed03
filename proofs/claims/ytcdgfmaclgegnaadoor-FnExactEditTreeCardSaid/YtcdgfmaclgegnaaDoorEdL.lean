/- EditTree: both answer the same. -/
import Derived.Test.YtcdgfmaclgegnaaDoorEdK
namespace Go.Proofs.YtcdgfmaclgegnaaDoor
open Go.RowKit
set_option linter.unusedVariables false

theorem wf_small (a : Nat) (h : a ≤ 60) : (Lit.int .i64 (a : Int)).wf = true := by
  have : ∀ n : Fin 61, (Lit.int .i64 (n.val : Int)).wf = true := by decide
  exact this ⟨a, by omega⟩
theorem wrap_size (s u : ByteArray) (a t : Nat) (hu : u.size = 2) (ha : a ≤ t) (ht : t ≤ s.size) : (wrapW s u a t).size = s.size + 2 := by
  simp only [wrapW, ByteArray.size_append, ByteArray.size_extract]
  omega
/-- What the call and the return of an edit's place are: none behind the word, no matched call, or both. -/
theorem call_cases (s : ByteArray) (a : Nat) (hs : IsW s) : s.size ≤ a ∨ (∃ h : a < s.size, ∃ p : Int, (prts (ksOf s.data.toList))[a]? = some p ∧ (callB (s[a].toNat : Int) = false ∨ (callB (s[a].toNat : Int) = true ∧ p = -2) ∨ (callB (s[a].toNat : Int) = true ∧ ∃ m : Nat, p = (m : Int) ∧ a < m ∧ m < s.size))) := by
  by_cases hk : a < s.size
  case neg => exact .inl (by omega)
  refine .inr ⟨hk, ?_⟩
  have hlk : s.data.toList[a]? = some s[a] := by rw [List.getElem?_eq_getElem (by simpa using hk)]; rfl
  have hkk := ksOf_at _ _ _ hlk
  have hpl : (prts (ksOf s.data.toList)).length = s.size := by rw [prts_len, ksOf_len]; simp
  have hkl : (ksOf s.data.toList).length = s.size := by rw [ksOf_len]; simp
  obtain ⟨p, hp⟩ : ∃ p, (prts (ksOf s.data.toList))[a]? = some p := ⟨_, List.getElem?_eq_getElem (by omega)⟩
  refine ⟨p, hp, ?_⟩
  cases hc : callB (s[a].toNat : Int) with
  | false => exact .inl rfl
  | true =>
    rw [kind_call hc] at hkk
    rcases prts_at_call _ _ hkk with h1 | ⟨q, h1, h2, h3⟩
    · rw [hp] at h1
      exact .inr (.inl ⟨rfl, Option.some.inj h1⟩)
    · rw [hp] at h3
      exact .inr (.inr ⟨rfl, q, Option.some.inj h3, h1, by omega⟩)

theorem both_EditTree (k a t : Int) (s u : ByteArray) (hs : s.size ≤ 1048576) (hu : u.size ≤ 1048576) : ∃ (r : ByteArray) (c : Int),
    (∀ w, Calls Tryd.prog 9 #[.string s, .agg (EdA k a t u)] w (TupPost (madV r c) w)) ∧
    (∀ w : World, w.cell? ⟨0, 0, none⟩ = some (.iface 142 (.agg #[.pointer (some ⟨5, 47, none⟩)])) → Calls Tryd.prog 10 #[.string s, .agg (EdA k a t u)] w (TupPost (madV r c) w)) := by
  cases h : wB s && edB k a t u with
  | false => exact ⟨_, _, fun w => spec_EditTree_no k a t s u w hs hu h, fun w _ => impl_EditTree_no k a t s u w hs hu h⟩
  | true =>
    have h' := h
    rw [Bool.and_eq_true] at h'
    have hW := (wB_iff s).1 h'.1
    have h60 := hW.1
    obtain ⟨k, a, t, rfl, rfl, rfl, hk, ha, ht, _, _, _, _, hb⟩ := edB_iff h'.2
    obtain rfl | rfl | rfl | rfl | rfl : k = 1 ∨ k = 2 ∨ k = 3 ∨ k = 4 ∨ k = 5 := by omega
    case inl =>
      obtain ⟨r, c, hS, hI⟩ := both_PutAt s a u hs hu (wf_small a ha)
      exact ⟨r, c, fun w => spec_EditTree_yes 1 a t s u r c w hs hu h fun B w hx => spec_made_put a t s u r c w hx hS, fun w hg => impl_EditTree1 a t s u r c w hs hu h hg fun w => impl_put a t s u r c w hI⟩
    case inr.inl =>
      obtain ⟨r, c, hS, hI⟩ := both_CutMatched s a hs (wf_small a ha)
      exact ⟨r, c, fun w => spec_EditTree_yes 2 a t s u r c w hs hu h fun B w hx => spec_made_cut a t s u r c w hx hS, fun w hg => impl_EditTree2 a t s u r c w hs hu h hg fun w => impl_cut a t s u r c w hI⟩
    case inr.inr.inr.inl =>
      have hu2 := brkB_size (hb (.inl rfl))
      by_cases hr : t < a ∨ s.size < t
      · exact ⟨_, _, fun w => spec_EditTree_yes 4 a t s u _ _ w hs hu h fun B w hx => spec_made_wrap_range a t s u w h60 hx hr, fun w hg => impl_EditTree4 a t s u _ _ w hs hu h hg fun w => impl_wrap_range a t s u w h60 hr⟩
      · cases hm : mB (s.extract a t).data.toList with
        | false => exact ⟨_, _, fun w => spec_EditTree_yes 4 a t s u _ _ w hs hu h fun B w hx => spec_made_wrap_state a t s u w hW hu2 hx (by omega) (by omega) hm, fun w hg => impl_EditTree4 a t s u _ _ w hs hu h hg fun w => impl_wrap_state a t s u w hW hu2 (by omega) (by omega) hm⟩
        | true =>
          have hz := wrap_size s u a t hu2 (by omega) (by omega)
          by_cases hl : s.size + 2 ≤ 60
          · exact ⟨_, _, fun w => spec_EditTree_yes 4 a t s u _ _ w hs hu h fun B w hx => spec_made_wrap_yes a t s u w hW hu2 hx (by omega) (by omega) hm hl, fun w hg => impl_EditTree4 a t s u _ _ w hs hu h hg fun w => impl_wrap_yes a t s u w hW hu2 (by omega) (by omega) hm _ _ (by rw [toldV, if_pos (by omega)])⟩
          · exact ⟨_, _, fun w => spec_EditTree_yes 4 a t s u _ _ w hs hu h fun B w hx => spec_made_wrap_limit a t s u w hW hu2 hx (by omega) (by omega) hm (by omega), fun w hg => impl_EditTree4 a t s u _ _ w hs hu h hg fun w => impl_wrap_yes a t s u w hW hu2 (by omega) (by omega) hm _ _ (by rw [toldV, if_neg (by omega)])⟩
    case inr.inr.inl =>
      rcases call_cases s a hW with hr | ⟨hk, p, hp, hc | ⟨hc, rfl⟩ | ⟨hc, m, rfl, h1, h2⟩⟩
      · exact ⟨_, _, fun w => spec_EditTree_yes 3 a t s u _ _ w hs hu h fun B w hx => spec_made_call_range 3 a t s u w h60 (.inl rfl) hx hr, fun w hg => impl_EditTree3 a t s u _ _ w hs hu h hg fun w => impl_open a t s u _ _ w fun w => impl_renamed_bad s _ _ a 0 2 w (.inl rfl) fun w => impl_closed_range s a w hW (by omega) (by omega)⟩
      · exact ⟨_, _, fun w => spec_EditTree_yes 3 a t s u _ _ w hs hu h fun B w hx => spec_made_call_inner 3 a t s u w hW (.inl rfl) hx hk p hp hc, fun w hg => impl_EditTree3 a t s u _ _ w hs hu h hg fun w => impl_open a t s u _ _ w fun w => impl_renamed_bad s _ _ a 0 4 w (.inr rfl) fun w => impl_closed_inner s w hW a p hk hp hc⟩
      · exact ⟨_, _, fun w => spec_EditTree_yes 3 a t s u _ _ w hs hu h fun B w hx => spec_made_call_pend 3 a t s u w hW (.inl rfl) hx hk _ hp hc (by decide), fun w hg => impl_EditTree3 a t s u _ _ w hs hu h hg fun w => impl_open a t s u _ _ w fun w => impl_renamed_bad s _ _ a 0 4 w (.inr rfl) fun w => impl_closed_pend s w hW a _ hk hp hc rfl⟩
      · have e : openW s a m = s.extract 0 a ++ ⟨#[]⟩ ++ s.extract (a + 1) m ++ ⟨#[]⟩ ++ s.extract (m + 1) s.size := by
          show _ = s.extract 0 a ++ ByteArray.empty ++ s.extract (a + 1) m ++ ByteArray.empty ++ s.extract (m + 1) s.size
          rw [ByteArray.append_empty, ByteArray.append_empty]; rfl
        exact ⟨_, _, fun w => spec_EditTree_yes 3 a t s u _ _ w hs hu h fun B w hx => spec_made_open a t s u w hW hx hk _ hp m rfl h1 h2 hc, fun w hg => impl_EditTree3 a t s u _ _ w hs hu h hg fun w => impl_open a t s u _ _ w fun w => by rw [e]; exact impl_renamed_yes s _ _ a m w h1 h2 h60 (Nat.zero_le _) (Nat.zero_le _) fun w => impl_closed_yes s w hW a _ hk hp hc (by omega)⟩
    case inr.inr.inr.inr =>
      have hu2 := brkB_size (hb (.inr rfl))
      rcases call_cases s a hW with hr | ⟨hk, p, hp, hc | ⟨hc, rfl⟩ | ⟨hc, m, rfl, h1, h2⟩⟩
      · exact ⟨_, _, fun w => spec_EditTree_yes 5 a t s u _ _ w hs hu h fun B w hx => spec_made_call_range 5 a t s u w h60 (.inr rfl) hx hr, fun w hg => impl_EditTree5 a t s u _ _ w hs hu h hg fun w => impl_name a t s u _ _ w hu2 fun w => impl_renamed_bad s _ _ a 0 2 w (.inl rfl) fun w => impl_closed_range s a w hW (by omega) (by omega)⟩
      · exact ⟨_, _, fun w => spec_EditTree_yes 5 a t s u _ _ w hs hu h fun B w hx => spec_made_call_inner 5 a t s u w hW (.inr rfl) hx hk p hp hc, fun w hg => impl_EditTree5 a t s u _ _ w hs hu h hg fun w => impl_name a t s u _ _ w hu2 fun w => impl_renamed_bad s _ _ a 0 4 w (.inr rfl) fun w => impl_closed_inner s w hW a p hk hp hc⟩
      · exact ⟨_, _, fun w => spec_EditTree_yes 5 a t s u _ _ w hs hu h fun B w hx => spec_made_call_pend 5 a t s u w hW (.inr rfl) hx hk _ hp hc (by decide), fun w hg => impl_EditTree5 a t s u _ _ w hs hu h hg fun w => impl_name a t s u _ _ w hu2 fun w => impl_renamed_bad s _ _ a 0 4 w (.inr rfl) fun w => impl_closed_pend s w hW a _ hk hp hc rfl⟩
      · exact ⟨_, _, fun w => spec_EditTree_yes 5 a t s u _ _ w hs hu h fun B w hx => spec_made_name a t s u w hW hx hk _ hp m rfl h1 h2 hc hu2, fun w hg => impl_EditTree5 a t s u _ _ w hs hu h hg fun w => impl_name a t s u _ _ w hu2 fun w => impl_renamed_yes s _ _ a m w h1 h2 h60 (one_le u) (rest_le u hu2) fun w => impl_closed_yes s w hW a _ hk hp hc (by omega)⟩
end Go.Proofs.YtcdgfmaclgegnaaDoor
