/- Tests of steps, of the program. -/
import Derived.Test.YtdehehdcjfaefacQTestS
import Derived.Test.YtdehehdcjfaefacShelf
namespace Go.Proofs.Ytdehehdcjfaefac
open Go.RowKit
set_option linter.unusedVariables false

theorem idx_test (b : UInt8) : decide ((0 : Int) ≤ Lib.indexByte [40, 91, 97, 98, 42, 46] ((b.toNat : Int).toNat.toUInt8)) = isTst b.toNat := by
  have e : ((b.toNat : Int).toNat.toUInt8) = b := by simp
  rw [e]
  by_cases h0 : b = 40
  · subst h0; rfl
  by_cases h1 : b = 91
  · subst h1; rfl
  by_cases h2 : b = 97
  · subst h2; rfl
  by_cases h3 : b = 98
  · subst h3; rfl
  by_cases h4 : b = 42
  · subst h4; rfl
  by_cases h5 : b = 46
  · subst h5; rfl
  have ne (k : UInt8) (h : ¬ b = k) : ((b.toNat : Int) == k.toNat) = false := beq_eq_false_iff_ne.2 fun e => h (UInt8.toNat_inj.1 (by omega))
  have n0 := ne _ h0
  have n1 := ne _ h1
  have n2 := ne _ h2
  have n3 := ne _ h3
  have n4 := ne _ h4
  have n5 := ne _ h5
  have f (k : UInt8) (h : ¬ b = k) : (k == b) = false := by simpa using fun e => h e.symm
  simp only [UInt8.reduceToNat, Int.cast_ofNat_Int] at n0 n1 n2 n3 n4 n5
  simp only [Lib.indexByte, f _ h0, f _ h1, f _ h2, f _ h3, f _ h4, f _ h5, isTst, n0, n1, n2, n3, n4, n5]
  rfl
theorem lite_index (s : ByteArray) (c : Int) (w : World) : Calls Try.prog 106 #[.string s, .int .u8 c] w fun e w' => e = .returned (.int .i64 (Lib.indexByte s.data.toList c.toNat.toUInt8)) ∧ w' = w :=
  Any.stringslite_IndexByte { Try.lays137 with } s c w
set_option maxHeartbeats 1600000 in
theorem lite_tests (b : UInt8) (w : World) : Calls Try.prog 104 #[.string ⟨#[40, 91, 97, 98, 42, 46]⟩, .string ⟨#[b]⟩] w fun e w' => e = .returned (.int .i64 (Lib.indexByte [40, 91, 97, 98, 42, 46] ((b.toNat : Int).toNat.toUInt8))) ∧ w = w' := by
  have H := Lib.hid (fun w => lite_index ⟨#[40, 91, 97, 98, 42, 46]⟩ (b.toNat : Int) w)
  have hz : (⟨#[b]⟩ : ByteArray).size = 1 := rfl
  go_enter Try.func104, Try.ntmps104
  go_wp2_with (go_at_call 106; refine (H.out _).mono ?_; rintro e w' ⟨rfl, rfl⟩)
  go_ret
  exact ⟨by simp, rfl⟩
set_option maxHeartbeats 1600000 in
theorem index_tests (b : UInt8) (w : World) : Calls Try.prog 76 #[.string ⟨#[40, 91, 97, 98, 42, 46]⟩, .string ⟨#[b]⟩] w fun e w' => e = .returned (.bool (isTst b.toNat)) ∧ w = w' := by
  have H := Lib.hid (fun w => lite_tests b w)
  have hi := idx_test b
  rw [← hi]
  generalize Lib.indexByte [40, 91, 97, 98, 42, 46] ((b.toNat : Int).toNat.toUInt8) = n at *
  clear hi
  have H2 : ∀ w, Calls Try.prog 96 #[.string ⟨#[40, 91, 97, 98, 42, 46]⟩, .string ⟨#[b]⟩] w fun e w' => e = .returned (.int .i64 n) ∧ w = w' := by
    intro w
    go_enter Try.func96, Try.ntmps96
    go_wp2_with (go_at_call 104; refine (H.out _).mono ?_; rintro e w' ⟨rfl, rfl⟩)
    go_ret
    exact ⟨rfl, rfl⟩
  have H3 := Lib.hid H2
  clear H2 H
  go_enter Try.func76, Try.ntmps76
  go_wp2_with (go_at_call 96; refine (H3.out _).mono ?_; rintro e w' ⟨rfl, rfl⟩)
  go_ret
  exact ⟨rfl, rfl⟩
set_option maxHeartbeats 1600000 in
theorem impl_isTest (t : ByteArray) (w : World) : Calls Try.prog 37 #[.string t] w fun e w' => e = .returned (.bool (testB t)) ∧ w = w' := by
  by_cases h : t.size = 1
  · obtain ⟨b, rfl⟩ := one_byte h
    have e : testB ⟨#[b]⟩ = isTst b.toNat := rfl
    rw [e]
    have H := Lib.hid (fun w => index_tests b w)
    generalize isTst (b.toNat : Int) = r at *
    clear e
    have hz : (⟨#[b]⟩ : ByteArray).size = 1 := rfl
    clear h
    go_enter Try.func37, Try.ntmps37
    go_wp2_with (go_at_call 76; refine (H.out _).mono ?_; rintro e w' ⟨rfl, rfl⟩)
    go_ret
    exact ⟨rfl, rfl⟩
  · have e : testB t = false := by
      unfold testB tstN
      rw [if_neg h]
      rfl
    rw [e]
    have hdi : ((t.size : Int) == 1) = false := by
      simp only [beq_eq_false_iff_ne]; omega
    have hdn : decide ((t.size : Int) = 1) = false := by simp; omega
    have hin : ¬ ((t.size : Int) = 1) := by omega
    clear e
    go_enter Try.func37, Try.ntmps37
    go_wp2
    go_ret
    exact ⟨rfl, rfl⟩
set_option maxHeartbeats 6400000 in
theorem impl_passes (t : ByteArray) (n : Int) (w : World) (ht : testB t = true) (hn : 0 ≤ n ∧ n ≤ 5) :
    Calls Try.prog 46 #[.string t, .int .u8 n] w fun e w' => e = .returned (.bool (passB (tstN t) n)) ∧ w = w' := by
  rcases tst_cases t with rfl | rfl | rfl | rfl | rfl | rfl | h
  case inr.inr.inr.inr.inr.inr => rw [h] at ht; cases ht
  all_goals
    rcases six n hn with rfl | rfl | rfl | rfl | rfl | rfl
    all_goals
      go_enter Try.func46, Try.ntmps46
      go_wp2_with (first
        | (go_at_call 82; refine (impl_isCall _ _).mono ?_; rintro e w' ⟨rfl, rfl⟩)
        | (go_at_call 83; refine (impl_isReturn _ _ (by omega)).mono ?_; rintro e w' ⟨rfl, rfl⟩)
        | (go_at_call 84; refine (impl_text _ _ (by omega)).mono ?_; rintro e w' ⟨rfl, rfl⟩))
      go_ret
      exact ⟨rfl, rfl⟩
end Go.Proofs.Ytdehehdcjfaefac
