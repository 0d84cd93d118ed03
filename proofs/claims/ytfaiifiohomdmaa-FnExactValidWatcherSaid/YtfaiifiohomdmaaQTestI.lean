/- Tests of steps, of the program. -/
import Derived.Test.YtfaiifiohomdmaaQTestS
import Derived.Test.YtfaiifiohomdmaaShelf
namespace Go.Proofs.Ytfaiifiohomdmaa
open Go.RowKit
set_option linter.unusedVariables false

theorem idx_test (b : UInt8) : decide ((0 : Int) ≤ Lib.indexByte [40, 91, 97, 98, 42, 46] ((b.toNat : Int).toNat.toUInt8)) = isTst b.toNat := by
  have e : ((b.toNat : Int).toNat.toUInt8) = b := by simp
  rw [e]
  by_cases h0 : b = 40
  · subst h0; rfl
  by_cases h1 : b = 91
  · subst h1; rfl
  by_cases h2 : b = 97
  · subst h2; rfl
  by_cases h3 : b = 98
  · subst h3; rfl
  by_cases h4 : b = 42
  · subst h4; rfl
  by_cases h5 : b = 46
  · subst h5; rfl
  have ne (k : UInt8) (h : ¬ b = k) : ((b.toNat : Int) == k.toNat) = false := beq_eq_false_iff_ne.2 fun e => h (UInt8.toNat_inj.1 (by omega))
  have n0 := ne _ h0
  have n1 := ne _ h1
  have n2 := ne _ h2
  have n3 := ne _ h3
  have n4 := ne _ h4
  have n5 := ne _ h5
  have f (k : UInt8) (h : ¬ b = k) : (k == b) = false := by simpa using fun e => h e.symm
  simp only [UInt8.reduceToNat, Int.cast_ofNat_Int] at n0 n1 n2 n3 n4 n5
  simp only [Lib.indexByte, f _ h0, f _ h1, f _ h2, f _ h3, f _ h4, f _ h5, isTst, n0, n1, n2, n3, n4, n5]
  rfl
theorem lite_index (s : ByteArray) (c : Int) (w : World) : Calls Try.prog 234 #[.string s, .int .u8 c] w fun e w' => e = .returned (.int .i64 (Lib.indexByte s.data.toList c.toNat.toUInt8)) ∧ w' = w :=
  Any.stringslite_IndexByte Try.lays217 s c w
set_option maxHeartbeats 1600000 in
theorem lite_tests (b : UInt8) (w : World) : Calls Try.prog 233 #[.string ⟨#[40, 91, 97, 98, 42, 46]⟩, .string ⟨#[b]⟩] w fun e w' => e = .returned (.int .i64 (Lib.indexByte [40, 91, 97, 98, 42, 46] ((b.toNat : Int).toNat.toUInt8))) ∧ w = w' := by
  have H := Lib.hid (fun w => lite_index ⟨#[40, 91, 97, 98, 42, 46]⟩ (b.toNat : Int) w)
  have hz : (⟨#[b]⟩ : ByteArray).size = 1 := rfl
  go_enter Try.func233, Try.ntmps233
  go_wp2_with (go_at_call 234; refine (H.out _).mono ?_; rintro e w' ⟨rfl, rfl⟩)
  go_ret
  exact ⟨by simp, rfl⟩
set_option maxHeartbeats 1600000 in
theorem index_tests (b : UInt8) (w : World) : Calls Try.prog 215 #[.string ⟨#[40, 91, 97, 98, 42, 46]⟩, .string ⟨#[b]⟩] w fun e w' => e = .returned (.bool (isTst b.toNat)) ∧ w = w' := by
  have H := Lib.hid (fun w => lite_tests b w)
  have hi := idx_test b
  rw [← hi]
  generalize Lib.indexByte [40, 91, 97, 98, 42, 46] ((b.toNat : Int).toNat.toUInt8) = n at *
  clear hi
  have H2 : ∀ w, Calls Try.prog 229 #[.string ⟨#[40, 91, 97, 98, 42, 46]⟩, .string ⟨#[b]⟩] w fun e w' => e = .returned (.int .i64 n) ∧ w = w' := by
    intro w
    go_enter Try.func229, Try.ntmps229
    go_wp2_with (go_at_call 233; refine (H.out _).mono ?_; rintro e w' ⟨rfl, rfl⟩)
    go_ret
    exact ⟨rfl, rfl⟩
  have H3 := Lib.hid H2
  clear H2 H
  go_enter Try.func215, Try.ntmps215
  go_wp2_with (go_at_call 229; refine (H3.out _).mono ?_; rintro e w' ⟨rfl, rfl⟩)
  go_ret
  exact ⟨rfl, rfl⟩
set_option maxHeartbeats 1600000 in
theorem impl_isTest (t : ByteArray) (w : World) : Calls Try.prog 183 #[.string t] w fun e w' => e = .returned (.bool (testB t)) ∧ w = w' := by
  by_cases h : t.size = 1
  · obtain ⟨b, rfl⟩ := one_byte h
    have e : testB ⟨#[b]⟩ = isTst b.toNat := rfl
    rw [e]
    have H := Lib.hid (fun w => index_tests b w)
    generalize isTst (b.toNat : Int) = r at *
    clear e
    have hz : (⟨#[b]⟩ : ByteArray).size = 1 := rfl
    clear h
    go_enter Try.func183, Try.ntmps183
    go_wp2_with (go_at_call 215; refine (H.out _).mono ?_; rintro e w' ⟨rfl, rfl⟩)
    go_ret
    exact ⟨rfl, rfl⟩
  · have e : testB t = false := by
      unfold testB tstN
      rw [if_neg h]
      rfl
    rw [e]
    have hdi : ((t.size : Int) == 1) = false := by
      simp only [beq_eq_false_iff_ne]; omega
    have hdn : decide ((t.size : Int) = 1) = false := by simp; omega
    have hin : ¬ ((t.size : Int) = 1) := by omega
    clear e
    go_enter Try.func183, Try.ntmps183
    go_wp2
    go_ret
    exact ⟨rfl, rfl⟩
end Go.Proofs.Ytfaiifiohomdmaa
