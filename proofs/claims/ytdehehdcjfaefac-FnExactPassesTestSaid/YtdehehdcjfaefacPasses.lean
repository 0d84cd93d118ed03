/- PassesTest, of the model and of the program. -/
import Derived.Test.YtdehehdcjfaefacOneSym
import Derived.Test.YtdehehdcjfaefacQTestS
import Derived.Test.YtdehehdcjfaefacQTestI
namespace Go.Proofs.Ytdehehdcjfaefac
open Go.RowKit
set_option linter.unusedVariables false

set_option maxHeartbeats 1600000 in
theorem spec_Passes_no (t s : ByteArray) (w : World) (hs : s.size ≤ 1048576) (h : testB t = false ∨ ¬ OneW s) :
    Calls Try.prog 17 #[.string t, .string s] w (TupPost (.tuple #[.bool false, .int .i64 2]) w) := by
  cases ht : testB t with
  | false =>
    have Ht := fun w => spec_test t w
    rw [ht] at Ht
    have HT := Lib.hid Ht
    clear h Ht ht
    go_enter Try.func17, Try.ntmps17
    go_wp2_with (first
      | (go_at_call 42; refine (HT.out _).mono ?_; rintro e w' ⟨rfl, rfl⟩))
    go_ret2
    exact ⟨rfl, Below.refl _ _⟩
  | true =>
    have h1 : ¬ OneW s := by rcases h with h | h; rw [h] at ht; cases ht; exact h
    have Ht := fun w => spec_test t w
    rw [ht] at Ht
    have HT := Lib.hid Ht
    clear h Ht ht
    by_cases hz : s.size = 1
    · have hw : ¬ IsW s := fun hw => h1 (isW_one hw hz)
      have Hw := Lib.hid (fun w => spec_ok_no s w hs hw)
      clear hw h1
      go_enter Try.func17, Try.ntmps17
      go_wp2_with (first
        | (go_at_call 42; refine (HT.out _).mono ?_; rintro e w' ⟨rfl, rfl⟩)
        | (go_at_call 43; refine (Hw.out _).mono ?_; rintro e w' ⟨rfl, rfl⟩))
      go_ret2
      exact ⟨rfl, Below.refl _ _⟩
    · have hdi : ((s.size : Int) == 1) = false := by
        simp only [beq_eq_false_iff_ne]; omega
      have hdn : ((s.size : Int) != 1) = true := by simp only [bne_iff_ne]; omega
      have hin : ¬ ((s.size : Int) = 1) := by omega
      clear h1
      go_enter Try.func17, Try.ntmps17
      go_wp2_with (first
        | (go_at_call 42; refine (HT.out _).mono ?_; rintro e w' ⟨rfl, rfl⟩))
      go_ret2
      exact ⟨rfl, Below.refl _ _⟩
set_option maxHeartbeats 1600000 in
theorem spec_Passes_yes (t : ByteArray) (b : UInt8) (w : World) (ht : testB t = true) (hb : 0 ≤ symNo b.toNat) :
    Calls Try.prog 17 #[.string t, .string ⟨#[b]⟩] w (TupPost (.tuple #[.bool (passB (tstN t) (symNo b.toNat)), .int .i64 0]) w) := by
  have Ht := fun w => spec_test t w
  have hp := fun w => spec_passes t b w ht hb
  rw [ht] at Ht
  have HT := Lib.hid Ht
  have Hw := Lib.hid (fun w => spec_ok_yes ⟨#[b]⟩ w (oneW_isW ⟨b, rfl, hb⟩))
  have hz : (⟨#[b]⟩ : ByteArray).size = 1 := rfl
  generalize passB (tstN t) (symNo b.toNat) = r at hp ⊢
  have Hp := Lib.hid hp
  clear Ht hp ht hb
  go_enter Try.func17, Try.ntmps17
  go_wp2_with (first
    | (go_at_call 42; refine (HT.out _).mono ?_; rintro e w' ⟨rfl, rfl⟩)
    | (go_at_call 43; refine (Hw.out _).mono ?_; rintro e w' ⟨rfl, rfl⟩)
    | (go_at_call 44; refine (Hp.out _).mono ?_; rintro e w' ⟨rfl, hb⟩))
  go_ret2
  exact ⟨rfl, hb⟩
set_option maxHeartbeats 1600000 in
theorem impl_Passes_no (t s : ByteArray) (w : World) (hs : s.size ≤ 1048576) (h : testB t = false ∨ ¬ OneW s) :
    Calls Try.prog 18 #[.string t, .string s] w (TupPost (.tuple #[.bool false, .int .i64 2]) w) := by
  by_cases h1 : OneW s
  · have ht : testB t = false := by rcases h with h | h; exact h; exact absurd h1 h
    obtain ⟨b, rfl, hb⟩ := h1
    have Hy := Lib.hid (fun w => one_yes b w hb)
    have hi := fun w => impl_isTest t w
    rw [ht] at hi
    have Hi := Lib.hid hi
    clear hi h hb ht
    go_enter Try.func18, Try.ntmps18
    go_wp2_with fail
    refine (Hy.out _).mono ?_
    rintro e w1 ⟨rfl, hb1⟩
    go_wp2_with fail
    refine (Hi.out _).mono ?_
    rintro e w2 ⟨rfl, rfl⟩
    go_wp2
    go_ret2
    exact ⟨rfl, hb1⟩
  · have Hy := Lib.hid (fun w => one_no s w hs h1)
    clear h h1
    go_enter Try.func18, Try.ntmps18
    go_wp2_with fail
    refine (Hy.out _).mono ?_
    rintro e w1 ⟨rfl, hb1⟩
    go_wp2
    go_ret2
    exact ⟨rfl, hb1⟩
set_option maxHeartbeats 1600000 in
theorem impl_Passes_yes (t : ByteArray) (b : UInt8) (w : World) (ht : testB t = true) (hb : 0 ≤ symNo b.toNat) :
    Calls Try.prog 18 #[.string t, .string ⟨#[b]⟩] w (TupPost (.tuple #[.bool (passB (tstN t) (symNo b.toNat)), .int .i64 0]) w) := by
  have Hy := Lib.hid (fun w => one_yes b w hb)
  have hi := fun w => impl_isTest t w
  rw [ht] at hi
  have Hi := Lib.hid hi
  have hp := fun w => impl_passes t (symNo b.toNat) w ht ⟨hb, symNo_le _⟩
  generalize passB (tstN t) (symNo b.toNat) = r at hp ⊢
  have Hp := Lib.hid hp
  clear hi hb ht hp
  go_enter Try.func18, Try.ntmps18
  go_wp2_with fail
  refine (Hy.out _).mono ?_
  rintro e w1 ⟨rfl, hb1⟩
  go_wp2_with fail
  refine (Hi.out _).mono ?_
  rintro e w2 ⟨rfl, rfl⟩
  go_wp2_with fail
  refine (Hp.out _).mono ?_
  rintro e w3 ⟨rfl, rfl⟩
  go_wp2
  go_ret2
  exact ⟨rfl, hb1⟩
theorem both_PassesTest (t s : ByteArray) (ht : t.size ≤ 1048576) (hs : s.size ≤ 1048576) : ∃ (r0 : Bool) (r1 : Int),
    (∀ w, Calls Try.prog 17 #[.string t, .string s] w (TupPost (.tuple #[.bool r0, .int .i64 r1]) w)) ∧
    (∀ w, Calls Try.prog 18 #[.string t, .string s] w (TupPost (.tuple #[.bool r0, .int .i64 r1]) w)) := by
  by_cases h : testB t = false ∨ ¬ OneW s
  · exact ⟨_, _, fun w => spec_Passes_no t s w hs h, fun w => impl_Passes_no t s w hs h⟩
  · obtain ⟨h1, h2⟩ := not_or.1 h
    have h1' : testB t = true := by cases hh : testB t with | true => rfl | false => exact absurd hh h1
    obtain ⟨b, rfl, hb⟩ := Classical.not_not.1 h2
    exact ⟨_, _, fun w => spec_Passes_yes t b w h1' hb, fun w => impl_Passes_yes t b w h1' hb⟩
end Go.Proofs.Ytdehehdcjfaefac
