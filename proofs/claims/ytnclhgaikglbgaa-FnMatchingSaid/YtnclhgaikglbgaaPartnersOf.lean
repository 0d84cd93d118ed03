/- PartnersOf, of the model and of the program. -/
import Derived.Test.YtnclhgaikglbgaaPartners
import Derived.Test.YtnclhgaikglbgaaSlices
namespace Go.Proofs.Ytnclhgaikglbgaa
open Go.RowKit

theorem spec_PartnersOf_yes (s : ByteArray) (w : World) (h : IsW s) :
    Calls Try.prog 22 #[.string s] w (NumsPost s.size (prts (ksOf s.data.toList)) 0 w) := by
  have hp := fun w => spec_partners s w h
  have Hp := Lib.hid hp
  have H := Lib.hid h
  clear h hp
  go_enter Try.func22, Try.ntmps22
  go_wp2_with (first
    | (go_at_call 44; refine (spec_ok_yes _ _ H.out).mono ?_; rintro e w' ⟨rfl, rfl⟩)
    | (go_at_call 45; refine (Hp.out _).mono ?_; rintro e w1 ⟨A, c, rfl, hr, hb⟩))
  go_ret2
  exact ⟨A, c, rfl, hr, hb⟩
theorem spec_PartnersOf_no (s : ByteArray) (w : World) (hs : s.size ≤ 1048576) (h : ¬ IsW s) :
    Calls Try.prog 22 #[.string s] w (NumsPost 0 [] 1 w) := by
  have H := Lib.hid h
  clear h
  go_enter Try.func22, Try.ntmps22
  go_wp2_with (go_at_call 44; refine (spec_ok_no _ _ hs H.out).mono ?_; rintro e w' ⟨rfl, rfl⟩)
  go_ret2
  exact ⟨_, _, rfl, World.ownsRow_lit (base := w.heap.size) (e := 2) (size := 1) w #[] 0 (Nat.le_refl _) (by unfold maxLen; omega) rfl, (Below.refl _ _).alloc (Nat.le_refl _) _⟩

theorem impl_PartnersOf_yes (s : ByteArray) (w : World) (h : IsW s) :
    Calls Try.prog 14 #[.string s] w (NumsPost s.size (prts (ksOf s.data.toList)) 0 w) := by
  have hp := fun w => impl_read_yes s w h.1 h.2
  have Hp := Lib.hid hp
  clear h hp
  go_enter Try.func14, Try.ntmps14
  go_wp2_with (go_at_call 31; refine (Hp.out _).mono ?_; rintro e w1 ⟨M, rfl, _, hr, hb⟩)
  go_ret2
  exact ⟨_, _, rfl, hr.alloc _, hb.alloc hb.size _⟩
theorem impl_PartnersOf_no (s : ByteArray) (w : World) (hs : s.size ≤ 1048576) (h : ¬ IsW s) :
    Calls Try.prog 14 #[.string s] w (NumsPost 0 [] 1 w) := by
  have H := Lib.hid h
  clear h
  go_enter Try.func14, Try.ntmps14
  go_wp2_with (go_at_call 31; refine (impl_read_no _ _ hs H.out).mono ?_; rintro e w1 ⟨rfl, hb⟩)
  go_ret2
  exact ⟨_, _, rfl, World.ownsRow_nil _ _ _ _, hb.alloc hb.size _⟩

theorem both_PartnersOf (s : ByteArray) (hs : s.size ≤ 1048576) : ∃ (n : Nat) (xs : List Int) (code : Int), xs.length = n ∧ n ≤ 1048576 ∧
    (∀ w, Calls Try.prog 22 #[.string s] w (NumsPost n xs code w)) ∧ (∀ w, Calls Try.prog 14 #[.string s] w (NumsPost n xs code w)) := by
  by_cases h : IsW s
  · exact ⟨_, _, _, by rw [prts_len, ksOf_len]; simp, hs, fun w => spec_PartnersOf_yes s w h, fun w => impl_PartnersOf_yes s w h⟩
  · exact ⟨0, [], 1, rfl, by omega, fun w => spec_PartnersOf_no s w hs h, fun w => impl_PartnersOf_no s w hs h⟩
end Go.Proofs.Ytnclhgaikglbgaa
