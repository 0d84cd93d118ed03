/- FactorsOf of the model. -/
import Derived.Test.YtclcebakhohfnaaFacM
namespace Go.Proofs.Ytclcebakhohfnaa
open Go.RowKit
set_option linter.unusedVariables false

theorem txt_nil (w : World) : (w.alloc (.cells #[] 9)).ownsRow w.heap.size 9 1 (.slice (some ⟨w.heap.size, 0, none⟩) 0 0) 0 (strsV []) :=
  World.ownsRow_lit (base := w.heap.size) (e := 9) (size := 1) w #[] 0 (Nat.le_refl _) (by unfold maxLen; omega) rfl
theorem spec_FactorsOf_no (s : ByteArray) (w : World) (hs : s.size ≤ 1048576) (h : ¬ IsW s) :
    Calls Try.prog 6 #[.string s] w (TxtsPost 0 [] 1 w) := by
  have H := Lib.hid h
  clear h
  go_enter Try.func6, Try.ntmps6
  go_wp2_with fail
  refine (spec_ok_no _ _ hs H.out).mono ?_
  rintro e w' ⟨rfl, rfl⟩
  go_wp2
  go_ret2
  exact ⟨_, _, rfl, txt_nil _, (Below.refl _ _).alloc (Nat.le_refl _) _⟩
theorem spec_FactorsOf_state (s : ByteArray) (w : World) (h : IsW s) (hm : mB s.data.toList = false) :
    Calls Try.prog 6 #[.string s] w (TxtsPost 0 [] 4 w) := by
  have hM := fun w => spec_matched' s w h
  rw [hm] at hM
  have HM := Lib.hid hM
  have H := Lib.hid h
  clear h hm hM
  go_enter Try.func6, Try.ntmps6
  go_wp2_with fail
  refine (spec_ok_yes _ _ H.out).mono ?_
  rintro e w' ⟨rfl, rfl⟩
  go_wp2_with fail
  refine (HM.out _).mono ?_
  rintro e w1 ⟨rfl, hb⟩
  go_wp2
  go_ret2
  exact ⟨_, _, rfl, row_base (txt_nil _) hb.size, hb.alloc hb.size _⟩
theorem spec_FactorsOf_yes (s : ByteArray) (w : World) (h : IsW s) (hm : mB s.data.toList = true) :
    Calls Try.prog 6 #[.string s] w (TxtsPost (facW s s.size).length (facW s s.size) 0 w) := by
  have hM := fun w => spec_matched' s w h
  have HF := Lib.hid (fun w => spec_factors s w h hm)
  rw [hm] at hM
  have HM := Lib.hid hM
  have H := Lib.hid h
  clear h hm hM
  generalize facW s s.size = xs at *
  go_enter Try.func6, Try.ntmps6
  go_wp2_with fail
  refine (spec_ok_yes _ _ H.out).mono ?_
  rintro e w' ⟨rfl, rfl⟩
  go_wp2_with fail
  refine (HM.out _).mono ?_
  rintro e w1 ⟨rfl, hb⟩
  go_wp2_with fail
  refine (HF.out _).mono ?_
  rintro e w2 ⟨A, c, rfl, hr, hb2⟩
  go_wp2
  go_ret2
  exact ⟨_, _, rfl, row_base hr hb.size, hb.trans (hb2.mono hb.size)⟩
end Go.Proofs.Ytclcebakhohfnaa
