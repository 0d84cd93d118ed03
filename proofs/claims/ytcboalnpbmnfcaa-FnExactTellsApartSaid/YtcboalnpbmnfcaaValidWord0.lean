/- The program's ValidWord. -/
import Derived.Test.YtcboalnpbmnfcaaWord
namespace Go.Proofs.Ytcboalnpbmnfcaa
open Go.RowKit

theorem impl_valid_yes (s : ByteArray) (w : World) (h : IsW s) :
    Calls Try.prog 128 #[.string s] w fun e w' => e = .returned (.bool true) ∧ Below w.heap.size w w' := by
  have H := Lib.hid h
  clear h
  go_enter Try.func128, Try.ntmps128
  go_wp2_with (go_at_call 58; refine (impl_read_yes _ _ H.out.1 H.out.2).mono ?_; rintro e w1 ⟨M, rfl, _, _, hb⟩)
  go_ret
  exact ⟨rfl, hb.alloc hb.size _⟩
theorem impl_valid_no (s : ByteArray) (w : World) (hs : s.size ≤ 1048576) (h : ¬ IsW s) :
    Calls Try.prog 128 #[.string s] w fun e w' => e = .returned (.bool false) ∧ Below w.heap.size w w' := by
  have H := Lib.hid h
  clear h
  go_enter Try.func128, Try.ntmps128
  go_wp2_with (go_at_call 58; refine (impl_read_no _ _ hs H.out).mono ?_; rintro e w1 ⟨rfl, hb⟩)
  go_ret
  exact ⟨rfl, hb.alloc hb.size _⟩
end Go.Proofs.Ytcboalnpbmnfcaa
