import Derived.Test.YtblgjedjljfmcaaGreatDoorMFnExactUndoTreeEdit3
/- The program's ValidWord. -/
namespace Go.Proofs.YtblgjedjljfmcaaGreatDoor
open Go.RowKit

theorem impl_valid_yes (s : ByteArray) (w : World) (h : IsW s) :
    Calls Tryz.prog 33 #[.string s] w fun e w' => e = .returned (.bool true) ∧ Below w.heap.size w w' := by
  have H := Lib.hid h
  clear h
  go_enter Tryz.func33, Tryz.ntmps33
  go_wp2_with (go_at_call 50; refine (impl_read_yes _ _ H.out.1 H.out.2).mono ?_; rintro e w1 ⟨M, rfl, _, _, hb⟩)
  go_ret
  exact ⟨rfl, hb.alloc hb.size _⟩
theorem impl_valid_no (s : ByteArray) (w : World) (hs : s.size ≤ 1048576) (h : ¬ IsW s) :
    Calls Tryz.prog 33 #[.string s] w fun e w' => e = .returned (.bool false) ∧ Below w.heap.size w w' := by
  have H := Lib.hid h
  clear h
  go_enter Tryz.func33, Tryz.ntmps33
  go_wp2_with (go_at_call 50; refine (impl_read_no _ _ hs H.out).mono ?_; rintro e w1 ⟨rfl, hb⟩)
  go_ret
  exact ⟨rfl, hb.alloc hb.size _⟩
end Go.Proofs.YtblgjedjljfmcaaGreatDoor
/- What must not be too long; JoinWords; PutAt. -/
namespace Go.Proofs.YtblgjedjljfmcaaGreatDoor
open Go.RowKit

/-- A text of symbols, if it is short enough for a word. -/
def toldV (t : ByteArray) : Value := if t.size ≤ 60 then .tuple #[.string t, .int .i64 0] else .tuple #[.string ⟨#[]⟩, .int .i64 3]

theorem spec_told (t : ByteArray) (w : World) (ht : t.size ≤ 1048576) : Calls Tryz.prog 47 #[.string t] w fun e w' => e = .returned (toldV t) ∧ w = w' := by
  by_cases h : t.size ≤ 60
  · rw [toldV, if_pos h]
    go_enter Tryz.func47, Tryz.ntmps47
    go_wp2
    go_ret2
    exact ⟨rfl, rfl⟩
  · rw [toldV, if_neg h]
    have h' : 60 < t.size := by omega
    clear h
    go_enter Tryz.func47, Tryz.ntmps47
    go_wp2
    go_ret2
    exact ⟨rfl, rfl⟩
theorem impl_told (t : ByteArray) (w : World) (ht : t.size ≤ 1048576) : Calls Tryz.prog 146 #[.string t] w fun e w' => e = .returned (toldV t) ∧ w = w' := by
  by_cases h : t.size ≤ 60
  · rw [toldV, if_pos h]
    go_enter Tryz.func146, Tryz.ntmps146
    go_wp2
    go_ret2
    exact ⟨rfl, rfl⟩
  · rw [toldV, if_neg h]
    have h' : 60 < t.size := by omega
    clear h
    go_enter Tryz.func146, Tryz.ntmps146
    go_wp2
    go_ret2
    exact ⟨rfl, rfl⟩
theorem toldV_form (t : ByteArray) : ∃ r code, toldV t = .tuple #[.string r, .int .i64 code] := by
  unfold toldV
  split
  · exact ⟨_, _, rfl⟩
  · exact ⟨_, _, rfl⟩

end Go.Proofs.YtblgjedjljfmcaaGreatDoor
