/- What must not be too long; JoinWords; PutAt. -/
import Derived.Test.YtcdgfmaclgegnaaGreatDoorWord
import Derived.Test.YtcdgfmaclgegnaaGreatDoorValidWord0
namespace Go.Proofs.YtcdgfmaclgegnaaGreatDoor
open Go.RowKit

/-- A text of symbols, if it is short enough for a word. -/
def toldV (t : ByteArray) : Value := if t.size ≤ 60 then .tuple #[.string t, .int .i64 0] else .tuple #[.string ⟨#[]⟩, .int .i64 3]

theorem spec_told (t : ByteArray) (w : World) (ht : t.size ≤ 1048576) : Calls Tryz.prog 68 #[.string t] w fun e w' => e = .returned (toldV t) ∧ w = w' := by
  by_cases h : t.size ≤ 60
  · rw [toldV, if_pos h]
    go_enter Tryz.func68, Tryz.ntmps68
    go_wp2
    go_ret2
    exact ⟨rfl, rfl⟩
  · rw [toldV, if_neg h]
    have h' : 60 < t.size := by omega
    clear h
    go_enter Tryz.func68, Tryz.ntmps68
    go_wp2
    go_ret2
    exact ⟨rfl, rfl⟩
theorem impl_told (t : ByteArray) (w : World) (ht : t.size ≤ 1048576) : Calls Tryz.prog 155 #[.string t] w fun e w' => e = .returned (toldV t) ∧ w = w' := by
  by_cases h : t.size ≤ 60
  · rw [toldV, if_pos h]
    go_enter Tryz.func155, Tryz.ntmps155
    go_wp2
    go_ret2
    exact ⟨rfl, rfl⟩
  · rw [toldV, if_neg h]
    have h' : 60 < t.size := by omega
    clear h
    go_enter Tryz.func155, Tryz.ntmps155
    go_wp2
    go_ret2
    exact ⟨rfl, rfl⟩
theorem toldV_form (t : ByteArray) : ∃ r code, toldV t = .tuple #[.string r, .int .i64 code] := by
  unfold toldV
  split
  · exact ⟨_, _, rfl⟩
  · exact ⟨_, _, rfl⟩

end Go.Proofs.YtcdgfmaclgegnaaGreatDoor
