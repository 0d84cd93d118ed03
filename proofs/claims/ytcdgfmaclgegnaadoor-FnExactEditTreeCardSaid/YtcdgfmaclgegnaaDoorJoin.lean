/- What must not be too long; JoinWords; PutAt. -/
import Derived.Test.YtcdgfmaclgegnaaDoorWord
import Derived.Test.YtcdgfmaclgegnaaDoorValidWord0
namespace Go.Proofs.YtcdgfmaclgegnaaDoor
open Go.RowKit

/-- A text of symbols, if it is short enough for a word. -/
def toldV (t : ByteArray) : Value := if t.size ≤ 60 then .tuple #[.string t, .int .i64 0] else .tuple #[.string ⟨#[]⟩, .int .i64 3]

theorem spec_told (t : ByteArray) (w : World) (ht : t.size ≤ 1048576) : Calls Tryd.prog 56 #[.string t] w fun e w' => e = .returned (toldV t) ∧ w = w' := by
  by_cases h : t.size ≤ 60
  · rw [toldV, if_pos h]
    go_enter Tryd.func56, Tryd.ntmps56
    go_wp2
    go_ret2
    exact ⟨rfl, rfl⟩
  · rw [toldV, if_neg h]
    have h' : 60 < t.size := by omega
    clear h
    go_enter Tryd.func56, Tryd.ntmps56
    go_wp2
    go_ret2
    exact ⟨rfl, rfl⟩
theorem impl_told (t : ByteArray) (w : World) (ht : t.size ≤ 1048576) : Calls Tryd.prog 115 #[.string t] w fun e w' => e = .returned (toldV t) ∧ w = w' := by
  by_cases h : t.size ≤ 60
  · rw [toldV, if_pos h]
    go_enter Tryd.func115, Tryd.ntmps115
    go_wp2
    go_ret2
    exact ⟨rfl, rfl⟩
  · rw [toldV, if_neg h]
    have h' : 60 < t.size := by omega
    clear h
    go_enter Tryd.func115, Tryd.ntmps115
    go_wp2
    go_ret2
    exact ⟨rfl, rfl⟩
theorem toldV_form (t : ByteArray) : ∃ r code, toldV t = .tuple #[.string r, .int .i64 code] := by
  unfold toldV
  split
  · exact ⟨_, _, rfl⟩
  · exact ⟨_, _, rfl⟩

end Go.Proofs.YtcdgfmaclgegnaaDoor
