/- What must not be too long; JoinWords; PutAt. -/
import Derived.Test.YtclcebakhohfnaaWord
namespace Go.Proofs.Ytclcebakhohfnaa
open Go.RowKit

/-- A text of symbols, if it is short enough for a word. -/
def toldV (t : ByteArray) : Value := if t.size ≤ 60 then .tuple #[.string t, .int .i64 0] else .tuple #[.string ⟨#[]⟩, .int .i64 3]

theorem toldV_form (t : ByteArray) : ∃ r code, toldV t = .tuple #[.string r, .int .i64 code] := by
  unfold toldV
  split
  · exact ⟨_, _, rfl⟩
  · exact ⟨_, _, rfl⟩
end Go.Proofs.Ytclcebakhohfnaa
