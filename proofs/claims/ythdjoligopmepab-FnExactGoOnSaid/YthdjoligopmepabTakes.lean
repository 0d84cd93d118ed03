/- Takes: the model and the program answer alike. -/
import Derived.Test.YthdjoligopmepabTakesS
namespace Go.Proofs.Ythdjoligopmepab
open Go.RowKit
set_option linter.unusedVariables false
theorem CkE.agg {base : Nat} {w : World} {v : Value} {c : Ck} {bs : List Nat} (h : CkE base w v c bs) : ∃ va vc vr vi, v = .agg #[.int .i64 c.stack, .int .i64 c.start, va, vc, vr, vi] := by
  obtain ⟨va, vc, vr, vi, _, _, _, _, rfl, _⟩ := h
  exact ⟨va, vc, vr, vi, rfl⟩
end Go.Proofs.Ythdjoligopmepab
