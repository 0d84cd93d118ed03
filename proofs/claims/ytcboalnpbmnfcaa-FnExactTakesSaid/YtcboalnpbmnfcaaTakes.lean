/- Takes: the model and the program answer alike. -/
import Derived.Test.YtcboalnpbmnfcaaTakesS
namespace Go.Proofs.Ytcboalnpbmnfcaa
open Go.RowKit
set_option linter.unusedVariables false
theorem CkE.agg {base : Nat} {w : World} {v : Value} {c : Ck} {bs : List Nat} (h : CkE base w v c bs) : ∃ va vc vr vi, v = .agg #[.int .i64 c.stack, .int .i64 c.start, va, vc, vr, vi] := by
  obtain ⟨va, vc, vr, vi, _, _, _, _, rfl, _⟩ := h
  exact ⟨va, vc, vr, vi, rfl⟩
theorem both_Takes (c : Ck) (s : ByteArray) (hs : s.size ≤ 1048576) : ∃ (r0 : Bool) (r1 : Int),
    (∀ base v bs w, BdC c → CkE base w v c bs → Calls Try.prog 11 #[v, .string s] w (TupPost (.tuple #[.bool r0, .int .i64 r1]) w)) ∧
    (∀ base v bs w, BdC c → CkE base w v c bs → Calls Try.prog 13 #[v, .string s] w (TupPost (.tuple #[.bool r0, .int .i64 r1]) w)) := by
  by_cases h : GivenM c s
  · refine ⟨takesM c s.data.toList, 0, fun base v bs w hbd hck => ?_, fun base v bs w hbd hck => ?_⟩
    · obtain ⟨va, vc, vr, vi, rfl⟩ := hck.agg
      exact spec_Takes_yes s w hbd hck h
    · obtain ⟨va, vc, vr, vi, rfl⟩ := hck.agg
      exact impl_Takes_yes s w hbd hck h
  · refine ⟨false, 1, fun base v bs w hbd hck => ?_, fun base v bs w hbd hck => ?_⟩
    · obtain ⟨va, vc, vr, vi, rfl⟩ := hck.agg
      exact spec_Takes_no s w hs hbd hck h
    · obtain ⟨va, vc, vr, vi, rfl⟩ := hck.agg
      exact impl_Takes_no s w hs hbd hck h
end Go.Proofs.Ytcboalnpbmnfcaa
