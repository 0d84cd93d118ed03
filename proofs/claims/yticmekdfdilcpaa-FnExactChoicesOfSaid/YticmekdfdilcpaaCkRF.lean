/- The shape of a checker that comes in. -/
import Derived.Test.YticmekdfdilcpaaOpen
namespace Go.Proofs.Yticmekdfdilcpaa
open Go.RowKit
set_option linter.unusedVariables false
theorem CkR.form {w : World} {v : Value} {c : Ck} (h : CkR w v c) : ∃ (A0 : Option Addr) (n0 k0 : Nat) (A1 : Option Addr) (n1 k1 : Nat) (A2 : Option Addr) (n2 k2 : Nat) (A3 : Option Addr) (n3 k3 : Nat),
    v = .agg #[.int .i64 c.stack, .int .i64 c.start, .slice A0 n0 k0, .slice A1 n1 k1, .slice A2 n2 k2, .slice A3 n3 k3] := by
  obtain ⟨va, vc, vr, vi, rfl, h0, h1, h2, h3⟩ := h
  obtain ⟨A0, k0, rfl, _⟩ := h0
  obtain ⟨A1, k1, rfl, _⟩ := h1
  obtain ⟨A2, k2, rfl, _⟩ := h2
  obtain ⟨A3, k3, rfl, _⟩ := h3
  exact ⟨_, _, _, _, _, _, _, _, _, _, _, _, rfl⟩
end Go.Proofs.Yticmekdfdilcpaa
