/- l01Next of the model. -/
import Derived.Test.YtjelmiladekfjaaSym
import Derived.Test.YtjelmiladekfjaaRead
import Derived.Test.YtjelmiladekfjaaWays
namespace Go.Proofs.Ytjelmiladekfjaa
open Go.RowKit
set_option linter.unusedVariables false

/-- The depth behind a byte, as the model reckons it. -/
def nextB (d n : Int) : Int := if callB n then d + 1 else if retB n then d - 1 else d
theorem spec_next (d n : Int) (w : World) (hd : -10 ≤ d ∧ d ≤ 100) : Calls Try.prog 31 #[.int .i64 d, .int .u8 n] w fun e w' => e = .returned (.int .i64 (nextB d n)) ∧ w = w' := by
  cases hc : callB n with
  | true =>
    have e : nextB d n = d + 1 := by simp [nextB, hc]
    rw [e]
    clear e
    go_enter Try.func31, Try.ntmps31
    go_wp2_with (go_at_call 48; refine (spec_call _ _).mono ?_; rintro e w' ⟨rfl, rfl⟩; rw [hc])
    go_ret
    exact ⟨rfl, rfl⟩
  | false =>
    cases hr : retB n with
    | true =>
      have e : nextB d n = d - 1 := by simp [nextB, hc, hr]
      rw [e]
      clear e
      go_enter Try.func31, Try.ntmps31
      go_wp2_with (first
        | (go_at_call 48; refine (spec_call _ _).mono ?_; rintro e w' ⟨rfl, rfl⟩; rw [hc])
        | (go_at_call 49; refine (spec_return _ _).mono ?_; rintro e w' ⟨rfl, rfl⟩; rw [hr]))
      go_ret
      exact ⟨rfl, rfl⟩
    | false =>
      have e : nextB d n = d := by simp [nextB, hc, hr]
      rw [e]
      clear e
      go_enter Try.func31, Try.ntmps31
      go_wp2_with (first
        | (go_at_call 48; refine (spec_call _ _).mono ?_; rintro e w' ⟨rfl, rfl⟩; rw [hc])
        | (go_at_call 49; refine (spec_return _ _).mono ?_; rintro e w' ⟨rfl, rfl⟩; rw [hr]))
      go_ret
      exact ⟨rfl, rfl⟩

/-- The byte of the symbol x. -/
def byN (x : Nat) : UInt8 := byteOf (x : Int)
theorem byN_sym {x : Nat} (h : x ≤ 5) : symNo ((byN x).toNat : Int) = x := by
  obtain rfl | rfl | rfl | rfl | rfl | rfl : x = 0 ∨ x = 1 ∨ x = 2 ∨ x = 3 ∨ x = 4 ∨ x = 5 := by omega
  all_goals rfl
/-- The model's depth behind a symbol, and how many texts go on with it. -/
theorem next_cb {n d x : Nat} (h : x ≤ 5) : (nextB (d : Int) ((byN x).toNat : Int) < 0 ∧ cb n d x = 0) ∨ (∃ e : Nat, nextB (d : Int) ((byN x).toNat : Int) = (e : Int) ∧ cb n d x = wy n e ∧ e = dn d x ∧ e ≤ d + 1) := by
  obtain rfl | rfl | rfl | rfl | rfl | rfl : x = 0 ∨ x = 1 ∨ x = 2 ∨ x = 3 ∨ x = 4 ∨ x = 5 := by omega
  · exact .inr ⟨d + 1, by simp [nextB, byN, byteOf, callB], by simp [cb], by simp [dn], by omega⟩
  · exact .inr ⟨d + 1, by simp [nextB, byN, byteOf, callB], by simp [cb], by simp [dn], by omega⟩
  · by_cases h0 : d = 0
    · subst h0; exact .inl ⟨by decide, by simp [cb]⟩
    · exact .inr ⟨d - 1, by simp [nextB, byN, byteOf, callB, retB]; omega, by simp [cb, h0], by simp [dn], by omega⟩
  · by_cases h0 : d = 0
    · subst h0; exact .inl ⟨by decide, by simp [cb]⟩
    · exact .inr ⟨d - 1, by simp [nextB, byN, byteOf, callB, retB]; omega, by simp [cb, h0], by simp [dn], by omega⟩
  · exact .inr ⟨d, by simp [nextB, byN, byteOf, callB, retB], by simp [cb], by simp [dn], by omega⟩
  · exact .inr ⟨d, by simp [nextB, byN, byteOf, callB, retB], by simp [cb], by simp [dn], by omega⟩
end Go.Proofs.Ytjelmiladekfjaa
