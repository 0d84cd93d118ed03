/- Tests of steps, of the model. -/
import Derived.Test.YtfaiifiohomdmaaQTest
import Derived.Test.YtfaiifiohomdmaaMem
import Derived.Laws.IdiomStrings
namespace Go.Proofs.Ytfaiifiohomdmaa
open Go.RowKit
set_option linter.unusedVariables false

/-- Whether a symbol, by its number, passes a test, by its byte. -/
def passB (k n : Int) : Bool := if k = 42 then decide (n < 2) else if k = 46 then decide (4 ≤ n) else k == (if n = 0 then 40 else if n = 1 then 91 else if n = 4 then 97 else if n = 5 then 98 else -2)
theorem spec_test (t : ByteArray) (w : World) : Calls Try.prog 213 #[.string t] w fun e w' => e = .returned (.bool (testB t)) ∧ w = w' := by
  rcases tst_cases t with rfl | rfl | rfl | rfl | rfl | rfl | h
  case' inr.inr.inr.inr.inr.inr =>
    have h40 := tst_not h 40 rfl
    have h91 := tst_not h 91 rfl
    have h97 := tst_not h 97 rfl
    have h98 := tst_not h 98 rfl
    have h42 := tst_not h 42 rfl
    have h46 := tst_not h 46 rfl
    rw [h]
    clear h
  all_goals
    go_enter Try.func213, Try.ntmps213
    go_wp2
    go_ret
    exact ⟨rfl, rfl⟩
theorem byte_cases {b : UInt8} (h : 0 ≤ symNo b.toNat) : b = 40 ∨ b = 91 ∨ b = 41 ∨ b = 93 ∨ b = 97 ∨ b = 98 := by
  have e : ∀ n : Nat, n < 256 → ((b.toNat : Int) = (n : Int)) → b = UInt8.ofNat n := fun n hn h => by
    apply UInt8.toNat_inj.1
    rw [UInt8.toNat_ofNat']
    omega
  rcases sym_cases (b.toNat : Int) with h1 | h1 | h1 | h1 | h1 | h1 | h1
  · exact .inl (e 40 (by omega) h1)
  · exact .inr (.inl (e 91 (by omega) h1))
  · exact .inr (.inr (.inl (e 41 (by omega) h1)))
  · exact .inr (.inr (.inr (.inl (e 93 (by omega) h1))))
  · exact .inr (.inr (.inr (.inr (.inl (e 97 (by omega) h1)))))
  · exact .inr (.inr (.inr (.inr (.inr (e 98 (by omega) h1)))))
  · rw [symNo_none h1] at h; omega
end Go.Proofs.Ytfaiifiohomdmaa
