/- Small questions of numbers: l00In, l02List of the model; isBelow, allBelow of the program. -/
import Derived.Test.YtkpajompmmfkjaaLit
import Derived.Test.YtkpajompmmfkjaaIn
import Derived.Test.YtkpajompmmfkjaaConv
namespace Go.Proofs.Ytkpajompmmfkjaa
open Go.RowKit
set_option linter.unusedVariables false

/-- Whether a number is one of n numbers from 0 on. -/
def inB (x n : Int) : Bool := decide (0 ≤ x ∧ x < n)
theorem inB_yes {x n : Int} (h : inB x n = true) : 0 ≤ x ∧ x < n := by simpa [inB] using h
theorem inB_no {x n : Int} (h : inB x n = false) : x < 0 ∨ n ≤ x := by
  simp only [inB, decide_eq_false_iff_not] at h
  omega
def allB (xs : List Int) (n : Int) : Bool := xs.all fun x => inB x n
def listB (xs : List Int) (len n : Int) : Bool := decide ((xs.length : Int) = len) && allB xs n
theorem allB_no {xs : List Int} {n : Int} {k : Nat} {x : Int} (hx : xs[k]? = some x) (h : inB x n = false) : allB xs n = false := by
  rw [allB, List.all_eq_false]
  exact ⟨x, List.mem_of_getElem? hx, by simp [h]⟩
theorem allB_snoc {xs : List Int} {n : Int} {k : Nat} {x : Int} (hx : xs[k]? = some x) (h : inB x n = true) (hk : allB (xs.take k) n = true) : allB (xs.take (k + 1)) n = true := by
  rw [List.take_add_one, hx]
  simp only [allB, Option.toList_some, List.all_append, List.all_cons, List.all_nil, Bool.and_true] at hk ⊢
  rw [hk, h]; rfl

/-- Whether a number lies between two. -/
def rngB (x a b : Int) : Bool := decide (a ≤ x ∧ x ≤ b)
theorem rngB_yes {x a b : Int} (h : rngB x a b = true) : a ≤ x ∧ x ≤ b := by simpa [rngB] using h
end Go.Proofs.Ytkpajompmmfkjaa
