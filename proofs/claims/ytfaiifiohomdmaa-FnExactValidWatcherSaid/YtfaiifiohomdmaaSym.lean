/- Contracts of the small functions on symbols, of the model and of the program. No condition but that a symbol's number is one. -/
import Derived.Test.YtfaiifiohomdmaaRows
import Derived.WalkKit
import Derived.ProofKit
import Derived.OpenShut
import Derived.WalkLawsBesides
import Derived.WalkSmall
import Derived.Outline
namespace Go.Proofs.Ytfaiifiohomdmaa
open Go.RowKit

/-- The number of a symbol, -1 of what is none. -/
def symNo (n : Int) : Int :=
  if n = 40 then 0 else if n = 91 then 1 else if n = 41 then 2 else if n = 93 then 3 else if n = 97 then 4 else if n = 98 then 5 else -1
def callB (n : Int) : Bool := decide (n = 40 ∨ n = 91)
def retB (n : Int) : Bool := decide (n = 41 ∨ n = 93)
def otherB (n : Int) : Int := if n = 40 then 41 else if n = 41 then 40 else if n = 91 then 93 else if n = 93 then 91 else n

theorem sym_cases (n : Int) : n = 40 ∨ n = 91 ∨ n = 41 ∨ n = 93 ∨ n = 97 ∨ n = 98 ∨ ((n == 40) = false ∧ (n == 91) = false ∧ (n == 41) = false ∧ (n == 93) = false ∧ (n == 97) = false ∧ (n == 98) = false) := by
  simp only [beq_eq_false_iff_ne]; omega

theorem symNo_none {n : Int} (h : (n == 40) = false ∧ (n == 91) = false ∧ (n == 41) = false ∧ (n == 93) = false ∧ (n == 97) = false ∧ (n == 98) = false) : symNo n = -1 := by
  simp only [beq_eq_false_iff_ne] at h
  simp [symNo, h]

def callS (n : Int) : Bool := decide (n ≤ 1)
def retS (n : Int) : Bool := decide (n = 2 ∨ n = 3)
def turnS (n : Int) : Int := if n = 0 then 2 else if n = 1 then 3 else if n = 2 then 0 else if n = 3 then 1 else n
/-- The byte of a symbol's number. -/
def byteOf (n : Int) : UInt8 := if n = 0 then 40 else if n = 1 then 91 else if n = 2 then 41 else if n = 3 then 93 else if n = 4 then 97 else 98
theorem six (n : Int) (h : 0 ≤ n ∧ n ≤ 5) : n = 0 ∨ n = 1 ∨ n = 2 ∨ n = 3 ∨ n = 4 ∨ n = 5 := by omega

theorem impl_isCall (n : Int) (w : World) :
    Calls Try.prog 163 #[.int .u8 n] w fun e w' => e = .returned (.bool (callS n)) ∧ w = w' := by
  go_enter Try.func163, Try.ntmps163
  go_wp2
  go_ret
  exact ⟨rfl, rfl⟩

theorem impl_isReturn (n : Int) (w : World) (h : 0 ≤ n ∧ n ≤ 5) :
    Calls Try.prog 165 #[.int .u8 n] w fun e w' => e = .returned (.bool (retS n)) ∧ w = w' := by
  rcases six n h with rfl | rfl | rfl | rfl | rfl | rfl
  all_goals
    go_enter Try.func165, Try.ntmps165
    go_wp2
    go_ret
    exact ⟨rfl, rfl⟩


end Go.Proofs.Ytfaiifiohomdmaa
