/- Contracts of the small functions on symbols, of the model and of the program. No condition but that a symbol's number is one. -/
import Derived.Test.YtcboalnpbmnfcaaRows
import Derived.WalkKit
import Derived.ProofKit
import Derived.OpenShut
import Derived.WalkLawsBesides
import Derived.WalkSmall
import Derived.Outline
namespace Go.Proofs.Ytcboalnpbmnfcaa
open Go.RowKit

/-- The number of a symbol, -1 of what is none. -/
def symNo (n : Int) : Int :=
  if n = 40 then 0 else if n = 91 then 1 else if n = 41 then 2 else if n = 93 then 3 else if n = 97 then 4 else if n = 98 then 5 else -1
def callB (n : Int) : Bool := decide (n = 40 ∨ n = 91)
def retB (n : Int) : Bool := decide (n = 41 ∨ n = 93)
def otherB (n : Int) : Int := if n = 40 then 41 else if n = 41 then 40 else if n = 91 then 93 else if n = 93 then 91 else n

theorem sym_cases (n : Int) : n = 40 ∨ n = 91 ∨ n = 41 ∨ n = 93 ∨ n = 97 ∨ n = 98 ∨ ((n == 40) = false ∧ (n == 91) = false ∧ (n == 41) = false ∧ (n == 93) = false ∧ (n == 97) = false ∧ (n == 98) = false) := by
  simp only [beq_eq_false_iff_ne]; omega

theorem symNo_none {n : Int} (h : (n == 40) = false ∧ (n == 91) = false ∧ (n == 41) = false ∧ (n == 93) = false ∧ (n == 97) = false ∧ (n == 98) = false) : symNo n = -1 := by
  simp only [beq_eq_false_iff_ne] at h
  simp [symNo, h]

theorem spec_call (n : Int) (w : World) :
    Calls Try.prog 156 #[.int .u8 n] w fun e w' => e = .returned (.bool (callB n)) ∧ w = w' := by
  by_cases h1 : n = 40
  · subst h1
    go_enter Try.func156, Try.ntmps156
    go_wp2
    go_ret
    exact ⟨rfl, rfl⟩
  · by_cases h2 : n = 91
    · subst h2
      go_enter Try.func156, Try.ntmps156
      go_wp2
      go_ret
      exact ⟨rfl, rfl⟩
    · have e : callB n = false := by simp [callB, h1, h2]
      rw [e]
      have g1 : (n == 40) = false := by simpa using h1
      have g2 : (n == 91) = false := by simpa using h2
      clear h1 h2 e
      go_enter Try.func156, Try.ntmps156
      go_wp2
      go_ret
      exact ⟨rfl, rfl⟩

theorem spec_return (n : Int) (w : World) :
    Calls Try.prog 155 #[.int .u8 n] w fun e w' => e = .returned (.bool (retB n)) ∧ w = w' := by
  by_cases h1 : n = 41
  · subst h1
    go_enter Try.func155, Try.ntmps155
    go_wp2
    go_ret
    exact ⟨rfl, rfl⟩
  · by_cases h2 : n = 93
    · subst h2
      go_enter Try.func155, Try.ntmps155
      go_wp2
      go_ret
      exact ⟨rfl, rfl⟩
    · have e : retB n = false := by simp [retB, h1, h2]
      rw [e]
      have g1 : (n == 41) = false := by simpa using h1
      have g2 : (n == 93) = false := by simpa using h2
      clear h1 h2 e
      go_enter Try.func155, Try.ntmps155
      go_wp2
      go_ret
      exact ⟨rfl, rfl⟩

set_option maxHeartbeats 1600000 in
theorem spec_symbol (n : Int) (w : World) :
    Calls Try.prog 121 #[.int .u8 n] w fun e w' => e = .returned (.int .i64 (symNo n)) ∧ w = w' := by
  have e0 : (({ data := #[40, 91, 41, 93, 97, 98] } : ByteArray)[0]'(by decide)).toNat = 40 := rfl
  have e1 : (({ data := #[40, 91, 41, 93, 97, 98] } : ByteArray)[1]'(by decide)).toNat = 91 := rfl
  have e2 : (({ data := #[40, 91, 41, 93, 97, 98] } : ByteArray)[2]'(by decide)).toNat = 41 := rfl
  have e3 : (({ data := #[40, 91, 41, 93, 97, 98] } : ByteArray)[3]'(by decide)).toNat = 93 := rfl
  have e4 : (({ data := #[40, 91, 41, 93, 97, 98] } : ByteArray)[4]'(by decide)).toNat = 97 := rfl
  have e5 : (({ data := #[40, 91, 41, 93, 97, 98] } : ByteArray)[5]'(by decide)).toNat = 98 := rfl
  rcases sym_cases n with rfl | rfl | rfl | rfl | rfl | rfl | h
  case inr.inr.inr.inr.inr.inr =>
    rw [symNo_none h]
    obtain ⟨h1, h2, h3, h4, h5, h6⟩ := h
    have f1 : ((40 : Int) == n) = false := by rw [BEq.comm]; exact h1
    have f2 : ((91 : Int) == n) = false := by rw [BEq.comm]; exact h2
    have f3 : ((41 : Int) == n) = false := by rw [BEq.comm]; exact h3
    have f4 : ((93 : Int) == n) = false := by rw [BEq.comm]; exact h4
    have f5 : ((97 : Int) == n) = false := by rw [BEq.comm]; exact h5
    have f6 : ((98 : Int) == n) = false := by rw [BEq.comm]; exact h6
    clear h1 h2 h3 h4 h5 h6
    go_enter Try.func121, Try.ntmps121
    go_wp2
    refine wp_loop_rounds 7 ?_
    repeat (rw [rounds_succ]; go_wp2)
    go_ret
    exact ⟨rfl, rfl⟩
  all_goals
    go_enter Try.func121, Try.ntmps121
    go_wp2
    refine wp_loop_rounds 7 ?_
    repeat (rw [rounds_succ]; go_wp2)
    go_ret
    exact ⟨rfl, rfl⟩


/-! The program's symbols are the numbers 0 to 5. -/
def callS (n : Int) : Bool := decide (n ≤ 1)
def retS (n : Int) : Bool := decide (n = 2 ∨ n = 3)
def turnS (n : Int) : Int := if n = 0 then 2 else if n = 1 then 3 else if n = 2 then 0 else if n = 3 then 1 else n
/-- The byte of a symbol's number. -/
def byteOf (n : Int) : UInt8 := if n = 0 then 40 else if n = 1 then 91 else if n = 2 then 41 else if n = 3 then 93 else if n = 4 then 97 else 98
theorem six (n : Int) (h : 0 ≤ n ∧ n ≤ 5) : n = 0 ∨ n = 1 ∨ n = 2 ∨ n = 3 ∨ n = 4 ∨ n = 5 := by omega

theorem impl_isCall (n : Int) (w : World) :
    Calls Try.prog 158 #[.int .u8 n] w fun e w' => e = .returned (.bool (callS n)) ∧ w = w' := by
  go_enter Try.func158, Try.ntmps158
  go_wp2
  go_ret
  exact ⟨rfl, rfl⟩

theorem impl_isReturn (n : Int) (w : World) (h : 0 ≤ n ∧ n ≤ 5) :
    Calls Try.prog 159 #[.int .u8 n] w fun e w' => e = .returned (.bool (retS n)) ∧ w = w' := by
  rcases six n h with rfl | rfl | rfl | rfl | rfl | rfl
  all_goals
    go_enter Try.func159, Try.ntmps159
    go_wp2
    go_ret
    exact ⟨rfl, rfl⟩


end Go.Proofs.Ytcboalnpbmnfcaa
