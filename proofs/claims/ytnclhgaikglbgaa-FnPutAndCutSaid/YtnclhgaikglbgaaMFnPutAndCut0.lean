import Derived.Test.YtnclhgaikglbgaaRows
import Derived.WalkKit
import Derived.ProofKit
import Derived.OpenShut
import Derived.WalkLawsBesides
import Derived.WalkSmall
import Derived.Outline
/- Plain mathematics of counting: how many texts of a length close so many open calls. -/
namespace Go.Proofs.Ytnclhgaikglbgaa

/-- How many texts of n symbols close just d open calls. -/
def wy : Nat → Nat → Nat
  | 0, 0 => 1
  | 0, _ + 1 => 0
  | n + 1, d => 2 * wy n (d + 1) + (if d = 0 then 0 else 2 * wy n (d - 1)) + 2 * wy n d

theorem wy_zero (n : Nat) : ∀ d, n < d → wy n d = 0 := by
  induction n with
  | zero =>
    intro d h
    cases d with
    | zero => omega
    | succ d => rfl
  | succ n ih =>
    intro d h
    rw [wy, ih (d + 1) (by omega), ih (d - 1) (by omega), ih d (by omega)]
    split <;> rfl
theorem wy_le (n : Nat) : ∀ d, wy n d ≤ 6 ^ n := by
  induction n with
  | zero =>
    intro d
    cases d with
    | zero => simp [wy]
    | succ d => simp [wy]
  | succ n ih =>
    intro d
    have h1 := ih (d + 1)
    have h2 := ih (d - 1)
    have h3 := ih d
    rw [wy, Nat.pow_succ]
    split <;> omega
theorem wy_top {n : Nat} (h : n ≤ 20) (d : Nat) : wy n d ≤ 3656158440062976 := Nat.le_trans (wy_le n d) (Nat.le_trans (Nat.pow_le_pow_right (by decide) h) (by decide))

/-- How many of them go on with the symbol s. -/
def cb (n d s : Nat) : Nat := if s < 2 then wy n (d + 1) else if s < 4 then (if d = 0 then 0 else wy n (d - 1)) else wy n d
theorem cb_top {n : Nat} (h : n ≤ 20) (d s : Nat) : cb n d s ≤ 3656158440062976 := by
  unfold cb
  split
  · exact wy_top h _
  · split
    · split
      · omega
      · exact wy_top h _
    · exact wy_top h _
/-- .. with one of the first s symbols. -/
def cbs (n d : Nat) : Nat → Nat
  | 0 => 0
  | s + 1 => cbs n d s + cb n d s
theorem cbs_six (n d : Nat) : cbs n d 6 = wy (n + 1) d := by
  simp only [cbs, cb, wy]
  by_cases h : d = 0
  · simp [h]; omega
  · simp [h]; omega
theorem cbs_mono (n d : Nat) {s t : Nat} (h : s ≤ t) : cbs n d s ≤ cbs n d t := by
  induction t with
  | zero => obtain rfl : s = 0 := by omega
            exact Nat.le_refl _
  | succ t ih =>
    by_cases e : s = t + 1
    · rw [e]; exact Nat.le_refl _
    · exact Nat.le_trans (ih (by omega)) (Nat.le_add_right _ _)
theorem cbs_top {n : Nat} (h : n ≤ 20) (d : Nat) {s : Nat} (hs : s ≤ 6) : cbs n d s ≤ 21936950640377856 := by
  have : ∀ s, cbs n d s ≤ s * 3656158440062976 := by
    intro s
    induction s with
    | zero => exact Nat.le_refl _
    | succ s ih => have := cb_top h d s; rw [cbs]; omega
  have := this s
  omega

/-- The depth behind a symbol. -/
def dn (d s : Nat) : Nat := if s < 2 then d + 1 else if s < 4 then d - 1 else d

/-- The symbol with which the text number k goes on, and its number among these. -/
def pick (n d : Nat) : Nat → Nat → Nat → Nat × Nat
  | 0, s, k => (s, k)
  | f + 1, s, k => if k < cb n d s then (s, k) else pick n d f (s + 1) (k - cb n d s)
theorem pick_here {n d f s k : Nat} (h : k < cb n d s) : pick n d (f + 1) s k = (s, k) := by rw [pick, if_pos h]
theorem pick_on {n d f s k : Nat} (h : ¬ k < cb n d s) : pick n d (f + 1) s k = pick n d f (s + 1) (k - cb n d s) := by rw [pick, if_neg h]

/-- The text number k of n symbols that closes d open calls. -/
def nth : Nat → Nat → Nat → List Nat
  | 0, _, _ => []
  | n + 1, d, k => (pick n d 6 0 k).1 :: nth n (dn d (pick n d 6 0 k).1) (pick n d 6 0 k).2

/-- The number of a text among those of its length that close d open calls. -/
def rankL : Nat → List Nat → Nat
  | _, [] => 0
  | d, s :: l => cbs l.length d s + rankL (dn d s) l
end Go.Proofs.Ytnclhgaikglbgaa
/- Contracts of the small functions on symbols, of the model and of the program. No condition but that a symbol's number is one. -/
namespace Go.Proofs.Ytnclhgaikglbgaa
open Go.RowKit

/-- The number of a symbol, -1 of what is none. -/
def symNo (n : Int) : Int :=
  if n = 40 then 0 else if n = 91 then 1 else if n = 41 then 2 else if n = 93 then 3 else if n = 97 then 4 else if n = 98 then 5 else -1
def callB (n : Int) : Bool := decide (n = 40 ∨ n = 91)
def retB (n : Int) : Bool := decide (n = 41 ∨ n = 93)
def otherB (n : Int) : Int := if n = 40 then 41 else if n = 41 then 40 else if n = 91 then 93 else if n = 93 then 91 else n

theorem sym_cases (n : Int) : n = 40 ∨ n = 91 ∨ n = 41 ∨ n = 93 ∨ n = 97 ∨ n = 98 ∨ ((n == 40) = false ∧ (n == 91) = false ∧ (n == 41) = false ∧ (n == 93) = false ∧ (n == 97) = false ∧ (n == 98) = false) := by
  simp only [beq_eq_false_iff_ne]; omega

theorem symNo_none {n : Int} (h : (n == 40) = false ∧ (n == 91) = false ∧ (n == 41) = false ∧ (n == 93) = false ∧ (n == 97) = false ∧ (n == 98) = false) : symNo n = -1 := by
  simp only [beq_eq_false_iff_ne] at h
  simp [symNo, h]

theorem spec_call (n : Int) (w : World) :
    Calls Try.prog 52 #[.int .u8 n] w fun e w' => e = .returned (.bool (callB n)) ∧ w = w' := by
  by_cases h1 : n = 40
  · subst h1
    go_enter Try.func52, Try.ntmps52
    go_wp2
    go_ret
    exact ⟨rfl, rfl⟩
  · by_cases h2 : n = 91
    · subst h2
      go_enter Try.func52, Try.ntmps52
      go_wp2
      go_ret
      exact ⟨rfl, rfl⟩
    · have e : callB n = false := by simp [callB, h1, h2]
      rw [e]
      have g1 : (n == 40) = false := by simpa using h1
      have g2 : (n == 91) = false := by simpa using h2
      clear h1 h2 e
      go_enter Try.func52, Try.ntmps52
      go_wp2
      go_ret
      exact ⟨rfl, rfl⟩

theorem spec_return (n : Int) (w : World) :
    Calls Try.prog 51 #[.int .u8 n] w fun e w' => e = .returned (.bool (retB n)) ∧ w = w' := by
  by_cases h1 : n = 41
  · subst h1
    go_enter Try.func51, Try.ntmps51
    go_wp2
    go_ret
    exact ⟨rfl, rfl⟩
  · by_cases h2 : n = 93
    · subst h2
      go_enter Try.func51, Try.ntmps51
      go_wp2
      go_ret
      exact ⟨rfl, rfl⟩
    · have e : retB n = false := by simp [retB, h1, h2]
      rw [e]
      have g1 : (n == 41) = false := by simpa using h1
      have g2 : (n == 93) = false := by simpa using h2
      clear h1 h2 e
      go_enter Try.func51, Try.ntmps51
      go_wp2
      go_ret
      exact ⟨rfl, rfl⟩

set_option maxHeartbeats 1600000 in
theorem spec_symbol (n : Int) (w : World) :
    Calls Try.prog 62 #[.int .u8 n] w fun e w' => e = .returned (.int .i64 (symNo n)) ∧ w = w' := by
  have e0 : (({ data := #[40, 91, 41, 93, 97, 98] } : ByteArray)[0]'(by decide)).toNat = 40 := rfl
  have e1 : (({ data := #[40, 91, 41, 93, 97, 98] } : ByteArray)[1]'(by decide)).toNat = 91 := rfl
  have e2 : (({ data := #[40, 91, 41, 93, 97, 98] } : ByteArray)[2]'(by decide)).toNat = 41 := rfl
  have e3 : (({ data := #[40, 91, 41, 93, 97, 98] } : ByteArray)[3]'(by decide)).toNat = 93 := rfl
  have e4 : (({ data := #[40, 91, 41, 93, 97, 98] } : ByteArray)[4]'(by decide)).toNat = 97 := rfl
  have e5 : (({ data := #[40, 91, 41, 93, 97, 98] } : ByteArray)[5]'(by decide)).toNat = 98 := rfl
  rcases sym_cases n with rfl | rfl | rfl | rfl | rfl | rfl | h
  case inr.inr.inr.inr.inr.inr =>
    rw [symNo_none h]
    obtain ⟨h1, h2, h3, h4, h5, h6⟩ := h
    have f1 : ((40 : Int) == n) = false := by rw [BEq.comm]; exact h1
    have f2 : ((91 : Int) == n) = false := by rw [BEq.comm]; exact h2
    have f3 : ((41 : Int) == n) = false := by rw [BEq.comm]; exact h3
    have f4 : ((93 : Int) == n) = false := by rw [BEq.comm]; exact h4
    have f5 : ((97 : Int) == n) = false := by rw [BEq.comm]; exact h5
    have f6 : ((98 : Int) == n) = false := by rw [BEq.comm]; exact h6
    clear h1 h2 h3 h4 h5 h6
    go_enter Try.func62, Try.ntmps62
    go_wp2
    refine wp_loop_rounds 7 ?_
    repeat (rw [rounds_succ]; go_wp2)
    go_ret
    exact ⟨rfl, rfl⟩
  all_goals
    go_enter Try.func62, Try.ntmps62
    go_wp2
    refine wp_loop_rounds 7 ?_
    repeat (rw [rounds_succ]; go_wp2)
    go_ret
    exact ⟨rfl, rfl⟩


/-! The program's symbols are the numbers 0 to 5. -/
def callS (n : Int) : Bool := decide (n ≤ 1)
def retS (n : Int) : Bool := decide (n = 2 ∨ n = 3)
def turnS (n : Int) : Int := if n = 0 then 2 else if n = 1 then 3 else if n = 2 then 0 else if n = 3 then 1 else n
/-- The byte of a symbol's number. -/
def byteOf (n : Int) : UInt8 := if n = 0 then 40 else if n = 1 then 91 else if n = 2 then 41 else if n = 3 then 93 else if n = 4 then 97 else 98
theorem six (n : Int) (h : 0 ≤ n ∧ n ≤ 5) : n = 0 ∨ n = 1 ∨ n = 2 ∨ n = 3 ∨ n = 4 ∨ n = 5 := by omega

theorem impl_isCall (n : Int) (w : World) :
    Calls Try.prog 35 #[.int .u8 n] w fun e w' => e = .returned (.bool (callS n)) ∧ w = w' := by
  go_enter Try.func35, Try.ntmps35
  go_wp2
  go_ret
  exact ⟨rfl, rfl⟩

theorem impl_isReturn (n : Int) (w : World) (h : 0 ≤ n ∧ n ≤ 5) :
    Calls Try.prog 42 #[.int .u8 n] w fun e w' => e = .returned (.bool (retS n)) ∧ w = w' := by
  rcases six n h with rfl | rfl | rfl | rfl | rfl | rfl
  all_goals
    go_enter Try.func42, Try.ntmps42
    go_wp2
    go_ret
    exact ⟨rfl, rfl⟩

theorem impl_turned (n : Int) (w : World) (h : 0 ≤ n ∧ n ≤ 5) :
    Calls Try.prog 36 #[.int .u8 n] w fun e w' => e = .returned (.int .u8 (turnS n)) ∧ w = w' := by
  rcases six n h with rfl | rfl | rfl | rfl | rfl | rfl
  all_goals
    go_enter Try.func36, Try.ntmps36
    go_wp2
    go_ret
    exact ⟨rfl, rfl⟩

theorem impl_text (n : Int) (w : World) (h : 0 ≤ n ∧ n ≤ 5) :
    Calls Try.prog 37 #[.int .u8 n] w fun e w' => e = .returned (.string ⟨#[byteOf n]⟩) ∧ w = w' := by
  rcases six n h with rfl | rfl | rfl | rfl | rfl | rfl
  all_goals
    go_enter Try.func37, Try.ntmps37
    go_wp2
    go_ret
    exact ⟨rfl, rfl⟩
end Go.Proofs.Ytnclhgaikglbgaa
/- Plain mathematics of the matched word with a number. -/
namespace Go.Proofs.Ytnclhgaikglbgaa
set_option linter.unusedVariables false

theorem pick_from {n d k : Nat} : ∀ x, x ≤ 6 → cbs n d x ≤ k → pick n d 6 0 k = pick n d (6 - x) x (k - cbs n d x)
  | 0, _, _ => by simp [cbs]
  | x + 1, hx, h => by
    rw [cbs] at h
    rw [pick_from x (by omega) (by omega), show 6 - x = (6 - (x + 1)) + 1 by omega, pick_on (by omega), cbs]
    congr 1
    omega
theorem pick_hits {n d k x : Nat} (hx : x ≤ 5) (h : cbs n d x ≤ k) (h2 : k - cbs n d x < cb n d x) : pick n d 6 0 k = (x, k - cbs n d x) := by
  rw [pick_from x (by omega) h, show 6 - x = (5 - x) + 1 by omega, pick_here h2]
theorem cb_dn {n d s k : Nat} (h : k < cb n d s) : cb n d s = wy n (dn d s) ∧ (s < 2 ∨ 4 ≤ s ∨ 1 ≤ d) := by
  unfold cb dn at *
  by_cases h1 : s < 2
  · rw [if_pos h1, if_pos h1]; exact ⟨rfl, .inl h1⟩
  · rw [if_neg h1] at h ⊢
    rw [if_neg h1]
    by_cases h2 : s < 4
    · rw [if_pos h2] at h ⊢
      rw [if_pos h2]
      by_cases h3 : d = 0
      · rw [if_pos h3] at h; omega
      · rw [if_neg h3]; exact ⟨rfl, .inr (.inr (by omega))⟩
    · rw [if_neg h2, if_neg h2]; exact ⟨rfl, .inr (.inl (by omega))⟩
theorem nth_hits {n d k x : Nat} (hx : x ≤ 5) (h : cbs n d x ≤ k) (h2 : k - cbs n d x < cb n d x) : nth (n + 1) d k = x :: nth n (dn d x) (k - cbs n d x) := by
  rw [nth, pick_hits hx h h2]
/-- A symbol is hit, as there are that many texts. -/
theorem pick_more {n d k x : Nat} (hk : k < wy (n + 1) d) (h : cbs n d x ≤ k) : x ≤ 5 := by
  by_cases hx : x ≤ 5
  · exact hx
  · have := cbs_mono n d (show 6 ≤ x by omega)
    rw [cbs_six] at this
    omega
theorem nth_len : ∀ n d k, (nth n d k).length = n
  | 0, _, _ => rfl
  | n + 1, d, k => by rw [nth, List.length_cons, nth_len n]
/-- The text of symbols. -/
def textN (l : List Nat) : ByteArray := ⟨(l.map fun s : Nat => byteOf (s : Int)).toArray⟩
theorem textN_snoc (l : List Nat) (s : Nat) : textN l ++ ⟨#[byteOf (s : Int)]⟩ = textN (l ++ [s]) := by
  apply ByteArray.ext
  rw [ByteArray.data_append]
  simp [textN]
theorem textN_size (l : List Nat) : (textN l).size = l.length := by
  show (textN l).data.size = _
  simp [textN]
end Go.Proofs.Ytnclhgaikglbgaa
