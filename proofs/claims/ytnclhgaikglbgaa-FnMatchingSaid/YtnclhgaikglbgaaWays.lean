/- Plain mathematics of counting: how many texts of a length close so many open calls. -/
import Derived.Test.YtnclhgaikglbgaaRows
import Derived.WalkKit
namespace Go.Proofs.Ytnclhgaikglbgaa

/-- How many texts of n symbols close just d open calls. -/
def wy : Nat → Nat → Nat
  | 0, 0 => 1
  | 0, _ + 1 => 0
  | n + 1, d => 2 * wy n (d + 1) + (if d = 0 then 0 else 2 * wy n (d - 1)) + 2 * wy n d

theorem wy_zero (n : Nat) : ∀ d, n < d → wy n d = 0 := by
  induction n with
  | zero =>
    intro d h
    cases d with
    | zero => omega
    | succ d => rfl
  | succ n ih =>
    intro d h
    rw [wy, ih (d + 1) (by omega), ih (d - 1) (by omega), ih d (by omega)]
    split <;> rfl
theorem wy_le (n : Nat) : ∀ d, wy n d ≤ 6 ^ n := by
  induction n with
  | zero =>
    intro d
    cases d with
    | zero => simp [wy]
    | succ d => simp [wy]
  | succ n ih =>
    intro d
    have h1 := ih (d + 1)
    have h2 := ih (d - 1)
    have h3 := ih d
    rw [wy, Nat.pow_succ]
    split <;> omega
theorem wy_top {n : Nat} (h : n ≤ 20) (d : Nat) : wy n d ≤ 3656158440062976 := Nat.le_trans (wy_le n d) (Nat.le_trans (Nat.pow_le_pow_right (by decide) h) (by decide))

/-- How many of them go on with the symbol s. -/
def cb (n d s : Nat) : Nat := if s < 2 then wy n (d + 1) else if s < 4 then (if d = 0 then 0 else wy n (d - 1)) else wy n d
theorem cb_top {n : Nat} (h : n ≤ 20) (d s : Nat) : cb n d s ≤ 3656158440062976 := by
  unfold cb
  split
  · exact wy_top h _
  · split
    · split
      · omega
      · exact wy_top h _
    · exact wy_top h _
/-- .. with one of the first s symbols. -/
def cbs (n d : Nat) : Nat → Nat
  | 0 => 0
  | s + 1 => cbs n d s + cb n d s
theorem cbs_six (n d : Nat) : cbs n d 6 = wy (n + 1) d := by
  simp only [cbs, cb, wy]
  by_cases h : d = 0
  · simp [h]; omega
  · simp [h]; omega
theorem cbs_mono (n d : Nat) {s t : Nat} (h : s ≤ t) : cbs n d s ≤ cbs n d t := by
  induction t with
  | zero => obtain rfl : s = 0 := by omega
            exact Nat.le_refl _
  | succ t ih =>
    by_cases e : s = t + 1
    · rw [e]; exact Nat.le_refl _
    · exact Nat.le_trans (ih (by omega)) (Nat.le_add_right _ _)
theorem cbs_top {n : Nat} (h : n ≤ 20) (d : Nat) {s : Nat} (hs : s ≤ 6) : cbs n d s ≤ 21936950640377856 := by
  have : ∀ s, cbs n d s ≤ s * 3656158440062976 := by
    intro s
    induction s with
    | zero => exact Nat.le_refl _
    | succ s ih => have := cb_top h d s; rw [cbs]; omega
  have := this s
  omega

/-- The depth behind a symbol. -/
def dn (d s : Nat) : Nat := if s < 2 then d + 1 else if s < 4 then d - 1 else d

/-- The symbol with which the text number k goes on, and its number among these. -/
def pick (n d : Nat) : Nat → Nat → Nat → Nat × Nat
  | 0, s, k => (s, k)
  | f + 1, s, k => if k < cb n d s then (s, k) else pick n d f (s + 1) (k - cb n d s)
theorem pick_here {n d f s k : Nat} (h : k < cb n d s) : pick n d (f + 1) s k = (s, k) := by rw [pick, if_pos h]
theorem pick_on {n d f s k : Nat} (h : ¬ k < cb n d s) : pick n d (f + 1) s k = pick n d f (s + 1) (k - cb n d s) := by rw [pick, if_neg h]

/-- The text number k of n symbols that closes d open calls. -/
def nth : Nat → Nat → Nat → List Nat
  | 0, _, _ => []
  | n + 1, d, k => (pick n d 6 0 k).1 :: nth n (dn d (pick n d 6 0 k).1) (pick n d 6 0 k).2

/-- The number of a text among those of its length that close d open calls. -/
def rankL : Nat → List Nat → Nat
  | _, [] => 0
  | d, s :: l => cbs l.length d s + rankL (dn d s) l
end Go.Proofs.Ytnclhgaikglbgaa
