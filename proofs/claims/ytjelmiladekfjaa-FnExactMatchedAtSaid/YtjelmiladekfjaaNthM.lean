/- Plain mathematics of the matched word with a number. -/
import Derived.Test.YtjelmiladekfjaaWays
import Derived.Test.YtjelmiladekfjaaSym
namespace Go.Proofs.Ytjelmiladekfjaa
set_option linter.unusedVariables false

theorem pick_from {n d k : Nat} : ∀ x, x ≤ 6 → cbs n d x ≤ k → pick n d 6 0 k = pick n d (6 - x) x (k - cbs n d x)
  | 0, _, _ => by simp [cbs]
  | x + 1, hx, h => by
    rw [cbs] at h
    rw [pick_from x (by omega) (by omega), show 6 - x = (6 - (x + 1)) + 1 by omega, pick_on (by omega), cbs]
    congr 1
    omega
theorem pick_hits {n d k x : Nat} (hx : x ≤ 5) (h : cbs n d x ≤ k) (h2 : k - cbs n d x < cb n d x) : pick n d 6 0 k = (x, k - cbs n d x) := by
  rw [pick_from x (by omega) h, show 6 - x = (5 - x) + 1 by omega, pick_here h2]
theorem cb_dn {n d s k : Nat} (h : k < cb n d s) : cb n d s = wy n (dn d s) ∧ (s < 2 ∨ 4 ≤ s ∨ 1 ≤ d) := by
  unfold cb dn at *
  by_cases h1 : s < 2
  · rw [if_pos h1, if_pos h1]; exact ⟨rfl, .inl h1⟩
  · rw [if_neg h1] at h ⊢
    rw [if_neg h1]
    by_cases h2 : s < 4
    · rw [if_pos h2] at h ⊢
      rw [if_pos h2]
      by_cases h3 : d = 0
      · rw [if_pos h3] at h; omega
      · rw [if_neg h3]; exact ⟨rfl, .inr (.inr (by omega))⟩
    · rw [if_neg h2, if_neg h2]; exact ⟨rfl, .inr (.inl (by omega))⟩
theorem nth_hits {n d k x : Nat} (hx : x ≤ 5) (h : cbs n d x ≤ k) (h2 : k - cbs n d x < cb n d x) : nth (n + 1) d k = x :: nth n (dn d x) (k - cbs n d x) := by
  rw [nth, pick_hits hx h h2]
/-- A symbol is hit, as there are that many texts. -/
theorem pick_more {n d k x : Nat} (hk : k < wy (n + 1) d) (h : cbs n d x ≤ k) : x ≤ 5 := by
  by_cases hx : x ≤ 5
  · exact hx
  · have := cbs_mono n d (show 6 ≤ x by omega)
    rw [cbs_six] at this
    omega
theorem nth_len : ∀ n d k, (nth n d k).length = n
  | 0, _, _ => rfl
  | n + 1, d, k => by rw [nth, List.length_cons, nth_len n]
/-- The text of symbols. -/
def textN (l : List Nat) : ByteArray := ⟨(l.map fun s : Nat => byteOf (s : Int)).toArray⟩
theorem textN_snoc (l : List Nat) (s : Nat) : textN l ++ ⟨#[byteOf (s : Int)]⟩ = textN (l ++ [s]) := by
  apply ByteArray.ext
  rw [ByteArray.data_append]
  simp [textN]
theorem textN_size (l : List Nat) : (textN l).size = l.length := by
  show (textN l).data.size = _
  simp [textN]
end Go.Proofs.Ytjelmiladekfjaa
