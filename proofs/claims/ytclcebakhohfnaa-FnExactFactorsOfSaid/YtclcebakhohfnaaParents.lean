/- l01Parents of the model. -/
import Derived.Test.YtclcebakhohfnaaTree
import Derived.Test.YtclcebakhohfnaaSlices
namespace Go.Proofs.Ytclcebakhohfnaa
open Go.RowKit

theorem kind_nocall {n : Int} (_h : 0 ≤ symNo n) (hc : callS (symNo n) = false) : kindS (symNo n) ≠ 0 := by
  simp only [callS, decide_eq_false_iff_not] at hc
  unfold kindS
  rw [if_neg hc]
  split <;> decide

theorem parK_yes {ks : List Nat} {ps : List Int} {i j : Nat} {p : Int} (hk : ks[j]? = some 0) (hp : ps[j]? = some p) (h : p = -2 ∨ (i : Int) < p) : parK (over ks ps i) (j + 1) = (j : Int) := by
  rw [parK, if_pos]
  refine ⟨hk, ?_⟩
  rcases h with h | h
  · exact .inl (by rw [hp, h])
  · exact .inr ⟨p, hp, h⟩
theorem parK_no {ks : List Nat} {ps : List Int} {i j : Nat} {p : Int} (hp : ps[j]? = some p) (h : ks[j]? ≠ some 0 ∨ (p ≠ -2 ∧ p ≤ i)) : parK (over ks ps i) (j + 1) = parK (over ks ps i) j := by
  rw [parK, if_neg]
  rintro ⟨h1, h2⟩
  rcases h with h | ⟨h3, h4⟩
  · exact h h1
  · rcases h2 with h2 | ⟨q, h2, h5⟩
    · rw [hp] at h2; exact h3 (Option.some.inj h2)
    · rw [hp] at h2; have := Option.some.inj h2; omega

end Go.Proofs.Ytclcebakhohfnaa
