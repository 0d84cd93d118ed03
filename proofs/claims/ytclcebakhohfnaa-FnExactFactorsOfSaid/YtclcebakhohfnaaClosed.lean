/- What closes a call: l01Closed of the model and returnOfCall of the program; BodyOf and CutMatched, of both. -/
import Derived.Test.YtclcebakhohfnaaPending
import Derived.Test.YtclcebakhohfnaaIn
import Derived.BigQuiet
import Derived.Deep.QuietTactic
namespace Go.Proofs.Ytclcebakhohfnaa
open Go.RowKit

/-! Plain mathematics: a call is pending, or its partner lies behind it. -/
theorem prts_at_call (ks : List Nat) : ∀ i : Nat, ks[i]? = some 0 → (prts ks)[i]? = some (-2) ∨ ∃ q : Nat, i < q ∧ q < ks.length ∧ (prts ks)[i]? = some (q : Int) := by
  refine snoc_ind (p := fun ks => ∀ i : Nat, ks[i]? = some 0 → (prts ks)[i]? = some (-2) ∨ ∃ q : Nat, i < q ∧ q < ks.length ∧ (prts ks)[i]? = some (q : Int)) ?_ (fun l k ih => ?_) ks
  · intro i h; simp at h
  · intro i hi
    have hlen := prts_len l
    have hl1 : (l ++ [k]).length = l.length + 1 := by simp
    by_cases hil : i < l.length
    · rw [List.getElem?_append_left hil] at hi
      have ih := ih i hi
      have lift : ∀ y, ((prts l ++ [y])[i]? = some (-2) ∨ ∃ q : Nat, i < q ∧ q < (l ++ [k]).length ∧ (prts l ++ [y])[i]? = some (q : Int)) := by
        intro y
        rw [List.getElem?_append_left (by omega)]
        rcases ih with h | ⟨q, h1, h2, h3⟩
        · exact .inl h
        · exact .inr ⟨q, h1, by omega, h3⟩
      by_cases h0 : k = 0
      · subst h0; rw [(prts_call l).1]; exact lift _
      · by_cases h1 : k = 1
        · subst h1
          cases hl : (opns l).getLast? with
          | none => rw [(prts_ret_none l (List.getLast?_eq_none_iff.1 hl)).1]; exact lift _
          | some b =>
            rw [(prts_ret_some l b hl).1, List.getElem?_append_left (by simp; omega)]
            by_cases hne : b = i
            · subst hne
              exact .inr ⟨l.length, hil, by omega, List.getElem?_set_self (by omega)⟩
            · rw [List.getElem?_set_ne hne]
              rcases ih with h | ⟨q, h1, h2, h3⟩
              · exact .inl h
              · exact .inr ⟨q, h1, by omega, h3⟩
        · rw [(prts_inner l k h0 h1).1]; exact lift _
    · have hie : i = l.length := by
        have := (List.getElem?_eq_some_iff.1 hi).1
        omega
      subst hie
      simp at hi
      subst hi
      rw [(prts_call l).1, List.getElem?_append_right (by omega), hlen]
      simp

def cloV (q c : Int) : Value := .tuple #[.int .i64 q, .int .i64 c]

end Go.Proofs.Ytclcebakhohfnaa
