/- EditTree: both answer the same. -/
import Derived.Test.YtcdgfmaclgegnaaGreatDoorEdK
namespace Go.Proofs.YtcdgfmaclgegnaaGreatDoor
open Go.RowKit
set_option linter.unusedVariables false

theorem wf_small (a : Nat) (h : a ≤ 60) : (Lit.int .i64 (a : Int)).wf = true := by
  have : ∀ n : Fin 61, (Lit.int .i64 (n.val : Int)).wf = true := by decide
  exact this ⟨a, by omega⟩
theorem wrap_size (s u : ByteArray) (a t : Nat) (hu : u.size = 2) (ha : a ≤ t) (ht : t ≤ s.size) : (wrapW s u a t).size = s.size + 2 := by
  simp only [wrapW, ByteArray.size_append, ByteArray.size_extract]
  omega
/-- What the call and the return of an edit's place are: none behind the word, no matched call, or both. -/
theorem call_cases (s : ByteArray) (a : Nat) (hs : IsW s) : s.size ≤ a ∨ (∃ h : a < s.size, ∃ p : Int, (prts (ksOf s.data.toList))[a]? = some p ∧ (callB (s[a].toNat : Int) = false ∨ (callB (s[a].toNat : Int) = true ∧ p = -2) ∨ (callB (s[a].toNat : Int) = true ∧ ∃ m : Nat, p = (m : Int) ∧ a < m ∧ m < s.size))) := by
  by_cases hk : a < s.size
  case neg => exact .inl (by omega)
  refine .inr ⟨hk, ?_⟩
  have hlk : s.data.toList[a]? = some s[a] := by rw [List.getElem?_eq_getElem (by simpa using hk)]; rfl
  have hkk := ksOf_at _ _ _ hlk
  have hpl : (prts (ksOf s.data.toList)).length = s.size := by rw [prts_len, ksOf_len]; simp
  have hkl : (ksOf s.data.toList).length = s.size := by rw [ksOf_len]; simp
  obtain ⟨p, hp⟩ : ∃ p, (prts (ksOf s.data.toList))[a]? = some p := ⟨_, List.getElem?_eq_getElem (by omega)⟩
  refine ⟨p, hp, ?_⟩
  cases hc : callB (s[a].toNat : Int) with
  | false => exact .inl rfl
  | true =>
    rw [kind_call hc] at hkk
    rcases prts_at_call _ _ hkk with h1 | ⟨q, h1, h2, h3⟩
    · rw [hp] at h1
      exact .inr (.inl ⟨rfl, Option.some.inj h1⟩)
    · rw [hp] at h3
      exact .inr (.inr ⟨rfl, q, Option.some.inj h3, h1, by omega⟩)

end Go.Proofs.YtcdgfmaclgegnaaGreatDoor
