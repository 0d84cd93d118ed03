/- Structural rewriters: what they are; the model's check. -/
import Derived.Test.YtmkamodmnplclaaStI
import Derived.Test.YtmkamodmnplclaaVaO
namespace Go.Proofs.Ytmkamodmnplclaa
open Go.RowKit
set_option linter.unusedVariables false

theorem spec_has (t : ByteArray) (a b : Int) (w : World) (h : IsW t) : Calls Try.prog 128 #[.string t, .int .i64 a, .int .i64 b] w (TupPost (.bool (hasB a b t)) w) := by
  have HP := Lib.hid (fun W => spec_pending t W h)
  unfold hasB
  generalize ((cR t.data.toList (prts (ksOf t.data.toList)) t.size : Nat) : Int) = p at *
  generalize ((cC t.data.toList (prts (ksOf t.data.toList)) t.size : Nat) : Int) = q at *
  clear h
  by_cases e1 : p = a
  case neg =>
    rw [decide_eq_false e1, Bool.false_and]
    have e2 : (p == a) = false := by simp only [beq_eq_false_iff_ne]; exact e1
    go_enter Try.func128, Try.ntmps128
    go_wp2_with fail
    refine (HP.out _).mono ?_
    rintro e w2 ⟨rfl, hb2⟩
    go_wp2
    go_ret
    exact ⟨rfl, hb2⟩
  case pos =>
    rw [decide_eq_true e1, Bool.true_and]
    subst e1
    have e3 : decide (q = b) = (q == b) := by by_cases h : q = b <;> simp [h]
    rw [e3]
    clear e3
    go_enter Try.func128, Try.ntmps128
    go_wp2_with fail
    refine (HP.out _).mono ?_
    rintro e w2 ⟨rfl, hb2⟩
    go_wp2
    go_ret
    exact ⟨rfl, hb2⟩
/-- Whether a rewriter keeps the matching. -/
def stR (c : Rw) : Bool := c.call.all (fun row => row.all fun x => hasB 0 1 x.2.2) && (c.inner.all (fun row => row.all fun x => hasB 0 0 x.2) && c.ret.all (fun lists => lists.all fun row => row.all fun x => hasB 1 0 x.2))
/-- What the lists of a valid rewriter are. -/
structure VS (c : Rw) : Prop where
  l1 : c.ret.length = c.call.length
  l2 : c.inner.length = c.call.length
  call : ∀ row ∈ c.call, row.length = 2 ∧ ∀ x ∈ row, IsW x.2.2
  inner : ∀ row ∈ c.inner, row.length = 2 ∧ ∀ x ∈ row, IsW x.2
  ret : ∀ lists ∈ c.ret, lists.length = 2 ∧ ∀ row ∈ lists, ∀ x ∈ row, IsW x.2
theorem outB_w {t : ByteArray} (h : outB t = true) : IsW t := by
  rw [outB, Bool.and_eq_true] at h
  exact (wB_iff t).1 h.2
theorem rowB_iff {α : Type} {p : α → Bool} {k : Int} {xs : List α} (h : rowB p k xs = true) : (∀ x ∈ xs, p x = true) ∧ (xs.length : Int) = k := by
  rw [rowB, Bool.and_eq_true, List.all_eq_true, decide_eq_true_eq] at h
  exact h
theorem okR_vs {c : Rw} (h : okR c = true) : VS c := by
  simp only [okR, restB, Bool.and_eq_true, decide_eq_true_eq, List.all_eq_true] at h
  obtain ⟨_, _, _, h4, h5, h6, h7, h8⟩ := h
  refine ⟨h4, h5, fun row hr => ?_, fun row hr => ?_, fun lists hl => ?_⟩
  · obtain ⟨h1, h2⟩ := rowB_iff (h6 row hr)
    refine ⟨by omega, fun x hx => ?_⟩
    have := h1 x hx
    simp only [opB, Bool.and_eq_true] at this
    exact outB_w this.2.2
  · obtain ⟨h1, h2⟩ := rowB_iff (h7 row hr)
    refine ⟨by omega, fun x hx => ?_⟩
    have := h1 x hx
    simp only [omB, Bool.and_eq_true] at this
    exact outB_w this.2
  · obtain ⟨h1, h2⟩ := rowB_iff (h8 lists hl)
    refine ⟨by omega, fun row hr x hx => ?_⟩
    have := (rowB_iff (h1 row hr)).1 x hx
    simp only [omB, Bool.and_eq_true] at this
    exact outB_w this.2
end Go.Proofs.Ytmkamodmnplclaa
