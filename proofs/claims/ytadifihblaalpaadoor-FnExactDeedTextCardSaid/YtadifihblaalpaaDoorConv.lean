/- toChecker, and the laws' functions that count what came in. -/
import Derived.Test.YtadifihblaalpaaDoorOpen
import Derived.Test.YtadifihblaalpaaDoorBox
namespace Go.Proofs.YtadifihblaalpaaDoor
open Go.RowKit

/-- What is left, or that there is too much. -/
def dec (left n : Nat) : Int := if n ≤ left then ((left - n : Nat) : Int) else -1
theorem dec_yes {left n : Nat} (h : n ≤ left) : dec left n = ((left - n : Nat) : Int) := by rw [dec, if_pos h]
theorem dec_no {left n : Nat} (h : ¬ n ≤ left) : dec left n = -1 := by rw [dec, if_neg h]
def lenA {α : Type} (x : List α) : Nat := x.length
def cnt2 {α : Type} (xs : List (List α)) : Nat := xs.length + szL lenA xs
def cnt3 {α : Type} (xs : List (List (List α))) : Nat := xs.length + szL cnt2 xs


def cntC (c : Ck) : Nat := lenA c.accept + (cnt2 c.call + (cnt3 c.ret + cnt2 c.inner))
theorem szL_mem {α : Type} {sz : α → Nat} : ∀ (xs : List α) (x : α), x ∈ xs → sz x ≤ szL sz xs := by
  intro xs
  induction xs with
  | nil => intro x h; cases h
  | cons y xs ih =>
    intro x h
    simp only [szL, List.map_cons, List.sum_cons] at ih ⊢
    rcases List.mem_cons.1 h with rfl | h
    · omega
    · have := ih x h; omega
theorem szL_lenP (xs : List (List (Int × Int))) : szL lenP xs = 2 * szL lenA xs := by
  induction xs with
  | nil => rfl
  | cons y xs ih =>
    simp only [szL, List.map_cons, List.sum_cons] at ih ⊢
    rw [ih, lenP, lenA]
    omega
theorem szL_le {α : Type} {f g : α → Nat} (h : ∀ x, f x ≤ g x) (xs : List α) : szL f xs ≤ szL g xs := by
  induction xs with
  | nil => exact Nat.le_refl _
  | cons y xs ih =>
    simp only [szL, List.map_cons, List.sum_cons] at ih ⊢
    have := h y
    omega
/-- What is not too much is within all bounds. -/
theorem bd_of_cnt {c : Ck} (h : cntC c ≤ 1048576) : BdC c := by
  have h' : c.accept.length + ((c.call.length + szL lenA c.call) + ((c.ret.length + szL cnt2 c.ret) + (c.inner.length + szL lenA c.inner))) ≤ 1048576 := h
  refine ⟨by unfold Bd1; omega, ⟨by omega, fun x hx => ?_⟩, ⟨by omega, fun x hx => ?_⟩, ⟨by omega, fun x hx => ?_⟩, ?_⟩
  · have m := szL_mem (sz := lenA) _ _ hx
    have e : lenA x = x.length := rfl
    unfold Bd1
    omega
  · have m := szL_mem (sz := cnt2) _ _ hx
    have e : cnt2 x = x.length + szL lenA x := rfl
    refine ⟨by omega, fun y hy => ?_⟩
    have m2 := szL_mem (sz := lenA) _ _ hy
    have e2 : lenA y = y.length := rfl
    unfold Bd1
    omega
  · have m := szL_mem (sz := lenA) _ _ hx
    have e : lenA x = x.length := rfl
    unfold Bd1
    omega
  · have h1 : szL (szL lenI) c.ret ≤ szL cnt2 c.ret := szL_le (fun x => show szL lenI x ≤ cnt2 x from Nat.le_add_left _ _) _
    have h2 : szL lenI c.inner = szL lenA c.inner := rfl
    have h3 := szL_lenP c.call
    unfold szC
    omega

end Go.Proofs.YtadifihblaalpaaDoor
