/- The law's own functions on rows of rows: they compare, mark, and find the marks. -/
import Derived.Test.YtadifihblaalpaaDoorLeaf
namespace Go.Proofs.YtadifihblaalpaaDoor
open Go.RowKit

def Bd1 {α : Type} (xs : List α) : Prop := xs.length ≤ 1048576
def Bd2 {α : Type} (xs : List (List α)) : Prop := xs.length ≤ 1048576 ∧ ∀ x ∈ xs, Bd1 x
def Bd3 {α : Type} (xs : List (List (List α))) : Prop := xs.length ≤ 1048576 ∧ ∀ x ∈ xs, Bd2 x

section
variable {α : Type} {base : Nat} {e : TypeId} {E : EP α} {w : World} {v : Value} {xs : List α} {bs : List Nat}
theorem ManyE.slice (h : ManyE base e E w v xs bs) : ∃ A c, v = .slice A xs.length c := by
  obtain ⟨vs, bss, hr, _⟩ := h
  rcases hr.2 with ⟨rfl, h0⟩ | ⟨g, cap, cur, rfl, _⟩
  · exact ⟨none, 0, by rw [h0]⟩
  · exact ⟨_, _, rfl⟩
end
abbrev Ints2E (base : Nat) : EP (List (List Int)) := ManyE base 38 (IntsE base)
theorem ints_ok (base : Nat) : EP.Ok base (IntsE base) := RowE.ok _ _ _ _
theorem bools_ok (base : Nat) : EP.Ok base (BoolsE base) := RowE.ok _ _ _ _
theorem ints2_ok (base : Nat) : EP.Ok base (Ints2E base) := ManyE.ok _ (ints_ok base)
def lenI (x : List Int) : Nat := x.length
def lenP (x : List (Int × Int)) : Nat := 2 * x.length
abbrev mkI2 := mkL mkI lenI
abbrev mkI3 := mkL mkI2 (szL lenI)
abbrev mkP2 := mkL mkP lenP


end Go.Proofs.YtadifihblaalpaaDoor
