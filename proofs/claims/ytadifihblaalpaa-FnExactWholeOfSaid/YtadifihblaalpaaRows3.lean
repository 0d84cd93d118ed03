/- Rows one level deeper; the bounds of rows. -/
import Derived.Test.YtadifihblaalpaaConv
namespace Go.Proofs.Ytadifihblaalpaa
open Go.RowKit Go.ChangeShapes Go.WideShapes Go.Deep
set_option linter.unusedVariables false

def Bd4 {α : Type} (xs : List (List (List (List α)))) : Prop := xs.length ≤ 1048576 ∧ ∀ x ∈ xs, Bd3 x
abbrev Ints4E (base : Nat) : EP (List (List (List (List Int)))) := ManyE base 30 (Ints3E base)
abbrev Push3E (base : Nat) : EP (List (List (List (Int × Int)))) := ManyE base 39 (Push2E base)
theorem ints4_ok (base : Nat) : EP.Ok base (Ints4E base) := ManyE.ok _ (ints3_ok base)
theorem push3_ok (base : Nat) : EP.Ok base (Push3E base) := ManyE.ok _ (push2_ok base)
abbrev mkI4 := mkL mkI3 (szL (szL lenI))
abbrev mkP3 := mkL mkP2 (szL lenP)
abbrev Ints4R : RP (List (List (List (List Int)))) := ManyR Ints3R
abbrev Push3R : RP (List (List (List (Int × Int)))) := ManyR Push2R
theorem ints4_r : RP.Ok Ints4R := ManyR.ok ints3_r
theorem pushes3_r : RP.Ok Push3R := ManyR.ok pushes2_r
theorem toInfo_ints3 : (Try.prog.info? 30).map (fun i => (i.zero, i.size, i.bytes)) = some (some (.slice none 0 0), 1, 24) := by kernel_rfl
theorem toInfo_pushes2 : (Try.prog.info? 39).map (fun i => (i.zero, i.size, i.bytes)) = some (some (.slice none 0 0), 1, 24) := by kernel_rfl
theorem ints4_base {b b' : Nat} (hb : b' ≤ b) (w : World) (v : Value) (x : List (List (List (List Int)))) (bs : List Nat) (h : Ints4E b w v x bs) : Ints4E b' w v x bs := manyE_base (ints3_base hb) h hb
theorem pushes3_base {b b' : Nat} (hb : b' ≤ b) (w : World) (v : Value) (x : List (List (List (Int × Int)))) (bs : List Nat) (h : Push3E b w v x bs) : Push3E b' w v x bs := manyE_base (pushes2_base hb) h hb
def cnt4 {α : Type} (xs : List (List (List (List α)))) : Nat := xs.length + szL cnt3 xs
theorem cells_rows3_ints3 : Try.prog.cellsOf 30 = 1 := by kernel_rfl
theorem cells_rows3_pushes2 : Try.prog.cellsOf 29 = 1 := by kernel_rfl
section
variable {H : Type} {enc : TypeId × Value → H} {w : World} {held : Bool}
end

theorem bd1_of {α : Type} {xs : List α} (h : lenA xs ≤ 1048576) : Bd1 xs := h
theorem bd2_of {α : Type} {xs : List (List α)} (h : cnt2 xs ≤ 1048576) : Bd2 xs := by
  unfold cnt2 at h
  refine ⟨by omega, fun x hx => bd1_of ?_⟩
  have m := szL_mem (sz := lenA) _ _ hx
  omega
theorem bd3_of {α : Type} {xs : List (List (List α))} (h : cnt3 xs ≤ 1048576) : Bd3 xs := by
  unfold cnt3 at h
  refine ⟨by omega, fun x hx => bd2_of ?_⟩
  have m := szL_mem (sz := cnt2) _ _ hx
  omega
theorem bd4_of {α : Type} {xs : List (List (List (List α)))} (h : cnt4 xs ≤ 1048576) : Bd4 xs := by
  unfold cnt4 at h
  refine ⟨by omega, fun x hx => bd3_of ?_⟩
  have m := szL_mem (sz := cnt3) _ _ hx
  omega
theorem szL_le2 {α : Type} {f g : α → Nat} (h : ∀ x, f x ≤ 2 * g x) (xs : List α) : szL f xs ≤ 2 * szL g xs := by
  induction xs with
  | nil => exact Nat.zero_le _
  | cons y xs ih =>
    simp only [szL, List.map_cons, List.sum_cons] at ih ⊢
    have := h y
    omega
theorem le_bools (xs : List Bool) : xs.length ≤ 2 * lenA xs := by unfold lenA; omega
theorem le_ints (xs : List Int) : lenI xs ≤ 2 * lenA xs := by unfold lenA lenI; omega
theorem le_pushes (xs : List (Int × Int)) : lenP xs ≤ 2 * lenA xs := by unfold lenA lenP; omega
theorem le_ints2 (xs : List (List Int)) : szL lenI xs ≤ 2 * cnt2 xs := by have := szL_le2 le_ints xs; unfold cnt2; omega
theorem le_pushes2 (xs : List (List (Int × Int))) : szL lenP xs ≤ 2 * cnt2 xs := by have := szL_le2 le_pushes xs; unfold cnt2; omega
theorem le_ints3 (xs : List (List (List Int))) : szL (szL lenI) xs ≤ 2 * cnt3 xs := by have := szL_le2 le_ints2 xs; unfold cnt3; omega
theorem le_pushes3 (xs : List (List (List (Int × Int)))) : szL (szL lenP) xs ≤ 2 * cnt3 xs := by have := szL_le2 le_pushes2 xs; unfold cnt3; omega
theorem le_ints4 (xs : List (List (List (List Int)))) : szL (szL (szL lenI)) xs ≤ 2 * cnt4 xs := by have := szL_le2 le_ints3 xs; unfold cnt4; omega


end Go.Proofs.Ytadifihblaalpaa
