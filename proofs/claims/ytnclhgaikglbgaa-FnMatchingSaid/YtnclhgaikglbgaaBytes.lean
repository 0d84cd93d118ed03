/- Bytes that came in, and what is drawn from them. -/
import Derived.Test.YtnclhgaikglbgaaTo
import Derived.Test.YtnclhgaikglbgaaOpen
import Derived.Test.YtnclhgaikglbgaaDraw
namespace Go.Proofs.Ytnclhgaikglbgaa
open Go.RowKit Go.ChangeShapes Go.WideShapes Go.Deep
set_option linter.unusedVariables false

/-- Bytes that came in. -/
abbrev BytesR : RP (List Int) := RowR 1 fun x => [.int .u8 x]
def WfU (xs : List Int) : Prop := ∀ x ∈ xs, 0 ≤ x ∧ x ≤ 255
theorem bytes_r : RP.Ok BytesR := RowR.ok _ _
theorem cells_u8 : Try.prog.cellsOf 5 = 1 := by kernel_rfl
section
variable {H : Type} {enc : TypeId × Value → H} {w : World} {held : Bool}
theorem read_u8 {n : Nat} {cs : List Value} {x : DataW H × List MemPlace} (h : DataW.trod enc Try.prog w 0 (fun _ => true) held n 5 cs = some x) : ∃ y : Int, cs = [.int .u8 y] ∧ (0 ≤ y ∧ y ≤ 255) := by
  obtain ⟨y, rfl, _, hw⟩ := DataW.trod_int Try.underlying5 h
  refine ⟨y, rfl, ?_⟩
  have := bounds_u8 hw
  omega
theorem read_bytes {n : Nat} {v : Value} {x : DataW H × List MemPlace} (h : DataW.trod enc Try.prog w 0 (fun _ => true) held n 22 [v] = some x) : ∃ y, BytesR w v y ∧ WfU y :=
  open_row Try.underlying22 cells_u8 (fun _ _ _ h => read_u8 h) h
end
/-- They can be drawn from. -/
theorem BytesR.code {w W : World} {A : Option Addr} {c : Nat} {xs : List Int} {n : Nat} (h : BytesR w (.slice A n c) xs) (hn : n = xs.length) (h3 : n ≤ 3000) (hw : WfU xs) (hb : Below w.heap.size w W) : CodeAt w.heap.size W A n := by
  obtain ⟨A', c', e, _, hx⟩ := h
  simp only [Value.slice.injEq] at e
  obtain ⟨rfl, h2, rfl⟩ := e
  refine ⟨h3, fun j hj => ?_⟩
  obtain ⟨x, hxj⟩ : ∃ x, xs[j]? = some x := ⟨_, List.getElem?_eq_getElem (by omega)⟩
  obtain ⟨a, rfl, hl, hc⟩ := hx j x 0 _ hxj rfl
  rw [Nat.mul_one, add_zero'] at hc
  have hv := hw x (List.mem_of_getElem? hxj)
  exact ⟨a, x, rfl, hl, (hb.cell (by rw [add_block]; exact hl)).trans hc, hv.1, hv.2⟩
end Go.Proofs.Ytnclhgaikglbgaa
