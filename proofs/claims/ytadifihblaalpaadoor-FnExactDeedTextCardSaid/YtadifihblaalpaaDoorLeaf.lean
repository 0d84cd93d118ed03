/- The law's own functions on rows of plain cells: they compare, mark, and find the marks. -/
import Derived.Test.YtadifihblaalpaaDoorMark
import Derived.Test.YtadifihblaalpaaDoorRows
import Derived.ProofKit
import Derived.OpenShut
import Derived.BigQuiet
import Derived.Deep.QuietTactic
import Derived.Deep.RegionWith
namespace Go.Proofs.YtadifihblaalpaaDoor
open Go.RowKit

section
variable {α : Type} {base : Nat} {e : TypeId} {size : Nat} {enc : α → List Value} {w : World} {v : Value} {xs : List α} {bs : List Nat}
theorem RowE.slice (h : RowE base e size enc w v xs bs) : ∃ A c, v = .slice A xs.length c := by
  rcases h.1.2 with ⟨rfl, h0⟩ | ⟨g, cap, cur, rfl, _⟩
  · exact ⟨none, 0, by rw [h0]⟩
  · exact ⟨_, _, rfl⟩
theorem RowE.head {A : Option Addr} {n c : Nat} (h : RowE base e size enc w (.slice A n c) xs bs) {j : Nat} (hj : j < xs.length) : ∃ g, A = some ⟨g, 0, none⟩ ∧ g < w.heap.size ∧ bs = [g] := by
  obtain ⟨h, rfl⟩ := h
  rcases h.2 with ⟨_, h0⟩ | ⟨g, cap, cur, hv, _⟩
  · omega
  · simp only [Value.slice.injEq] at hv
    obtain ⟨rfl, _, rfl⟩ := hv
    exact ⟨g, rfl, (h.lt g rfl).2, rfl⟩
theorem RowE.len_ {A : Option Addr} {n c : Nat} (h : RowE base e size enc w (.slice A n c) xs bs) : n = xs.length := by
  rcases h.1.2 with ⟨hv, h0⟩ | ⟨g, cap, cur, hv, _⟩
  · simp only [Value.slice.injEq] at hv
    omega
  · simp only [Value.slice.injEq] at hv
    exact hv.2.1
theorem RowE.cell {g n c : Nat} (h : RowE base e size enc w (.slice (some ⟨g, 0, none⟩) n c) xs bs) (hs : ∀ x, (enc x).length = size) {j i : Nat} {x : α} {u : Value} (hx : xs[j]? = some x) (hu : (enc x)[i]? = some u) : w.cell? ⟨g, j * size + i, none⟩ = some u := by
  obtain rfl := h.len_
  have hi : i < size := by rw [← hs x]; exact (List.getElem?_eq_some_iff.1 hu).1
  have hj := (List.getElem?_eq_some_iff.1 hx).1
  have h1 : j * size + i < xs.length * size := by
    have := Nat.mul_le_mul_right size (show j + 1 ≤ xs.length from hj)
    rw [Nat.succ_mul] at this
    omega
  rw [h.1.cellAt _ h1, flat_at hs xs j x i hx hi, hu]
theorem RowE.frozen {g n c : Nat} (h : RowE base e size enc w (.slice (some ⟨g, 0, none⟩) n c) xs bs) (j : Nat) : w.frozen? ⟨g, j, none⟩ = false := by
  obtain rfl := h.len_
  exact h.1.frozenAt j
end

abbrev IntsE (base : Nat) : EP (List Int) := RowE base 2 1 fun x => [.int .i64 x]
abbrev BoolsE (base : Nat) : EP (List Bool) := RowE base 4 1 fun x => [.bool x]
theorem IntsE.cell' {base g n c : Nat} {w : World} {xs : List Int} {bs : List Nat} (h : IntsE base w (.slice (some ⟨g, 0, none⟩) n c) xs bs) {j : Nat} {x : Int} (hx : xs[j]? = some x) : w.cell? ⟨g, j, none⟩ = some (.int .i64 x) := by
  have := RowE.cell h (fun _ => rfl) (i := 0) hx rfl
  simpa using this
theorem BoolsE.cell' {base g n c : Nat} {w : World} {xs : List Bool} {bs : List Nat} (h : BoolsE base w (.slice (some ⟨g, 0, none⟩) n c) xs bs) {j : Nat} {x : Bool} (hx : xs[j]? = some x) : w.cell? ⟨g, j, none⟩ = some (.bool x) := by
  have := RowE.cell h (fun _ => rfl) (i := 0) hx rfl
  simpa using this
/-- One plain value is written. -/
theorem RowE.put1 {α : Type} {base : Nat} {e : TypeId} {f : α → Value} {w : World} {g n c : Nat} {xs : List α} {bs : List Nat} (h : RowE base e 1 (fun x => [f x]) w (.slice (some ⟨g, 0, none⟩) n c) xs bs) (j : Nat) (y : α) :
    RowE base e 1 (fun x => [f x]) (w.setCell ⟨g, j, none⟩ (f y)) (.slice (some ⟨g, 0, none⟩) n c) (xs.set j y) bs ∧ Turned bs w (w.setCell ⟨g, j, none⟩ (f y)) := by
  obtain rfl := h.len_
  obtain ⟨hr, rfl⟩ := h
  have h1 := hr.stored j (f y)
  rw [flat_set1] at h1
  exact ⟨⟨by rw [List.length_set]; exact h1.1, rfl⟩, Turned.of_grown h1.2 (fun r hr => by cases hr; simp [Value.ownBlock])⟩
/-- Both cells of a pair are written. -/
theorem RowE.put2 {α : Type} {base : Nat} {e : TypeId} {f k : α → Value} {w : World} {g n c : Nat} {xs : List α} {bs : List Nat} (h : RowE base e 2 (fun x => [f x, k x]) w (.slice (some ⟨g, 0, none⟩) n c) xs bs) (j : Nat) (y : α) :
    RowE base e 2 (fun x => [f x, k x]) ((w.setCell ⟨g, j * 2, none⟩ (f y)).setCell ⟨g, j * 2 + 1, none⟩ (k y)) (.slice (some ⟨g, 0, none⟩) n c) (xs.set j y) bs ∧ Turned bs w ((w.setCell ⟨g, j * 2, none⟩ (f y)).setCell ⟨g, j * 2 + 1, none⟩ (k y)) := by
  obtain rfl := h.len_
  obtain ⟨hr, rfl⟩ := h
  have h1 := hr.stored (j * 2) (f y)
  have h2 := h1.1.stored (j * 2 + 1) (k y)
  rw [Nat.mul_comm j 2, flat_set2] at h2
  rw [Nat.mul_comm j 2] at h1 ⊢
  exact ⟨⟨by rw [List.length_set]; exact h2.1, rfl⟩, (Turned.of_grown h1.2 (fun r hr => by cases hr; simp [Value.ownBlock])).trans (Turned.of_grown h2.2 (fun r hr => by cases hr; simp [Value.ownBlock]))⟩


end Go.Proofs.YtadifihblaalpaaDoor
