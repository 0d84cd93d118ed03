/- readNested: a text of at most 60 symbols is read; any other text is refused, its panic being recovered. -/
import Derived.Test.YtfaiifiohomdmaaRead
namespace Go.Proofs.Ytfaiifiohomdmaa
open Go.RowKit

/-- The symbols' numbers, and the kinds, of a text. -/
def symL (l : List UInt8) : List Int := l.map fun b => symNo b.toNat
def ksOf (l : List UInt8) : List Nat := l.map fun b => kindS (symNo b.toNat)
def AllSym (l : List UInt8) : Prop := ∀ b ∈ l, 0 ≤ symNo b.toNat

theorem symL_len (l : List UInt8) : (symL l).length = l.length := by simp [symL]
theorem symL_snoc (l : List UInt8) (b : UInt8) : symL (l ++ [b]) = symL l ++ [symNo b.toNat] := by simp [symL]
theorem symL_ok {l : List UInt8} (h : AllSym l) : ∀ x ∈ symL l, 0 ≤ x ∧ x ≤ 5 := by
  intro x hx
  simp only [symL, List.mem_map] at hx
  obtain ⟨b, hb, rfl⟩ := hx
  exact ⟨h b hb, symNo_le _⟩
theorem symL_kinds (l : List UInt8) : (symL l).map kindS = ksOf l := by simp [symL, ksOf]

theorem info_sym : (Try.prog.info? 129).map (fun i => (i.zero, i.size, i.bytes)) = some (some (.int .u8 0), 1, 1) := by kernel_rfl

/-- What holds at the head of each round of the reader: B is the heap's size when the call began. -/
structure NRel (w : World) (B n : Nat) (l : List UInt8) (k : Nat) (wr : World) : Prop where
  rowS : wr.ownsRow (B + 1 + 1) 129 1 (.slice (some ⟨B + 1 + 1, 0, none⟩) k n) k (symsV (symL (l.take k)))
  c0 : wr.cell? ⟨B, 0, none⟩ = some (.slice none 0 0)
  c1 : wr.cell? ⟨B, 1, none⟩ = some (.slice none 0 0)
  c2 : wr.cell? ⟨B + 1, 0, none⟩ = some (.bool false)
  f0 : wr.frozen? ⟨B, 0, none⟩ = false
  f1 : wr.frozen? ⟨B, 1, none⟩ = false
  f2 : wr.frozen? ⟨B + 1, 0, none⟩ = false
  below : Below B w wr
  size : B + 1 + 1 < wr.heap.size

theorem NRel.next {w wr w2 : World} {B n : Nat} {l : List UInt8} {k : Nat} {o : Obj} {b : UInt8} (h : NRel w B n l k wr) (hk : l[k]? = some b)
    (hown : w2.ownsRow (B + 1 + 1) 129 1 (.slice (some ⟨B + 1 + 1, 0, none⟩) (k + 1) n) (k + 1) (symsV (symL (l.take k)) ++ [.int .u8 (symNo b.toNat)]))
    (hg : (wr.alloc o).grownBy w2 (some (B + 1 + 1))) : NRel w B n l (k + 1) w2 := by
  have hs := h.size
  have cell (b j : Nat) (hb : b < B + 2) : w2.cell? ⟨b, j, none⟩ = wr.cell? ⟨b, j, none⟩ := by
    refine World.cell?_of_block ?_
    rw [hg.block b (by simp; omega) (by simp; omega)]
    exact Below.heap_alloc _ _ _ (by omega)
  have frz (b j : Nat) (hb : b < B + 2) : w2.frozen? ⟨b, j, none⟩ = wr.frozen? ⟨b, j, none⟩ := by
    refine World.frozen?_of_block ?_
    rw [hg.block b (by simp; omega) (by simp; omega)]
    exact Below.heap_alloc _ _ _ (by omega)
  refine ⟨?_, (cell _ _ (by omega)).trans h.c0, (cell _ _ (by omega)).trans h.c1, (cell _ _ (by omega)).trans h.c2, (frz _ _ (by omega)).trans h.f0, (frz _ _ (by omega)).trans h.f1,
    (frz _ _ (by omega)).trans h.f2, (h.below.alloc (by omega) o).grown hg (by simp; omega) (fun j e => by simp at e; omega), ?_⟩
  · rw [List.take_add_one, hk, Option.toList_some, symL_snoc]
    simpa [symsV] using hown
  · have := hg.size
    simp at this
    omega

theorem NRel.behind {w wr w1 : World} {B n : Nat} {l : List UInt8} {k : Nat} (h : NRel w B n l k wr) (hb : Below wr.heap.size wr w1) :
    w1.cell? ⟨B, 0, none⟩ = some (.slice none 0 0) ∧ w1.cell? ⟨B, 1, none⟩ = some (.slice none 0 0) ∧ w1.cell? ⟨B + 1, 0, none⟩ = some (.bool false) ∧
      w1.frozen? ⟨B, 0, none⟩ = false ∧ w1.frozen? ⟨B, 1, none⟩ = false ∧ w1.frozen? ⟨B + 1, 0, none⟩ = false := by
  have hs := h.size
  exact ⟨(hb.cell (p := ⟨B, 0, none⟩) (by simp; omega)).trans h.c0, (hb.cell (p := ⟨B, 1, none⟩) (by simp; omega)).trans h.c1, (hb.cell (p := ⟨B + 1, 0, none⟩) (by simp; omega)).trans h.c2,
    (hb.frozen (p := ⟨B, 0, none⟩) (by simp; omega)).trans h.f0, (hb.frozen (p := ⟨B, 1, none⟩) (by simp; omega)).trans h.f1, (hb.frozen (p := ⟨B + 1, 0, none⟩) (by simp; omega)).trans h.f2⟩

def ReadYes (n : Nat) (l : List UInt8) (w : World) (e : Ending) (w' : World) : Prop :=
  ∃ M, e = .returned (.tuple #[.agg #[.slice (some ⟨w.heap.size + 1 + 1, 0, none⟩) n n, .slice (some ⟨M, 0, none⟩) n n], .bool true]) ∧
    w'.ownsRow w.heap.size 129 1 (.slice (some ⟨w.heap.size + 1 + 1, 0, none⟩) n n) n (symsV (symL l)) ∧
    w'.ownsRow w.heap.size 2 1 (.slice (some ⟨M, 0, none⟩) n n) n (numsV (prts (ksOf l))) ∧ Below w.heap.size w w'

def ReadNo (w : World) (e : Ending) (w' : World) : Prop :=
  e = .returned (.tuple #[.agg #[.slice none 0 0, .slice none 0 0], .bool false]) ∧ Below w.heap.size w w'

end Go.Proofs.Ytfaiifiohomdmaa
