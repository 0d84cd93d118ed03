/- A word that is drawn from bytes: among, l01Drawn, A2Word. -/
import Derived.Test.YtnclhgaikglbgaaDraw
import Derived.Test.YtnclhgaikglbgaaWord
import Derived.Laws.IdiomStrings
namespace Go.Proofs.Ytnclhgaikglbgaa
open Go.RowKit

/-- The list out of which l01Drawn takes a symbol's number. -/
def sevenV : Array Value := #[.int .i64 0, .int .i64 1, .int .i64 2, .int .i64 2, .int .i64 3, .int .i64 4, .int .i64 5]
theorem seven_at (w : World) (j : Nat) (h : j < 7) : ∃ x : Int, (w.alloc (.cells sevenV 2)).cell? ⟨w.heap.size, j, none⟩ = some (.int .i64 x) ∧ 0 ≤ x ∧ x ≤ 5 := by
  have e : (w.alloc (.cells sevenV 2)).cell? ⟨w.heap.size, j, none⟩ = sevenV[j]? := by simp [go_sem]
  rw [e]
  rcases (show j = 0 ∨ j = 1 ∨ j = 2 ∨ j = 3 ∨ j = 4 ∨ j = 5 ∨ j = 6 by omega) with rfl | rfl | rfl | rfl | rfl | rfl | rfl
  · exact ⟨0, rfl, by omega, by omega⟩
  · exact ⟨1, rfl, by omega, by omega⟩
  · exact ⟨2, rfl, by omega, by omega⟩
  · exact ⟨2, rfl, by omega, by omega⟩
  · exact ⟨3, rfl, by omega, by omega⟩
  · exact ⟨4, rfl, by omega, by omega⟩
  · exact ⟨5, rfl, by omega, by omega⟩

theorem CodeAt.alloc {B : Nat} {W : World} {A : Option Addr} {n : Nat} (h : CodeAt B W A n) (hB : B ≤ W.heap.size) (o : Obj) : CodeAt B (W.alloc o) A n :=
  ⟨h.le, fun j hj => by
    obtain ⟨a, x, h1, h2, h3, h4⟩ := h.byte j hj
    have e : (a.add j).block = a.block := by unfold Addr.add; split <;> rfl
    exact ⟨a, x, h1, h2, (World.cell?_of_block (Below.heap_alloc _ _ _ (by omega))).trans h3, h4⟩⟩
theorem SrcAt.alloc {w : World} {p : Nat} {A : Option Addr} {n c k : Nat} (h : SrcAt w p A n c k) (hp : p < w.heap.size) (o : Obj) : SrcAt (w.alloc o) p A n c k := by
  have hb : (w.alloc o).heap[p]? = w.heap[p]? := Below.heap_alloc _ _ _ hp
  have e (j : Nat) : (w.alloc o).cell? ⟨p, j, none⟩ = w.cell? ⟨p, j, none⟩ := World.cell?_of_block (a := ⟨p, j, none⟩) hb
  have f (j : Nat) : (w.alloc o).frozen? ⟨p, j, none⟩ = w.frozen? ⟨p, j, none⟩ := World.frozen?_of_block (a := ⟨p, j, none⟩) hb
  exact ⟨(e 0).trans h.c0, (e 1).trans h.c1, by obtain ⟨x, h1, h2⟩ := h.c2; exact ⟨x, (e 2).trans h1, h2⟩, (f 1).trans h.f1, (f 2).trans h.f2⟩

theorem draw_among (p : Nat) (A : Option Addr) (n c k : Nat) (w : World) (hp : p < w.heap.size) (hc : CodeAt p w A n) (hs : SrcAt w p A n c k) (hk : k ≤ 100000) :
    Calls Try.prog 50 #[.pointer (some ⟨p, 0, none⟩), .slice (some ⟨w.heap.size, 0, none⟩) 7 7] (w.alloc (.cells sevenV 2)) fun e w' =>
      ∃ v : Int, 0 ≤ v ∧ v ≤ 5 ∧ e = .returned (.int .i64 v) ∧ SrcAt w' p A n c (k + 1) ∧ (w.alloc (.cells sevenV 2)).grownBy w' (some p) := by
  have st := draw_pick p A n c k 7 (w.alloc (.cells sevenV 2)) (hc.alloc (by omega) _) (hs.alloc hp _) hk (by omega) (by omega)
  have St := Lib.hid st
  have Sev := Lib.hid (seven_at w)
  have hsz : (w.alloc (.cells sevenV 2)).heap.size = w.heap.size + 1 := by simp
  generalize w.alloc (.cells sevenV 2) = w0 at St Sev hsz ⊢
  clear st hc hs
  go_enter Try.func50, Try.ntmps50
  go_wp2_with fail
  refine St.out.mono ?_
  rintro e w1 ⟨v, h0, h1, rfl, hS, hG⟩
  obtain ⟨j, rfl⟩ := Int.eq_ofNat_of_zero_le h0
  have hj : j < 7 := by omega
  obtain ⟨x, hx, hx0, hx5⟩ := Sev.out j hj
  have hx1 : w1.cell? ⟨w.heap.size, j, none⟩ = some (.int .i64 x) := (World.cell?_of_block (hG.block _ (by rw [hsz]; simp) (by simp; omega))).trans hx
  go_wp2
  go_ret
  exact ⟨x, hx0, hx5, rfl, hS, hG⟩

def rowB (l : List UInt8) : List Value := l.map fun b => Value.int .u8 (b.toNat : Int)
theorem info_u8d : (Try.prog.info? 5).map (fun i => (i.zero, i.size, i.bytes)) = some (some (.int .u8 0), 1, 1) := by kernel_rfl
theorem conv_rowB {w : World} {base n g : Nat} {c : Nat} {l : List UInt8} (h : w.ownsRow base 5 1 (.slice (some ⟨g, 0, none⟩) n c) n (rowB l)) :
    (convert 22 9 (.slice (some ⟨g, 0, none⟩) n c)).run Try.prog w = .ok (.string ⟨l.toArray⟩) w := by
  have hl : l.length = n := by have := h.1; simpa [rowB] using this
  subst hl
  refine run_convert_bytes_back w 22 9 5 ⟨g, 0, none⟩ _ l Try.underlying22 Try.underlying5 Try.underlying9 fun j hj => ?_
  have h1 := h.cellAt j (by omega)
  have e : (⟨g, 0, none⟩ : Addr).add j = ⟨g, j, none⟩ := by unfold Addr.add; split <;> simp_all
  rw [e, h1]
  simp [rowB, List.getElem?_eq_getElem hj]

structure DRel (w : World) (p : Nat) (A : Option Addr) (n c : Nat) (j : Nat) (l : List UInt8) (A' : Option Addr) (c' : Nat) (wr : World) (kk : Nat) : Prop where
  len : l.length = j
  sym : AllSym l
  row : wr.ownsRow w.heap.size 5 1 (.slice A' j c') j (rowB l)
  src : SrcAt wr p A n c kk
  code : CodeAt p wr A n
  below : Below p w wr
  size : w.heap.size ≤ wr.heap.size

section
variable {w wr : World} {p : Nat} {A : Option Addr} {n c j : Nat} {l : List UInt8} {A' : Option Addr} {c' kk : Nat}
theorem DRel.alloc (h : DRel w p A n c j l A' c' wr kk) (hp : p < w.heap.size) (o : Obj) : DRel w p A n c j l A' c' (wr.alloc o) kk := by
  have hs := h.size
  exact ⟨h.len, h.sym, h.row.alloc o, h.src.alloc (by omega) o, h.code.alloc (by omega) o, h.below.alloc (by omega) o, by simp; omega⟩
theorem DRel.drawn {w2 : World} (h : DRel w p A n c j l A' c' wr kk) (hp : p < w.heap.size) (hs2 : SrcAt w2 p A n c (kk + 1)) (hg : wr.grownBy w2 (some p)) : DRel w p A n c j l A' c' w2 (kk + 1) := by
  have hs := h.size
  have hne : (Value.slice A' j c').ownBlock = none ∨ (Value.slice A' j c').ownBlock ≠ some p := by
    cases hv : (Value.slice A' j c').ownBlock with
    | none => exact .inl rfl
    | some g =>
      refine .inr fun e => ?_
      have := (h.row.lt g hv).1
      simp at e
      omega
  exact ⟨h.len, h.sym, h.row.kept hg hne, hs2, h.code.grown (Nat.le_refl _) (by omega) hg, h.below.grown hg (by omega) (fun k e => by cases e; omega), Nat.le_trans hs hg.size⟩
theorem DRel.snoc {w3 : World} {v' : Value} {o : Obj} {b : UInt8} (h : DRel w p A n c j l A' c' wr kk) (hp : p < w.heap.size) (hb : 0 ≤ symNo (b.toNat : Int))
    (hown : w3.ownsRow w.heap.size 5 1 v' (j + 1) (rowB l ++ [.int .u8 (b.toNat : Int)])) (hg : (wr.alloc o).grownBy w3 (Value.slice A' j c').ownBlock) :
    ∃ g1 c1, v' = .slice (some ⟨g1, 0, none⟩) (j + 1) c1 ∧ DRel w p A n c (j + 1) (l ++ [b]) (some ⟨g1, 0, none⟩) c1 w3 kk := by
  have hs := h.size
  obtain ⟨g1, c1, rfl⟩ := ownsRow_succ hown
  have h0 := h.alloc hp o
  have hr : ∀ r, (Value.slice A' j c').ownBlock = some r → w.heap.size ≤ r := fun r e => (h.row.lt r e).1
  have hp2 : p < (wr.alloc o).heap.size := by simp; omega
  have hblk : w3.heap[p]? = (wr.alloc o).heap[p]? := hg.block p hp2 (fun e => by have := hr p e.symm; omega)
  have e (i : Nat) : w3.cell? ⟨p, i, none⟩ = (wr.alloc o).cell? ⟨p, i, none⟩ := World.cell?_of_block (a := ⟨p, i, none⟩) hblk
  have f (i : Nat) : w3.frozen? ⟨p, i, none⟩ = (wr.alloc o).frozen? ⟨p, i, none⟩ := World.frozen?_of_block (a := ⟨p, i, none⟩) hblk
  refine ⟨g1, c1, rfl, by simp [h.len], fun x hx => ?_, by simpa [rowB] using hown, ?_, ?_, h0.below.grown hg (by omega) (fun k e => by have := hr k e; omega), Nat.le_trans h0.size hg.size⟩
  · rcases List.mem_append.1 hx with hx | hx
    · exact h.sym x hx
    · simp only [List.mem_singleton] at hx; subst hx; exact hb
  · exact ⟨(e 0).trans h0.src.c0, (e 1).trans h0.src.c1, by obtain ⟨x, h1, h2⟩ := h0.src.c2; exact ⟨x, (e 2).trans h1, h2⟩, (f 1).trans h0.src.f1, (f 2).trans h0.src.f2⟩
  · exact ⟨h0.code.le, fun i hi => by
      obtain ⟨a, x, h1, h2, h3, h4⟩ := h0.code.byte i hi
      have eb : (a.add i).block = a.block := by unfold Addr.add; split <;> rfl
      exact ⟨a, x, h1, h2, (World.cell?_of_block (hg.block _ (by omega) (fun e => by have := hr _ e.symm; omega))).trans h3, h4⟩⟩
end
end Go.Proofs.Ytnclhgaikglbgaa
