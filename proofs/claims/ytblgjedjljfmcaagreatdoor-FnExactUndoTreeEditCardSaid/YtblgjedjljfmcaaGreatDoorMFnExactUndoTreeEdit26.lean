import Derived.Test.YtblgjedjljfmcaaGreatDoorMFnExactUndoTreeEdit25
import Derived.Test.YtblgjedjljfmcaaGreatDoorMFnExactUndoTreeEdit1
import Derived.BigQuiet
import Derived.Deep.QuietTactic
/- A loop over the places that collects: what its body says of its own blocks. -/
namespace Go.Proofs.YtblgjedjljfmcaaGreatDoor
open Go.RowKit Go.Shelf

structure Coll (n1 bx Bs : Nat) (t e : TypeId) (vals : List Value) (B : Nat → Prop) (w1 W : World) : Prop where
  val : ∃ v, Boxed W bx t v ∧ W.ownsRow n1 e 1 v vals.length vals ∧ ∀ g, v.ownBlock = some g → ¬ B g ∧ g ≠ Bs
  box : ¬ B bx
  bnd : ∀ b, B b → b < W.heap.size ∧ n1 ≤ b
  lt : Bs < W.heap.size
  below : Below n1 w1 W

theorem Coll.own {α : Type} {n1 bx Bs n0 : Nat} {t e : TypeId} {w1 : World} (f : List α → List Value) (h1 : n1 ≤ n0) (h2 : n1 ≤ w1.heap.size) : OwnB n0 (fun pre B W => Coll n1 bx Bs t e (f pre) B w1 W) := by
  rintro pre B B' W W' row ⟨⟨v, hv, hr, ho⟩, hbx, hbnd, hlt, hbel⟩ hg hrow hB'
  have hs := hg.size
  have ht := hbel.size
  refine ⟨⟨v, hv.kept hg (fun e' => ?_), hr.kept hg ?_, fun g hgv => ⟨fun hb => ?_, (ho g hgv).2⟩⟩, fun hb => ?_, fun b hb => ?_, by omega, hbel.grown hg (by omega) (fun j ej => ?_)⟩
  · rcases hrow bx e'.symm with h | ⟨_, o, h3, h4⟩
    · exact hbx h
    · rw [show W.heap[bx]? = _ from hv] at h3; cases h3; cases h4
  · cases hvo : v.ownBlock with
    | none => exact .inl rfl
    | some g =>
      refine .inr fun e' => ?_
      rcases hrow g e'.symm with h | ⟨_, o, h3, h4⟩
      · exact (ho g hvo).1 h
      · rcases hr.2 with ⟨rfl, _⟩ | ⟨g', cap, cur, rfl, _, hgb, _⟩
        · simp [Value.ownBlock] at hvo
        · obtain rfl : g' = g := by simpa [Value.ownBlock] using hvo
          rw [hgb] at h3; cases h3; cases h4
  · rcases hB' g hb with h | h
    · exact (ho g hgv).1 h
    · have := hr.lt g hgv
      omega
  · rcases hB' bx hb with h | h
    · exact hbx h
    · have := hv.lt
      omega
  · rcases hB' b hb with h | h
    · have := hbnd b h
      omega
    · omega
  · rcases hrow j ej with h | ⟨h, _⟩
    · exact (hbnd j h).2
    · omega

/-- The body that appends one value and stores the slice back. -/
theorem Coll.appended {n1 bx Bs n0 : Nat} {t e : TypeId} {vals : List Value} {B : Nat → Prop} {w1 W w2 : World} {v v' u : Value} {tmp : Obj} (hC : Coll n1 bx Bs t e vals B w1 W)
    (hv : Boxed W bx t v) (hr : W.ownsRow n1 e 1 v vals.length vals) (ho : ∀ g, v.ownBlock = some g → ¬ B g ∧ g ≠ Bs) (hte : t ≠ e) (hbx : n1 ≤ bx) (hbs : Bs ≠ bx) (hn1 : n1 ≤ w1.heap.size)
    (hown : w2.ownsRow n1 e 1 v' (vals.length + 1) (vals ++ [u])) (hg : (W.alloc tmp).grownBy w2 v.ownBlock) (hat : v'.ownBlock = v.ownBlock ∨ v'.ownBlock = some (W.heap.size + 1)) :
    Boxed w2 bx t v ∧ Coll n1 bx Bs t e (vals ++ [u]) B w1 (w2.setCell ⟨bx, 0, none⟩ v') ∧ KeepsFrom n0 W (w2.setCell ⟨bx, 0, none⟩ v') ∧ KpB n1 Bs W (w2.setCell ⟨bx, 0, none⟩ v') ∧ SameOn B W (w2.setCell ⟨bx, 0, none⟩ v') := by
  have hbel := hC.below.size
  have hlt := hC.lt
  obtain ⟨hv1, hv2, hr2, hk2, hb2⟩ := hv.appended (by exact hte) hr (by omega) hbx hown hg
  have hs := hk2.size
  have same : ∀ b, b < W.heap.size → v.ownBlock ≠ some b → b ≠ bx → (w2.setCell ⟨bx, 0, none⟩ v').heap[b]? = W.heap[b]? := fun b h1 h2 h3 =>
    (Below.heap_setCell _ _ _ b (by exact h3)).trans ((hg.block b (by rw [World.size_alloc]; omega) (fun e' => h2 e'.symm)).trans (Below.heap_alloc W tmp b h1))
  refine ⟨hv1, ⟨⟨v', hv2, by rw [List.length_append, List.length_singleton]; exact hr2, fun g hgv => ?_⟩, hC.box, fun b hb => ⟨by have := hC.bnd b hb; omega, (hC.bnd b hb).2⟩, by omega, hC.below.trans hb2⟩, hk2.from _, ⟨hb2, same Bs hlt (fun e' => (ho Bs e').2 rfl) hbs⟩, fun b hb => same b (hC.bnd b hb).1 (fun e' => (ho b e').1 hb) (fun e' => hC.box (e' ▸ hb))⟩
  rcases hat with h | h
  · exact ho g (h ▸ hgv)
  · rw [h] at hgv
    cases hgv
    exact ⟨fun hb => by have := hC.bnd _ hb; omega, by omega⟩
end Go.Proofs.YtblgjedjljfmcaaGreatDoor
/- The law's own small functions on lists of numbers: eqInt64S, markInt64S, heldInt64S. -/
namespace Go.Proofs.YtblgjedjljfmcaaGreatDoor
open Go.RowKit

/-- A slice of numbers that reads as a list: nil, or cells at its address. -/
def Nums (w : World) (A : Option Addr) (n : Nat) (xs : List Int) : Prop :=
  xs.length = n ∧ (0 < n → ∃ g, A = some ⟨g, 0, none⟩ ∧ g < w.heap.size ∧ ∀ (j : Nat) (x : Int), xs[j]? = some x → w.cell? ⟨g, j, none⟩ = some (.int .i64 x))

theorem Nums.of_row {w : World} {base : Nat} {A : Option Addr} {n c : Nat} {xs : List Int} (h : w.ownsRow base 2 1 (.slice A n c) n (numsV xs)) : Nums w A n xs := by
  refine ⟨by have := h.1; simpa [numsV] using this, fun hn => ?_⟩
  rcases h.2 with ⟨h0, h1⟩ | ⟨g, cap, cur, hv, _⟩
  · omega
  · simp only [Value.slice.injEq] at hv
    obtain ⟨rfl, _, rfl⟩ := hv
    refine ⟨g, rfl, (h.lt g rfl).2, fun j x hx => ?_⟩
    have hj : j < n := by
      have := (List.getElem?_eq_some_iff.1 hx).1
      have hl := h.1
      simp [numsV] at hl
      omega
    rw [h.cellAt j (by omega)]
    simp [numsV, hx]

theorem Nums.below {w w' : World} {A : Option Addr} {n : Nat} {xs : List Int} (h : Nums w A n xs) (hb : Below w.heap.size w w') : Nums w' A n xs :=
  ⟨h.1, fun hn => by
    obtain ⟨g, e, hg, hc⟩ := h.2 hn
    exact ⟨g, e, Nat.lt_of_lt_of_le hg hb.size, fun j x hx => (hb.cell (p := ⟨g, j, none⟩) hg).trans (hc j x hx)⟩⟩

theorem Nums.at_ {w : World} {A : Option Addr} {n : Nat} {xs : List Int} (h : Nums w A n xs) (k : Nat) (hk : k < n) : ∃ g x, A = some ⟨g, 0, none⟩ ∧ xs[k]? = some x ∧ w.cell? ⟨g, k, none⟩ = some (.int .i64 x) := by
  obtain ⟨g, e, _, hc⟩ := h.2 (by omega)
  have hl : k < xs.length := by have := h.1; omega
  exact ⟨g, xs[k], e, List.getElem?_eq_getElem hl, hc k _ (List.getElem?_eq_getElem hl)⟩

/-- 1, 2, 3 and so on. -/
def ramp (n : Nat) : List Int := (List.range n).map fun i : Nat => (i : Int) + 1
theorem ramp_len (n : Nat) : (ramp n).length = n := by simp [ramp]
theorem ramp_succ (n : Nat) : ramp (n + 1) = ramp n ++ [(n : Int) + 1] := by simp [ramp, List.range_succ]
theorem ramp_at (n k : Nat) (h : k < n) : (ramp n)[k]? = some ((k : Int) + 1) := by simp [ramp, h]

structure MarkRel (w : World) (base n : Nat) (A : Option Addr) (c : Nat) (xs : List Int) (j : Nat) (wr : World) : Prop where
  row : wr.ownsRow base 2 1 (.slice A n c) n (numsV (ramp j ++ xs.drop j))
  grown : w.grownBy wr (Value.slice A n c).ownBlock

theorem MarkRel.next {w wr : World} {base n g c : Nat} {xs : List Int} {j : Nat} (h : MarkRel w base n (some ⟨g, 0, none⟩) c xs j wr) (hx : xs.length = n) (hj : j < n) :
    MarkRel w base n (some ⟨g, 0, none⟩) c xs (j + 1) (wr.setCell ⟨g, j, none⟩ (.int .i64 ((j : Int) + 1))) := by
  have h1 := h.row.stored j (.int .i64 ((j : Int) + 1))
  refine ⟨?_, ?_⟩
  · have e : (numsV (ramp j ++ xs.drop j)).set j (.int .i64 ((j : Int) + 1)) = numsV (ramp (j + 1) ++ xs.drop (j + 1)) := by
      unfold numsV
      rw [← List.map_set, List.set_append_right _ _ (by rw [ramp_len]; exact Nat.le_refl _), ramp_len, Nat.sub_self, ramp_succ, List.append_assoc, List.singleton_append]
      rw [List.drop_eq_getElem_cons (by omega)]
      rfl
    rw [e] at h1
    exact h1.1
  · have g1 := h.grown
    have g2 := h1.2
    exact ⟨g2.os.trans g1.os, g2.tape.trans g1.tape, g2.output.trans g1.output, Nat.le_trans g1.size g2.size, fun k hk hne => (g2.block k (Nat.lt_of_lt_of_le hk g1.size) hne).trans (g1.block k hk hne)⟩

/-- What lies behind a call that answers a new list of numbers and a code. -/
def NumsPost (n : Nat) (xs : List Int) (code : Int) (w : World) (e : Ending) (w' : World) : Prop :=
  ∃ A c, e = .returned (.tuple #[.slice A n c, .int .i64 code]) ∧ w'.ownsRow w.heap.size 2 1 (.slice A n c) n (numsV xs) ∧ Below w.heap.size w w'
end Go.Proofs.YtblgjedjljfmcaaGreatDoor
