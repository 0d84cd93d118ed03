/- A loop over the places that collects: what its body says of its own blocks. -/
import Derived.Test.YtclcebakhohfnaaPlaces
namespace Go.Proofs.Ytclcebakhohfnaa
open Go.RowKit Go.Shelf

structure Coll (n1 bx Bs : Nat) (t e : TypeId) (vals : List Value) (B : Nat → Prop) (w1 W : World) : Prop where
  val : ∃ v, Boxed W bx t v ∧ W.ownsRow n1 e 1 v vals.length vals ∧ ∀ g, v.ownBlock = some g → ¬ B g ∧ g ≠ Bs
  box : ¬ B bx
  bnd : ∀ b, B b → b < W.heap.size ∧ n1 ≤ b
  lt : Bs < W.heap.size
  below : Below n1 w1 W

theorem Coll.own {α : Type} {n1 bx Bs n0 : Nat} {t e : TypeId} {w1 : World} (f : List α → List Value) (h1 : n1 ≤ n0) (h2 : n1 ≤ w1.heap.size) : OwnB n0 (fun pre B W => Coll n1 bx Bs t e (f pre) B w1 W) := by
  rintro pre B B' W W' row ⟨⟨v, hv, hr, ho⟩, hbx, hbnd, hlt, hbel⟩ hg hrow hB'
  have hs := hg.size
  have ht := hbel.size
  refine ⟨⟨v, hv.kept hg (fun e' => ?_), hr.kept hg ?_, fun g hgv => ⟨fun hb => ?_, (ho g hgv).2⟩⟩, fun hb => ?_, fun b hb => ?_, by omega, hbel.grown hg (by omega) (fun j ej => ?_)⟩
  · rcases hrow bx e'.symm with h | ⟨_, o, h3, h4⟩
    · exact hbx h
    · rw [show W.heap[bx]? = _ from hv] at h3; cases h3; cases h4
  · cases hvo : v.ownBlock with
    | none => exact .inl rfl
    | some g =>
      refine .inr fun e' => ?_
      rcases hrow g e'.symm with h | ⟨_, o, h3, h4⟩
      · exact (ho g hvo).1 h
      · rcases hr.2 with ⟨rfl, _⟩ | ⟨g', cap, cur, rfl, _, hgb, _⟩
        · simp [Value.ownBlock] at hvo
        · obtain rfl : g' = g := by simpa [Value.ownBlock] using hvo
          rw [hgb] at h3; cases h3; cases h4
  · rcases hB' g hb with h | h
    · exact (ho g hgv).1 h
    · have := hr.lt g hgv
      omega
  · rcases hB' bx hb with h | h
    · exact hbx h
    · have := hv.lt
      omega
  · rcases hB' b hb with h | h
    · have := hbnd b h
      omega
    · omega
  · rcases hrow j ej with h | ⟨h, _⟩
    · exact (hbnd j h).2
    · omega

/-- The body that appends one value and stores the slice back. -/
theorem Coll.appended {n1 bx Bs n0 : Nat} {t e : TypeId} {vals : List Value} {B : Nat → Prop} {w1 W w2 : World} {v v' u : Value} {tmp : Obj} (hC : Coll n1 bx Bs t e vals B w1 W)
    (hv : Boxed W bx t v) (hr : W.ownsRow n1 e 1 v vals.length vals) (ho : ∀ g, v.ownBlock = some g → ¬ B g ∧ g ≠ Bs) (hte : t ≠ e) (hbx : n1 ≤ bx) (hbs : Bs ≠ bx) (hn1 : n1 ≤ w1.heap.size)
    (hown : w2.ownsRow n1 e 1 v' (vals.length + 1) (vals ++ [u])) (hg : (W.alloc tmp).grownBy w2 v.ownBlock) (hat : v'.ownBlock = v.ownBlock ∨ v'.ownBlock = some (W.heap.size + 1)) :
    Boxed w2 bx t v ∧ Coll n1 bx Bs t e (vals ++ [u]) B w1 (w2.setCell ⟨bx, 0, none⟩ v') ∧ KeepsFrom n0 W (w2.setCell ⟨bx, 0, none⟩ v') ∧ KpB n1 Bs W (w2.setCell ⟨bx, 0, none⟩ v') ∧ SameOn B W (w2.setCell ⟨bx, 0, none⟩ v') := by
  have hbel := hC.below.size
  have hlt := hC.lt
  obtain ⟨hv1, hv2, hr2, hk2, hb2⟩ := hv.appended (by exact hte) hr (by omega) hbx hown hg
  have hs := hk2.size
  have same : ∀ b, b < W.heap.size → v.ownBlock ≠ some b → b ≠ bx → (w2.setCell ⟨bx, 0, none⟩ v').heap[b]? = W.heap[b]? := fun b h1 h2 h3 =>
    (Below.heap_setCell _ _ _ b (by exact h3)).trans ((hg.block b (by rw [World.size_alloc]; omega) (fun e' => h2 e'.symm)).trans (Below.heap_alloc W tmp b h1))
  refine ⟨hv1, ⟨⟨v', hv2, by rw [List.length_append, List.length_singleton]; exact hr2, fun g hgv => ?_⟩, hC.box, fun b hb => ⟨by have := hC.bnd b hb; omega, (hC.bnd b hb).2⟩, by omega, hC.below.trans hb2⟩, hk2.from _, ⟨hb2, same Bs hlt (fun e' => (ho Bs e').2 rfl) hbs⟩, fun b hb => same b (hC.bnd b hb).1 (fun e' => (ho b e').1 hb) (fun e' => hC.box (e' ▸ hb))⟩
  rcases hat with h | h
  · exact ho g (h ▸ hgv)
  · rw [h] at hgv
    cases hgv
    exact ⟨fun hb => by have := hC.bnd _ hb; omega, by omega⟩
end Go.Proofs.Ytclcebakhohfnaa
