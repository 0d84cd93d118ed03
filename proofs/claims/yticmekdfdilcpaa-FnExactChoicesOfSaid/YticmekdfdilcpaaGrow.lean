/- A value that owns its memory behind others: what an append leaves, whatever the element. -/
import Derived.Test.YticmekdfdilcpaaLit
namespace Go.Proofs.Yticmekdfdilcpaa
open Go.RowKit
set_option linter.unusedVariables false

theorem g_uniq {w : World} {base base' : Nat} {e : TypeId} {size n : Nat} {v : Value} {xs ys : List Value} (h : w.ownsRow base e size v n xs) (h' : w.ownsRow base' e size v n ys) : xs = ys := by
  rcases h.2 with ⟨rfl, h0⟩ | ⟨g, cap, cur, rfl, _, hg, _, _, _, hx⟩
  · have h1 := h.1
    have h2 := h'.1
    rw [h0, Nat.zero_mul] at h1 h2
    rw [List.eq_nil_of_length_eq_zero h1, List.eq_nil_of_length_eq_zero h2]
  · rcases h'.2 with ⟨hv, _⟩ | ⟨g', cap', cur', hv, _, hg', _, _, _, hx'⟩
    · cases hv
    · simp only [Value.slice.injEq, Option.some.injEq, Addr.mk.injEq, and_true, true_and] at hv
      obtain ⟨rfl, _⟩ := hv
      rw [hg] at hg'
      injection hg' with hg'
      injection hg' with hc
      rw [← hx, ← hx', hc]
/-- What a value of many reads as, as a row. -/
theorem ManyE.held {α : Type} {base : Nat} {e : TypeId} {E : EP α} {w : World} {v : Value} {xs : List α} {bs : List Nat} (h : ManyE base e E w v xs bs) : ∃ vs, w.ownsRow base e 1 v xs.length vs ∧ ∀ b, v.ownBlock = some b → b ∈ bs := by
  obtain ⟨vs, bss, hr, _, _, rfl, _⟩ := h
  exact ⟨vs, hr, fun b hb => by rw [hb]; simp⟩
/-- One more behind an append, in the world in which the append ran. -/
theorem many_grow {α : Type} {base g n : Nat} {e : TypeId} {E : EP α} (hE : EP.Ok base E) {wa w1 : World} {v v' u : Value} {xs : List α} {x : α} {bs cs : List Nat} {vs : List Value} (h : ManyE base e E wa v xs bs) (hn : xs.length = n) (hrow : wa.ownsRow base e 1 v n vs)
    (hu : E wa u x cs) (hd : ∀ b ∈ bs, b ∉ cs) (hown : w1.ownsRow base e 1 v' (n + 1) (vs ++ [u])) (hg : wa.grownBy w1 v.ownBlock) (hv' : v'.ownBlock = some g) (hat : v.ownBlock = some g ∨ g = wa.heap.size) :
    ∃ bs', ManyE base e E w1 v' (xs ++ [x]) bs' ∧ ∀ b ∈ bs', b ∈ bs ∨ b ∈ cs ∨ b = g := by
  have hgb : ∀ b, b < wa.heap.size → some b ≠ v.ownBlock → w1.heap[b]? = wa.heap[b]? := fun b hb hne => hg.block b hb hne
  have hbl := (h.held).choose_spec.2
  obtain ⟨bs', h1, h2⟩ := h.snoc (w' := w1) (v' := v') (u := u) (x := x) (cs := cs) hE
    (fun vs' hr => by rw [hn] at hr ⊢; rw [g_uniq hr hrow]; exact hown) hgb
    (by
      rcases hat with e1 | e1
      · exact .inl (by rw [e1, hv'])
      · refine .inr ⟨g, hv', fun hm => ?_, fun hm => ?_⟩
        · have := ((ManyE.ok _ hE).lt h g hm).2
          omega
        · have := (hE.lt hu g hm).2
          omega)
    (hE.kept hu fun b hb => hgb b (hE.lt hu b hb).2 fun e2 => hd b (hbl b e2.symm) hb) hd (hE.nodup hu)
  refine ⟨bs', h1, fun b hb => ?_⟩
  rcases h2 b hb with h | h | h
  · exact .inl h
  · exact .inr (.inl h)
  · refine .inr (.inr ?_)
    rw [hv'] at h
    exact Option.some.inj h
end Go.Proofs.Yticmekdfdilcpaa
