/- A region that draws its order: a store behind all the others, and one operation that may come ahead of it or behind it. -/
import Derived.Test.YtfaiifiohomdmaaFree
namespace Go.Proofs.Ytfaiifiohomdmaa
open Go.RowKit
set_option linter.unusedVariables false
section
variable {P : Program} {ops : Array Oper} {Q : Exit → Act → World → Prop}

/-- At each turn one operation alone is ready, in this order. -/
def schedB (ops : Array Oper) : Array Bool → List Nat → Bool
  | listed, [] => (Region.ready .any ops listed).isEmpty
  | listed, i :: is => decide (Region.ready .any ops listed = [i]) && schedB ops (listed.setIfInBounds i true) is
theorem wpAny_sched : ∀ (is : List Nat) (fuel : Nat) (listed : Array Bool) (a : Act) (w : World), schedB ops listed is = true → is.length ≤ fuel → wpOps P ops Q is a w → wpAny P .any ops Q fuel listed a w
  | [], fuel, listed, a, w, hs, _, h => by
    refine wpAny_done ?_ h fuel
    simpa [schedB] using hs
  | i :: is, 0, listed, a, w, hs, hl, h => by simp at hl
  | i :: is, fuel + 1, listed, a, w, hs, hl, h => by
    unfold schedB at hs
    rw [Bool.and_eq_true] at hs
    have hready := of_decide_eq_true hs.1
    refine wpAny_all hready (by simp) fun k hk => ?_
    rw [List.mem_singleton.1 hk]
    rw [wpOps_cons] at h
    exact wpOp_mono (fun a w h => wpAny_sched is fuel _ a w hs.2 (by simp at hl; omega) h) h
def maskA (n f t : Nat) (b : Bool) : Array Bool := ((List.range n).map fun i => decide (i < f) && (b || decide (i ≠ t))).toArray
def leftN (n : Nat) (l : Array Bool) : Nat := ((List.range n).filter (fun i => !l.getD i true)).length
def floatB (ops : Array Oper) (f t : Nat) : Bool :=
  decide (t < f) && decide (f < ops.size) && ((List.range f).all fun j => decide (j = t) || (closed ops ops.size (behind ops f)).contains j) &&
  ((List.range ops.size).all fun k => decide (k ≤ f) || (closed ops ops.size (behind ops k)).contains f) &&
  schedB ops ((maskA ops.size f t true).setIfInBounds f true) (List.range' (f + 1) (ops.size - f - 1)) &&
  schedB ops ((maskA ops.size f t false).setIfInBounds f true) (t :: List.range' (f + 1) (ops.size - f - 1)) &&
  decide (ops.size - f - 1 + 1 ≤ leftN ops.size (maskA ops.size f t true)) && decide (ops.size - f - 1 + 2 ≤ leftN ops.size (maskA ops.size f t false))
theorem mask_eq {listed : Array Bool} {n f t : Nat} {b : Bool} (hs : listed.size = n) (h : ∀ i, i < n → (listed.getD i false = true ↔ (i < f ∧ (b = true ∨ i ≠ t)))) : listed = maskA n f t b := by
  refine Array.ext (by simp [maskA, hs]) fun i h1 h2 => ?_
  have hi : i < n := by rw [← hs]; exact h1
  have h3 := h i hi
  rw [Array.getD_eq_getD_getElem?, Array.getElem?_eq_getElem h1, Option.getD_some] at h3
  rw [Bool.eq_iff_iff, h3]
  simp [maskA]
theorem wp_region_free_float {id : Nat} {a : Act} {w : World} (hm : P.follows .mixedOrders = true) (facts : List Fact) (f t : Nat) (hp : apartB ops = true) (hfw : aheadB ops = true) (hdeps : depsB ops facts = true) (hok : ∀ F ∈ facts, F.Ok)
    (hfl : floatB ops f t = true) (hsteps : Steps (fun i o => i < f → FreeStep P ops Q facts a w i o) 0 ops.toList)
    (hend1 : ∀ (u : Nat → Value) (β : Nat → List Nat) (w' : World), Below w.heap.size w w' → Have facts u β w' (List.range f) →
      (∀ i j, i < f → j < f → i ≠ t → j ≠ t → i ≠ j → ∀ b ∈ β i, b ∉ β j) → (∀ i, i < f → i ≠ t → ∀ b ∈ β i, w.heap.size ≤ b ∧ b < w'.heap.size) → ∀ fr : Act, fr = frameL ops u a → wpOps P ops Q (f :: List.range' (f + 1) (ops.size - f - 1)) fr w')
    (hend2 : ∀ (u : Nat → Value) (β : Nat → List Nat) (w' : World), Below w.heap.size w w' → Have facts u β w' ((List.range f).filter fun k => k ≠ t) →
      (∀ i j, i < f → j < f → i ≠ t → j ≠ t → i ≠ j → ∀ b ∈ β i, b ∉ β j) → (∀ i, i < f → i ≠ t → ∀ b ∈ β i, w.heap.size ≤ b ∧ b < w'.heap.size) → ∀ fr : Act, fr = frameL ops u a → wpOps P ops Q (f :: t :: List.range' (f + 1) (ops.size - f - 1)) fr w') :
    (Code.region id ops true).wp P Q a w := by
  unfold floatB at hfl
  simp only [Bool.and_eq_true] at hfl
  obtain ⟨⟨⟨⟨⟨⟨⟨htf, hf⟩, hall⟩, hbeh⟩, hs1⟩, hs2⟩, hn1⟩, hn2⟩ := hfl
  have htf := of_decide_eq_true htf
  have hf := of_decide_eq_true hf
  have hn1 := of_decide_eq_true hn1
  have hn2 := of_decide_eq_true hn2
  refine wp_region_any hm (wpAny_free facts (fun i => decide (f ≤ i)) [] (fun k hk => by cases hk) hp hfw hdeps hok (fun i o ho => ?_) (fun listed u β w' hal hM => ?_))
  · by_cases hif : i < f
    · left
      exact ⟨by simpa using hif, Steps.all hsteps i o ho hif⟩
    · right
      intro listed u β w1 fuel hM hlen hli haft
      have hin := (Array.getElem?_eq_some_iff.1 ho).1
      have hsz := hM.size
      have hdone : ∀ j, (closed ops ops.size (behind ops i)).contains j = true → listed.getD j false = true := by
        intro j hj
        refine closed_listed hM.after ops.size (behind ops i) (fun q hq => ?_) j (by simpa using hj)
        unfold behind at hq
        rw [ho] at hq
        rw [List.mem_map] at hq
        obtain ⟨e, he, rfl⟩ := hq
        rw [List.mem_filter] at he
        exact haft e (by simpa using he.1) he.2
      obtain rfl : i = f := by
        rcases Nat.lt_or_ge f i with h | h
        · rw [List.all_eq_true] at hbeh
          have h1 := hbeh i (List.mem_range.2 hin)
          rw [Bool.or_eq_true] at h1
          rcases h1 with h1 | h1
          · have := of_decide_eq_true h1; omega
          · have := hM.goes f (hdone f h1)
            simp at this
        · omega
      have hcl : ∀ j, j < i → j ≠ t → listed.getD j false = true := by
        intro j hj hjt
        rw [List.all_eq_true] at hall
        have h1 := hall j (List.mem_range.2 hj)
        rw [Bool.or_eq_true] at h1
        rcases h1 with h1 | h1
        · exact absurd (of_decide_eq_true h1) hjt
        · exact hdone j h1
      have hno : ∀ j, i ≤ j → listed.getD j false = false := by
        intro j hj
        cases h : listed.getD j false with
        | false => rfl
        | true => have := hM.goes j h; simp at this; omega
      have hlt : ∀ j, listed.getD j false = true → j < i := by
        intro j h
        rcases Nat.lt_or_ge j i with h2 | h2
        · exact h2
        · rw [hno j h2] at h; cases h
      have hap : ∀ x y, x < i → y < i → x ≠ t → y ≠ t → x ≠ y → ∀ b ∈ β x, b ∉ β y := fun x y hx hy hxt hyt => hM.apart x y (hcl x hx hxt) (hcl y hy hyt)
      have hbd : ∀ x, x < i → x ≠ t → ∀ b ∈ β x, w.heap.size ≤ b ∧ b < w1.heap.size := fun x hx hxt => hM.bound x (hcl x hx hxt)
      cases ht : listed.getD t false with
      | true =>
        have hm_ : listed = maskA ops.size i t true := mask_eq hsz fun j hj => ⟨fun h => ⟨hlt j h, .inl rfl⟩, fun h => by by_cases e : j = t; rw [e]; exact ht; exact hcl j h.1 e⟩
        have h := hend1 u β w1 hM.below (Have.of fun k hk => hM.have_ k (by have hk := List.mem_range.1 hk; by_cases e : k = t; rw [e]; exact ht; exact hcl k hk e)) hap hbd _ (frameL_eq hp u a).symm
        rw [wpOps_cons] at h
        have hl : leftN ops.size listed ≤ fuel + 1 := hlen
        rw [hm_] at hl ⊢
        exact wpOp_mono (fun a w h => wpAny_sched _ fuel _ a w hs1 (by rw [List.length_range']; omega) h) h
      | false =>
        have hm_ : listed = maskA ops.size i t false := mask_eq hsz fun j hj => ⟨fun h => ⟨hlt j h, .inr fun e => by rw [e, ht] at h; cases h⟩, fun h => hcl j h.1 (h.2.resolve_left (by simp))⟩
        have h := hend2 u β w1 hM.below (Have.of fun k hk => hM.have_ k (by have hk := List.mem_filter.1 hk; exact hcl k (List.mem_range.1 hk.1) (by simpa using hk.2))) hap hbd _ (frameL_eq hp u a).symm
        rw [wpOps_cons] at h
        have hl : leftN ops.size listed ≤ fuel + 1 := hlen
        rw [hm_] at hl ⊢
        exact wpOp_mono (fun a w h => wpAny_sched _ fuel _ a w hs2 (by rw [List.length_cons, List.length_range']; omega) h) h
  · have := hM.goes f (hal f hf)
    simp at this
end
end Go.Proofs.Ytfaiifiohomdmaa
