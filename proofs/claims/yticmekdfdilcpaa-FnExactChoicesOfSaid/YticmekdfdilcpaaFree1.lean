/- A region that draws its order, of whose operations one is taken first. -/
import Derived.Test.YticmekdfdilcpaaFree
namespace Go.Proofs.Yticmekdfdilcpaa
open Go.RowKit
set_option linter.unusedVariables false
section
variable {P : Program} {ops : Array Oper} {Q : Exit → Act → World → Prop}

/-- From f on each operation stands behind all those ahead of it but t. -/
def forcedB1 (ops : Array Oper) (f t : Nat) : Bool := (List.range ops.size).all fun k => decide (k < f) || (List.range k).all fun j => decide (j = t) || (closed ops ops.size (behind ops k)).contains j

/-- What is left comes in its order. -/
theorem wpAny_seq1 {f t : Nat} (htf : t < f) (hfw : aheadB ops = true) (hforced : forcedB1 ops f t = true) : ∀ (d k fuel : Nat) (listed : Array Bool) (a : Act) (w : World), f ≤ k → k + d = ops.size → listed.size = ops.size → (∀ i, i < ops.size → (listed.getD i false = true ↔ i < k)) → d ≤ fuel →
    wpOps P ops Q (List.range' k d) a w → wpAny P .any ops Q fuel listed a w
  | 0, k, fuel, listed, a, w, _, hk, hsz, hl, _, h => by
    refine wpAny_done ?_ h fuel
    unfold Region.ready
    rw [List.filter_eq_nil_iff]
    intro i hi
    have hin := List.mem_range.1 hi
    have h1 := (hl i hin).2 (by omega)
    have : listed.getD i true = true := by
      have hi' : i < listed.size := by omega
      simp [hi'] at h1 ⊢
      exact h1
    rw [this]
    simp
  | d + 1, k, 0, listed, a, w, _, hk, hsz, hl, hd, h => by omega
  | d + 1, k, fuel + 1, listed, a, w, hfk, hk, hsz, hl, hd, h => by
    have hkn : k < ops.size := by omega
    have hok : ops[k]? = some ops[k] := Array.getElem?_eq_getElem hkn
    have hgt : ∀ i, i < ops.size → listed.getD i true = listed.getD i false := by
      intro i hi
      have : i < listed.size := by omega
      rw [Array.getD_eq_getD_getElem?, Array.getD_eq_getD_getElem?, Array.getElem?_eq_getElem this]
      rfl
    have hready : Region.ready .any ops listed = [k] := by
      unfold Region.ready
      have hr : List.range ops.size = List.range k ++ (k :: List.range' (k + 1) d) := by
        rw [List.range_eq_range', List.range_eq_range', ← List.range'_succ, show List.range' k (d + 1) = List.range' (0 + 1 * k) (d + 1) by simp, List.range'_append, hk]
      rw [hr, List.filter_append]
      have e1 : (List.range k).filter (fun i => !listed.getD i true && ((ops[i]?).map (·.after.all fun e => !Region.binds .any e || listed.getD e.on false)).getD false) = [] := by
        rw [List.filter_eq_nil_iff]
        intro i hi
        have hi := List.mem_range.1 hi
        rw [hgt i (by omega), (hl i (by omega)).2 hi]
        simp
      have e2 : (List.range' (k + 1) d).filter (fun i => !listed.getD i true && ((ops[i]?).map (·.after.all fun e => !Region.binds .any e || listed.getD e.on false)).getD false) = [] := by
        rw [List.filter_eq_nil_iff]
        intro i hi hc
        have hi := List.mem_range'_1.1 hi
        have hin : i < ops.size := by omega
        have hoi : ops[i]? = some ops[i] := Array.getElem?_eq_getElem hin
        rw [hoi] at hc
        simp only [Option.map_some, Option.getD_some, Bool.and_eq_true] at hc
        have haf := Array.all_eq_true_iff_forall_mem.1 hc.2
        have hf2 := hforced
        unfold forcedB1 at hf2
        rw [List.all_eq_true] at hf2
        have h1 := hf2 i (List.mem_range.2 hin)
        rw [Bool.or_eq_true] at h1
        rcases h1 with h1 | h1
        · have := of_decide_eq_true h1; omega
        · rw [List.all_eq_true] at h1
          have h1 := h1 k (List.mem_range.2 (by omega))
          rw [Bool.or_eq_true] at h1
          have h1 := h1.resolve_left (fun h => by have := of_decide_eq_true h; omega)
          have := closed_listed (ops := ops) (listed := listed) (fun i' o' ho' hl' e he hb => by
            have h3 := ahead_of hfw ho' he hb
            have h4 := (Array.getElem?_eq_some_iff.1 ho').1
            exact (hl e.on (by omega)).2 (by have := (hl i' h4).1 hl'; omega)) ops.size (behind ops i) (fun q hq => by
            unfold behind at hq
            rw [hoi] at hq
            rw [List.mem_map] at hq
            obtain ⟨e, he, rfl⟩ := hq
            rw [List.mem_filter] at he
            have := haf e (by simpa using he.1)
            rw [he.2] at this
            simpa using this) k (by simpa using h1)
          have := (hl k hkn).1 this
          omega
      rw [e1, List.nil_append, List.filter_cons_of_pos, e2]
      rw [hgt k hkn, hok]
      have e3 : listed.getD k false = false := by
        cases h : listed.getD k false with
        | false => rfl
        | true => have := (hl k hkn).1 h; omega
      rw [e3]
      simp only [Option.map_some, Option.getD_some, Bool.not_false, Bool.true_and]
      rw [Array.all_eq_true_iff_forall_mem]
      intro e he
      cases hbnd : Region.binds .any e with
      | false => rfl
      | true =>
      have := ahead_of hfw hok he hbnd
      rw [(hl e.on (by omega)).2 this]
      simp
    refine wpAny_all hready (by simp) fun i hi => ?_
    rw [List.mem_singleton.1 hi]
    rw [List.range'_succ, wpOps_cons] at h
    refine wpOp_mono (fun a w h => wpAny_seq1 htf hfw hforced d (k + 1) fuel _ a w (by omega) (by omega) (by simpa using hsz) (fun i hi => ?_) (by omega) h) h
    by_cases e : i = k
    · subst e
      simp [show i < listed.size by omega]
    · simp only [Array.getD_eq_getD_getElem?, Array.getElem?_setIfInBounds_ne (fun e' => e e'.symm)]
      rw [← Array.getD_eq_getD_getElem?, hl i hi]
      omega


/-- As wp_region_free_seq; one operation (t), which yields in whatever world, is taken first. -/
theorem wp_region_free_seq1 {id : Nat} {a : Act} {w : World} (hm : P.follows .mixedOrders = true) (facts : List Fact) (f t : Nat) (v : Value) {ot : Oper} (ht : ops[t]? = some ot)
    (hsel : Region.noSelect ops = true) (hfree : Region.free .any ops (Array.replicate ops.size false) t = true) (hready : (Region.ready .any ops (Array.replicate ops.size false)).contains t = true)
    (hQ : ∀ c a w, Q (.panic c) (a.put ot.dst v) w → Q (.panic c) a w) (hy : Yields P ops ot v a) (hft : factAt facts t = .val [] (fun _ => v)) (htf : decide (t < f) = true)
    (hp : apartB ops = true) (hfw : aheadB ops = true) (hdeps : depsB ops facts = true) (hok : ∀ F ∈ facts, F.Ok)
    (hforced : forcedB1 ops f t = true) (hf : decide (f < ops.size) = true) (hsteps : Steps (fun i o => i < f → FreeStep P ops Q facts a w i o) 0 ops.toList)
    (hend : ∀ (u : Nat → Value) (β : Nat → List Nat) (w' : World), Below w.heap.size w w' → Have facts u β w' (List.range f) →
      (∀ i j, i < f → j < f → i ≠ j → ∀ b ∈ β i, b ∉ β j) → (∀ i, i < f → ∀ b ∈ β i, w.heap.size ≤ b ∧ b < w'.heap.size) → ∀ fr : Act, fr = frameL ops u a → wpOps P ops Q (List.range' f (ops.size - f)) fr w') :
    (Code.region id ops true).wp P Q a w := by
  have hf := of_decide_eq_true hf
  have htf := of_decide_eq_true htf
  have htn := (Array.getElem?_eq_some_iff.1 ht).1
  refine wp_region_any hm ?_
  obtain ⟨F, hF⟩ : ∃ F, ops.size = F + 1 := ⟨ops.size - 1, by omega⟩
  have hgo : wpAny P .any ops Q (F + 1) (Array.replicate ops.size false) a w.drew := by
    refine wpAny_take ht hsel hfree hready hQ hy ?_
    have hd : ot.dst = dstAt ops t := by unfold dstAt; rw [ht]; rfl
    have hfr : a.put ot.dst v = frameOf ops (upd (atFirst ops a) t v) a := by
      unfold frameOf
      rw [← putsA_put hp (atFirst ops a) a v _ (List.mem_range.2 htn) List.nodup_range (fun j hj => List.mem_range.1 hj), putsA_first, hd]
    rw [hfr]
    have hget : ∀ k, ((Array.replicate ops.size false).setIfInBounds t true).getD k false = true ↔ k = t := by
      intro k
      by_cases e : k = t
      · subst e; simp [htn]
      · simp only [Array.getD_eq_getD_getElem?, Array.getElem?_setIfInBounds_ne (fun e' => e e'.symm), e, iff_false]
        by_cases hk : k < ops.size <;> simp [hk]
    have hnoedge : ∀ e ∈ ot.after, Region.binds .any e = true → False := by
      intro e he hb
      have hr : t ∈ Region.ready .any ops (Array.replicate ops.size false) := by simpa using hready
      unfold Region.ready at hr
      rw [List.mem_filter, ht] at hr
      have h := hr.2
      simp only [Option.map_some, Option.getD_some, Bool.and_eq_true] at h
      have h := (Array.all_eq_true_iff_forall_mem.1 h.2) e he
      rw [hb] at h
      by_cases hk : e.on < ops.size <;> simp [hk] at h
    refine wpAny_mid (w := w) facts (fun i => decide (f ≤ i)) [t] hp hfw hdeps hok (fun i o ho => ?_) (fun listed u β w' hall hM => ?_) F _ _ (fun _ => []) w.drew ?_ ?_
    · by_cases hif : i < f
      · left
        exact ⟨by simpa using hif, Steps.all hsteps i o ho hif⟩
      · right
        intro listed u β w1 fuel hM hlen hli haft
        have hin := (Array.getElem?_eq_some_iff.1 ho).1
        have hsz := hM.size
        have hcl : ∀ j, j < i → listed.getD j false = true := by
          intro j hj
          by_cases ejt : j = t
          · exact hM.has j (by simp [ejt])
          have hf2 := hforced
          unfold forcedB1 at hf2
          rw [List.all_eq_true] at hf2
          have h1 := hf2 i (List.mem_range.2 hin)
          rw [Bool.or_eq_true] at h1
          rcases h1 with h1 | h1
          · exact absurd (of_decide_eq_true h1) hif
          · rw [List.all_eq_true] at h1
            refine closed_listed hM.after ops.size (behind ops i) (fun q hq => ?_) j (by have h3 := h1 j (List.mem_range.2 hj); rw [Bool.or_eq_true] at h3; simpa using h3.resolve_left (fun h => ejt (of_decide_eq_true h)))
            unfold behind at hq
            rw [ho] at hq
            rw [List.mem_map] at hq
            obtain ⟨e, he, rfl⟩ := hq
            rw [List.mem_filter] at he
            exact haft e (by simpa using he.1) he.2
        obtain rfl : i = f := by
          rcases Nat.lt_or_ge f i with h | h
          · have := hM.goes f (hcl f h)
            simp at this
          · omega
        have hno : ∀ j, i ≤ j → listed.getD j false = false := by
          intro j hj
          cases h : listed.getD j false with
          | false => rfl
          | true => have := hM.goes j h; simp at this; omega
        have h := hend u β w1 hM.below (Have.of fun k hk => hM.have_ k (hcl k (List.mem_range.1 hk))) (fun a b ha hb => hM.apart a b (hcl a ha) (hcl b hb)) (fun a ha => hM.bound a (hcl a ha)) _ (frameL_eq hp u a).symm
        rw [show ops.size - i = (ops.size - i - 1) + 1 by omega, List.range'_succ, wpOps_cons] at h
        have hcount : ops.size - i - 1 ≤ fuel := by
          have h2 : ((List.range ops.size).filter (fun k => !listed.getD k true)).length = ops.size - i := by
            have hr : List.range ops.size = List.range i ++ List.range' i (ops.size - i) := by
              rw [List.range_eq_range', List.range_eq_range', show List.range' i (ops.size - i) = List.range' (0 + 1 * i) (ops.size - i) by simp, List.range'_append, show i + (ops.size - i) = ops.size by omega]
            rw [hr, List.filter_append]
            have e1 : (List.range i).filter (fun k => !listed.getD k true) = [] := by
              rw [List.filter_eq_nil_iff]
              intro k hk
              have hk := List.mem_range.1 hk
              have h1 := hcl k hk
              have : k < listed.size := by omega
              simp [this] at h1 ⊢
              exact h1
            have e2 : (List.range' i (ops.size - i)).filter (fun k => !listed.getD k true) = List.range' i (ops.size - i) := by
              rw [List.filter_eq_self]
              intro k hk
              have hk := List.mem_range'_1.1 hk
              have h1 := hno k hk.1
              have : k < listed.size := by omega
              simp [this] at h1 ⊢
              exact h1
            rw [e1, e2]
            simp
          omega
        refine wpOp_mono (fun a w h => wpAny_seq1 htf hfw hforced (ops.size - i - 1) (i + 1) fuel _ a w (by omega) (by omega) (by simpa using hsz) (fun k hk => ?_) hcount h) h
        by_cases e : k = i
        · subst e
          simp [show k < listed.size by omega]
        · simp only [Array.getD_eq_getD_getElem?, Array.getElem?_setIfInBounds_ne (fun e' => e e'.symm)]
          rw [← Array.getD_eq_getD_getElem?]
          constructor
          · intro h1
            rcases Nat.lt_or_ge k i with h2 | h2
            · omega
            · rw [hno k h2] at h1; cases h1
          · intro h1
            exact hcl k (by omega)
    · have := hM.goes f (hall f hf)
      simp at this
    · refine ⟨by simp, fun i hi k hk => ?_, fun i o ho hi e he hb => ?_, fun i hi => ?_, fun k hk => (hget k).2 (by simpa using hk), ⟨rfl, rfl, rfl, Nat.le_refl _, fun _ _ => rfl⟩, fun i hi => ?_, (fun i j hi hj hij b hb => by cases hb), (fun i hi b hb => by cases hb)⟩
      · rw [hget] at hi ⊢
        subst hi
        rw [hft] at hk
        simpa [Fact.deps] using hk
      · rw [hget] at hi
        subst hi
        rw [ht] at ho
        cases ho
        exact absurd hb (fun hb => hnoedge e he hb)
      · rw [hget] at hi
        subst hi
        simp; omega
      · rw [hget] at hi
        subst hi
        rw [hft]
        show upd _ i v i = v
        rw [upd_same]
    · have hlt : ((List.range ops.size).filter (fun i => !((Array.replicate ops.size false).setIfInBounds t true).getD i true)).length < ops.size := by
        have := List.length_filter_lt_length_iff_exists (l := List.range ops.size) (p := fun i => !((Array.replicate ops.size false).setIfInBounds t true).getD i true) |>.2 ⟨t, List.mem_range.2 htn, by simp [htn]⟩
        simpa using this
      omega
  rw [← hF] at hgo
  exact hgo
end
end Go.Proofs.Yticmekdfdilcpaa
