/- Plain mathematics of nested words: the matching as a fold over kinds (0 a call, 1 a return, 2 inner). Imports nothing of the translation. -/
import Derived.WalkKit
namespace Go.Proofs.Ytfaiifiohomdmaa

theorem snoc_ind {α : Type} {p : List α → Prop} (h0 : p []) (hs : ∀ l a, p l → p (l ++ [a])) (l : List α) : p l := by
  rw [← List.reverse_reverse l]
  induction l.reverse with
  | nil => exact h0
  | cons a l ih => rw [List.reverse_cons]; exact hs _ _ ih

def pstep (st : List Int × List Nat) (k : Nat) : List Int × List Nat :=
  if k = 0 then (st.1 ++ [-2], st.2 ++ [st.1.length])
  else if k = 1 then
    match st.2.getLast? with
    | some a => (st.1.set a st.1.length ++ [(a : Int)], st.2.dropLast)
    | none => (st.1 ++ [-2], st.2)
  else (st.1 ++ [-1], st.2)

def pst (ks : List Nat) : List Int × List Nat := ks.foldl pstep ([], [])
/-- The partners, as numbers. -/
def prts (ks : List Nat) : List Int := (pst ks).1
/-- The places of the open calls, the last one last. -/
def opns (ks : List Nat) : List Nat := (pst ks).2

theorem pst_snoc (ks : List Nat) (k : Nat) : pst (ks ++ [k]) = pstep (pst ks) k := by simp [pst, List.foldl_append]

theorem take_snoc {α : Type} (l : List α) (k : Nat) (h : k < l.length) : l.take (k + 1) = l.take k ++ [l[k]] := by
  rw [List.take_succ_eq_append_getElem h]

theorem pstep_len (st : List Int × List Nat) (k : Nat) : (pstep st k).1.length = st.1.length + 1 := by
  unfold pstep
  split
  · simp
  · split
    · split <;> simp
    · simp

theorem prts_len (ks : List Nat) : (prts ks).length = ks.length := by
  refine snoc_ind (p := fun ks => (prts ks).length = ks.length) ?_ (fun l a ih => ?_) ks
  · rfl
  · have := pstep_len (pst l) a
    simp only [prts, pst_snoc, List.length_append, List.length_singleton] at ih ⊢
    omega

theorem opns_lt (ks : List Nat) : ∀ a ∈ opns ks, a < ks.length := by
  refine snoc_ind (p := fun ks => ∀ a ∈ opns ks, a < ks.length) ?_ (fun l k ih => ?_) ks
  · intro a h; simp [opns, pst] at h
  · intro a h
    have hl := prts_len l
    simp only [prts] at hl
    simp only [opns, pst_snoc] at h ih
    simp only [List.length_append, List.length_singleton]
    unfold pstep at h
    split at h
    · simp only [List.mem_append, List.mem_singleton] at h
      rcases h with h | h
      · have := ih a h; omega
      · omega
    · split at h
      · split at h
        · have := ih a (List.dropLast_subset _ h); omega
        · have := ih a h; omega
      · have := ih a h; omega

theorem opns_len (ks : List Nat) : (opns ks).length ≤ ks.length := by
  refine snoc_ind (p := fun ks => (opns ks).length ≤ ks.length) ?_ (fun l k ih => ?_) ks
  · simp [opns, pst]
  · simp only [opns, pst_snoc, List.length_append, List.length_singleton] at ih ⊢
    unfold pstep
    split
    · simp; omega
    · split
      · split
        · simp; omega
        · simp; omega
      · simp; omega

/-! One step, by the kind. -/
theorem prts_call (ks : List Nat) : prts (ks ++ [0]) = prts ks ++ [-2] ∧ opns (ks ++ [0]) = opns ks ++ [ks.length] := by
  have := prts_len ks
  simp only [prts, opns, pst_snoc, pstep] at this ⊢
  simp [this]
theorem prts_ret_none (ks : List Nat) (h : opns ks = []) : prts (ks ++ [1]) = prts ks ++ [-2] ∧ opns (ks ++ [1]) = [] := by
  simp only [opns] at h
  simp [prts, opns, pst_snoc, pstep, h]
theorem prts_ret_some (ks : List Nat) (a : Nat) (h : (opns ks).getLast? = some a) :
    prts (ks ++ [1]) = (prts ks).set a ks.length ++ [(a : Int)] ∧ opns (ks ++ [1]) = (opns ks).dropLast := by
  have hl := prts_len ks
  simp only [opns, prts] at h hl
  simp [prts, opns, pst_snoc, pstep, h, hl]
theorem prts_inner (ks : List Nat) (k : Nat) (h0 : k ≠ 0) (h1 : k ≠ 1) : prts (ks ++ [k]) = prts ks ++ [-1] ∧ opns (ks ++ [k]) = opns ks := by
  simp [prts, opns, pst_snoc, pstep, h0, h1]

/-! A row that is filled from its head. -/
theorem fill_at {α : Type} (L : List α) (m : Nat) (z v : α) (k : Nat) (hk : L.length = k) :
    (L ++ List.replicate (m + 1) z).set k v = (L ++ [v]) ++ List.replicate m z := by
  subst hk
  rw [List.set_append_right _ _ (Nat.le_refl _)]
  simp [List.replicate_succ]
theorem fill_two {α : Type} (L : List α) (m : Nat) (z v u : α) (k a : Nat) (hk : L.length = k) (ha : a < k) :
    ((L ++ List.replicate (m + 1) z).set a u).set k v = (L.set a u ++ [v]) ++ List.replicate m z := by
  rw [List.set_append_left _ _ (by omega)]
  exact fill_at (L.set a u) m z v k (by simpa using hk)
end Go.Proofs.Ytfaiifiohomdmaa
