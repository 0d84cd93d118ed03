/- Plain mathematics of factors: where the factors of a matched word begin and end. -/
import Derived.Test.YtclcebakhohfnaaTree
namespace Go.Proofs.Ytclcebakhohfnaa

/-- A call that is closed, and its return. -/
theorem call_pair (ks : List Nat) : ∀ k m : Nat, ks[k]? = some 0 → (prts ks)[k]? = some (m : Int) → k < m ∧ ks[m]? = some 1 ∧ (opns (ks.take m)).getLast? = some k := by
  refine snoc_ind (p := fun ks => ∀ k m : Nat, ks[k]? = some 0 → (prts ks)[k]? = some (m : Int) → k < m ∧ ks[m]? = some 1 ∧ (opns (ks.take m)).getLast? = some k) ?_ (fun l x ih => ?_) ks
  · intro k m h; simp at h
  · intro k m hk hm
    have hlen := prts_len l
    by_cases hkl : k < l.length
    · rw [List.getElem?_append_left hkl] at hk
      have keep : ∀ y, (prts l ++ [y])[k]? = some (m : Int) → k < m ∧ (l ++ [x])[m]? = some 1 ∧ (opns ((l ++ [x]).take m)).getLast? = some k := by
        intro y hy
        rw [List.getElem?_append_left (by omega)] at hy
        obtain ⟨h1, h2, h3⟩ := ih k m hk hy
        have hml := (List.getElem?_eq_some_iff.1 h2).1
        exact ⟨h1, by rw [List.getElem?_append_left hml]; exact h2, by rw [List.take_append_of_le_length (by omega)]; exact h3⟩
      by_cases h0 : x = 0
      · subst h0; rw [(prts_call l).1] at hm; exact keep _ hm
      · by_cases h1 : x = 1
        · subst h1
          cases hl : (opns l).getLast? with
          | none => rw [(prts_ret_none l (List.getLast?_eq_none_iff.1 hl)).1] at hm; exact keep _ hm
          | some b =>
            rw [(prts_ret_some l b hl).1, List.getElem?_append_left (by simp; omega)] at hm
            by_cases hne : b = k
            · subst hne
              rw [List.getElem?_set_self (by omega)] at hm
              have hme : l.length = m := by have := Option.some.inj hm; omega
              subst hme
              exact ⟨hkl, by simp, by rw [List.take_left]; exact hl⟩
            · rw [List.getElem?_set_ne hne] at hm
              exact keep 0 (by rw [List.getElem?_append_left (by omega)]; exact hm)
        · rw [(prts_inner l x h0 h1).1] at hm; exact keep _ hm
    · have hie : k = l.length := by
        have := (List.getElem?_eq_some_iff.1 hk).1
        simp at this
        omega
      subst hie
      simp at hk
      subst hk
      rw [(prts_call l).1, List.getElem?_append_right (by omega), hlen] at hm
      simp at hm

/-- What is open at a place lay open at each earlier place behind its call. -/
theorem opns_back (ks : List Nat) (i d : Nat) : ∀ a ∈ opns (ks.take (i + d)), a < i → a ∈ opns (ks.take i) := by
  induction d with
  | zero => intro a h _; exact h
  | succ d ih =>
    intro a h hlt
    rw [← Nat.add_assoc, List.take_add_one] at h
    cases hx : ks[i + d]? with
    | none => rw [hx] at h; exact ih a (by simpa using h) hlt
    | some x =>
      rw [hx] at h
      have hil := (List.getElem?_eq_some_iff.1 hx).1
      by_cases h0 : x = 0
      · subst h0
        have e := (prts_call (ks.take (i + d))).2
        simp only [Option.toList_some] at h
        rw [e] at h
        rcases List.mem_append.1 h with h | h
        · exact ih a h hlt
        · simp [List.length_take] at h; omega
      · by_cases h1 : x = 1
        · subst h1
          simp only [Option.toList_some] at h
          cases hl : (opns (ks.take (i + d))).getLast? with
          | none =>
            rw [(prts_ret_none _ (List.getLast?_eq_none_iff.1 hl)).2] at h
            cases h
          | some b =>
            rw [(prts_ret_some _ b hl).2] at h
            exact ih a (List.dropLast_subset _ h) hlt
        · simp only [Option.toList_some] at h
          rw [(prts_inner _ x h0 h1).2] at h
          exact ih a h hlt

theorem lastI_neg {L : List Nat} : lastI L = -1 ↔ L = [] := by
  unfold lastI
  cases h : L.getLast? with
  | none => simp [List.getLast?_eq_none_iff.1 h]
  | some a =>
    constructor
    · intro e
      have : (a : Int) = -1 := e
      omega
    · intro e; rw [e] at h; cases h

/-- Whether a factor begins at the place j. -/
def isFac (ks : List Nat) (j : Nat) : Bool := decide (parI ks j = -1 ∧ ks[j]? ≠ some 1)
/-- The places below k at which factors begin. -/
def facs (ks : List Nat) (k : Nat) : List Nat := (List.range k).filter (isFac ks)
theorem facs_yes {ks : List Nat} {k : Nat} (h : isFac ks k = true) : facs ks (k + 1) = facs ks k ++ [k] := by simp [facs, List.range_succ, List.filter_append, h]
theorem facs_no {ks : List Nat} {k : Nat} (h : isFac ks k = false) : facs ks (k + 1) = facs ks k := by simp [facs, List.range_succ, List.filter_append, h]
theorem facs_skip {ks : List Nat} {k : Nat} (d : Nat) (h : ∀ j, k ≤ j → j < k + d → isFac ks j = false) : facs ks (k + d) = facs ks k := by
  induction d with
  | zero => rfl
  | succ d ih => rw [← Nat.add_assoc, facs_no (h _ (by omega) (by omega)), ih (fun j h1 h2 => h j h1 (by omega))]

/-- A closed call that nothing lies round: a factor begins there, none begins within, and behind its return nothing is open. -/
theorem fac_call {ks : List Nat} {i m : Nat} (h0 : opns (ks.take i) = []) (hc : ks[i]? = some 0) (hp : (prts ks)[i]? = some (m : Int)) :
    i < m ∧ m < ks.length ∧ isFac ks i = true ∧ facs ks (m + 1) = facs ks i ++ [i] ∧ opns (ks.take (m + 1)) = [] := by
  obtain ⟨h1, h2, h3⟩ := call_pair ks i m hc hp
  have hml := (List.getElem?_eq_some_iff.1 h2).1
  have hf : isFac ks i = true := by
    rw [isFac, decide_eq_true_eq]
    refine ⟨?_, by rw [hc]; simp⟩
    rw [parI, lastI_neg, rnd, hc]
    simpa using h0
  refine ⟨h1, hml, hf, ?_, ?_⟩
  · have e : facs ks (i + 1 + (m - i)) = facs ks (i + 1) := facs_skip _ fun j hj1 hj2 => by
      rw [isFac, decide_eq_false_iff_not]
      rintro ⟨ha, hb⟩
      by_cases hjm : j = m
      · subst hjm; exact hb h2
      · rw [parI, lastI_neg] at ha
        have hov : over ks (prts ks) j i := ⟨hc, .inr ⟨_, hp, by omega⟩⟩
        rw [over_iff ks j i (by omega) (by omega), ha] at hov
        cases hov
    rw [show i + 1 + (m - i) = m + 1 from by omega] at e
    rw [e, facs_yes hf]
  · rw [List.take_add_one, h2, Option.toList_some, (prts_ret_some _ i h3).2]
    obtain ⟨L', hL⟩ := List.getLast?_eq_some_iff.1 h3
    have hu := opns_up (ks.take m)
    rw [hL, List.pairwise_append] at hu
    rw [hL, List.dropLast_concat]
    cases hL' : L' with
    | nil => rfl
    | cons a L =>
      have ha : a ∈ L' := by rw [hL']; simp
      have hlt := hu.2.2 a ha i (by simp)
      have hm : a ∈ opns (ks.take (i + (m - i))) := by rw [show i + (m - i) = m from by omega, hL]; simp [ha]
      have := opns_back ks i (m - i) a hm hlt
      rw [h0] at this
      cases this
theorem fac_in {ks : List Nat} {i x : Nat} (h0 : opns (ks.take i) = []) (hc : ks[i]? = some x) (hx0 : x ≠ 0) (hx1 : x ≠ 1) :
    isFac ks i = true ∧ facs ks (i + 1) = facs ks i ++ [i] ∧ opns (ks.take (i + 1)) = [] := by
  have hf : isFac ks i = true := by
    rw [isFac, decide_eq_true_eq]
    refine ⟨?_, by rw [hc]; intro e; exact hx1 (Option.some.inj e)⟩
    rw [parI, lastI_neg, rnd, hc, if_neg (fun e => hx1 (Option.some.inj e))]
    exact h0
  exact ⟨hf, facs_yes hf, by rw [List.take_add_one, hc, Option.toList_some, (prts_inner _ x hx0 hx1).2, h0]⟩
end Go.Proofs.Ytclcebakhohfnaa
