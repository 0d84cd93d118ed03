import Derived.Test.YtnclhgaikglbgaaMFnPutAndCut4
/- Plain mathematics of parents: the last open call before a place. -/
namespace Go.Proofs.Ytnclhgaikglbgaa

/-- What is open round the place i: a return closes its call first. -/
def rnd (ks : List Nat) (i : Nat) : List Nat := if ks[i]? = some 1 then (opns (ks.take i)).dropLast else opns (ks.take i)
def lastI (L : List Nat) : Int := match L.getLast? with | some a => (a : Int) | none => -1
/-- The parent of the place i. -/
def parI (ks : List Nat) (i : Nat) : Int := lastI (rnd ks i)
def parL (ks : List Nat) (n : Nat) : List Int := (List.range n).map (parI ks)

theorem parL_len (ks : List Nat) (n : Nat) : (parL ks n).length = n := by simp [parL]
theorem parL_succ (ks : List Nat) (n : Nat) : parL ks (n + 1) = parL ks n ++ [parI ks n] := by simp [parL, List.range_succ]
theorem parL_at (ks : List Nat) (n k : Nat) (h : k < n) : (parL ks n)[k]? = some (parI ks k) := by simp [parL, h]

theorem opns_up (ks : List Nat) : (opns ks).Pairwise (· < ·) := by
  refine snoc_ind (p := fun ks => (opns ks).Pairwise (· < ·)) ?_ (fun l k ih => ?_) ks
  · simp [opns, pst]
  · by_cases h0 : k = 0
    · subst h0
      rw [(prts_call l).2, List.pairwise_append]
      exact ⟨ih, by simp, fun a ha b hb => by simp at hb; subst hb; exact opns_lt l a ha⟩
    · by_cases h1 : k = 1
      · subst h1
        cases hl : (opns l).getLast? with
        | none => rw [(prts_ret_none l (List.getLast?_eq_none_iff.1 hl)).2]; simp
        | some b => rw [(prts_ret_some l b hl).2]; exact ih.sublist (List.dropLast_sublist _)
      · rw [(prts_inner l k h0 h1).2]; exact ih

/-- An open call is the last one, or stays open. -/
theorem drop_mem {L : List Nat} {b k : Nat} (hu : L.Pairwise (· < ·)) (hb : L.getLast? = some b) : k ∈ L.dropLast ↔ k ∈ L ∧ k ≠ b := by
  obtain ⟨L', hL⟩ : ∃ L', L = L' ++ [b] := List.getLast?_eq_some_iff.1 hb
  subst hL
  rw [List.pairwise_append] at hu
  simp only [List.dropLast_concat, List.mem_append, List.mem_singleton]
  constructor
  · intro h
    exact ⟨.inl h, fun e => by have := hu.2.2 k h b (by simp); omega⟩
  · rintro ⟨h | h, h2⟩
    · exact h
    · exact absurd h h2

/-- A call of ks: open and pending, or closed before the end. -/
theorem call_is (ks : List Nat) : ∀ k : Nat, ks[k]? = some 0 → (k ∈ opns ks ∧ (prts ks)[k]? = some (-2)) ∨ (k ∉ opns ks ∧ ∃ m : Nat, k < m ∧ m < ks.length ∧ (prts ks)[k]? = some (m : Int)) := by
  refine snoc_ind (p := fun ks => ∀ k : Nat, ks[k]? = some 0 → (k ∈ opns ks ∧ (prts ks)[k]? = some (-2)) ∨ (k ∉ opns ks ∧ ∃ m : Nat, k < m ∧ m < ks.length ∧ (prts ks)[k]? = some (m : Int))) ?_ (fun l x ih => ?_) ks
  · intro k h; simp at h
  · intro k hk
    have hlen := prts_len l
    have hl1 : (l ++ [x]).length = l.length + 1 := by simp
    by_cases hkl : k < l.length
    · rw [List.getElem?_append_left hkl] at hk
      have ih := ih k hk
      have keep : ∀ y, (k ∈ opns l ∧ (prts l ++ [y])[k]? = some (-2)) ∨ (k ∉ opns l ∧ ∃ m : Nat, k < m ∧ m < (l ++ [x]).length ∧ (prts l ++ [y])[k]? = some (m : Int)) := by
        intro y
        rw [List.getElem?_append_left (by omega)]
        rcases ih with h | ⟨h0, m, h1, h2, h3⟩
        · exact .inl h
        · exact .inr ⟨h0, m, h1, by omega, h3⟩
      by_cases h0 : x = 0
      · subst h0
        rw [(prts_call l).1, (prts_call l).2]
        rcases keep (-2) with h | h
        · exact .inl ⟨by simp [h.1], h.2⟩
        · exact .inr ⟨by simp [h.1]; omega, h.2⟩
      · by_cases h1 : x = 1
        · subst h1
          cases hl : (opns l).getLast? with
          | none =>
            have hn := List.getLast?_eq_none_iff.1 hl
            have h := keep (-2)
            rw [hn] at h
            rw [(prts_ret_none l hn).1, (prts_ret_none l hn).2]; exact h
          | some b =>
            have hb := opns_lt l b (List.mem_of_getLast? hl)
            rw [(prts_ret_some l b hl).1, (prts_ret_some l b hl).2, drop_mem (opns_up l) hl, List.getElem?_append_left (by simp; omega)]
            by_cases hne : b = k
            · subst hne
              exact .inr ⟨fun h => h.2 rfl, l.length, hkl, by omega, List.getElem?_set_self (by omega)⟩
            · rw [List.getElem?_set_ne hne]
              rcases ih with h | ⟨h0, m, h1, h2, h3⟩
              · exact .inl ⟨⟨h.1, fun e => hne e.symm⟩, h.2⟩
              · exact .inr ⟨fun h => h0 h.1, m, h1, by omega, h3⟩
        · rw [(prts_inner l x h0 h1).1, (prts_inner l x h0 h1).2]; exact keep _
    · have hie : k = l.length := by
        have := (List.getElem?_eq_some_iff.1 hk).1
        omega
      subst hie
      simp at hk
      subst hk
      rw [(prts_call l).1, (prts_call l).2]
      exact .inl ⟨by simp, by rw [List.getElem?_append_right (by omega), hlen]; simp⟩

/-- Whether the call k lies round the place i. -/
def over (ks : List Nat) (ps : List Int) (i k : Nat) : Prop := ks[k]? = some 0 ∧ (ps[k]? = some (-2) ∨ ∃ q : Int, ps[k]? = some q ∧ (i : Int) < q)

theorem over_iff (ks : List Nat) : ∀ (i k : Nat), i < ks.length → k < i → (over ks (prts ks) i k ↔ k ∈ rnd ks i) := by
  refine snoc_ind (p := fun ks => ∀ (i k : Nat), i < ks.length → k < i → (over ks (prts ks) i k ↔ k ∈ rnd ks i)) ?_ (fun l x ih => ?_) ks
  · intro i k h; simp at h
  · intro i k hi hk
    have hlen := prts_len l
    have hl1 : (l ++ [x]).length = l.length + 1 := by simp
    have hkl : k < l.length := by omega
    by_cases hil : i < l.length
    · have e1 : rnd (l ++ [x]) i = rnd l i := by
        rw [rnd, rnd, List.getElem?_append_left hil, List.take_append_of_le_length (by omega)]
      rw [e1, ← ih i k hil hk, over, over, List.getElem?_append_left hkl]
      refine and_congr_right fun hc => ?_
      have same : ∀ y, (prts l ++ [y])[k]? = (prts l)[k]? := fun y => List.getElem?_append_left (by omega)
      by_cases h0 : x = 0
      · subst h0; rw [(prts_call l).1, same]
      · by_cases h1 : x = 1
        · subst h1
          cases hl : (opns l).getLast? with
          | none => rw [(prts_ret_none l (List.getLast?_eq_none_iff.1 hl)).1, same]
          | some b =>
            rw [(prts_ret_some l b hl).1, List.getElem?_append_left (by simp; omega)]
            by_cases hne : b = k
            · subst hne
              have hop := List.mem_of_getLast? hl
              rcases call_is l b hc with h | h
              · rw [List.getElem?_set_self (by omega), h.2]
                exact ⟨fun _ => .inl rfl, fun _ => .inr ⟨_, rfl, by omega⟩⟩
              · exact absurd hop h.1
            · rw [List.getElem?_set_ne hne]
        · rw [(prts_inner l x h0 h1).1, same]
    · obtain rfl : i = l.length := by omega
      have e1 : rnd (l ++ [x]) l.length = if x = 1 then (opns l).dropLast else opns l := by simp [rnd]
      have same : ∀ y, (prts l ++ [y])[k]? = (prts l)[k]? := fun y => List.getElem?_append_left (by omega)
      have base : (l[k]? = some 0 ∧ ((prts l)[k]? = some (-2) ∨ ∃ q : Int, (prts l)[k]? = some q ∧ (l.length : Int) < q)) ↔ k ∈ opns l := by
        constructor
        · rintro ⟨hc, h⟩
          rcases call_is l k hc with h1 | ⟨h1, m, h2, h3, h4⟩
          · exact h1.1
          · rw [h4] at h
            rcases h with h | ⟨q, h, h5⟩
            · exact absurd (Option.some.inj h) (by omega)
            · have := Option.some.inj h; omega
        · intro h
          have hc := opns_call l k h
          rcases call_is l k hc with h1 | h1
          · exact ⟨hc, .inl h1.2⟩
          · exact absurd h h1.1
      rw [e1, over, List.getElem?_append_left hkl]
      by_cases h0 : x = 0
      · subst h0; rw [(prts_call l).1, same]; exact base
      · by_cases h1 : x = 1
        · subst h1
          rw [if_pos rfl]
          cases hl : (opns l).getLast? with
          | none =>
            have hn := List.getLast?_eq_none_iff.1 hl
            rw [(prts_ret_none l hn).1, same, base, hn]; simp
          | some b =>
            rw [(prts_ret_some l b hl).1, List.getElem?_append_left (by simp; omega), drop_mem (opns_up l) hl]
            by_cases hne : b = k
            · subst hne
              rw [List.getElem?_set_self (by omega)]
              constructor
              · rintro ⟨_, h | ⟨q, h, h5⟩⟩
                · exact absurd (Option.some.inj h) (by omega)
                · have := Option.some.inj h; omega
              · rintro ⟨_, h⟩; exact absurd rfl h
            · rw [List.getElem?_set_ne hne, base]
              exact ⟨fun h => ⟨h, fun e => hne e.symm⟩, fun h => h.1⟩
        · rw [if_neg h1, (prts_inner l x h0 h1).1, same]; exact base

theorem rnd_up (ks : List Nat) (i : Nat) : (rnd ks i).Pairwise (· < ·) := by
  unfold rnd
  split
  · exact (opns_up _).sublist (List.dropLast_sublist _)
  · exact opns_up _
theorem rnd_lt (ks : List Nat) (i : Nat) : ∀ a ∈ rnd ks i, a < i := by
  intro a h
  have : a ∈ opns (ks.take i) := by
    unfold rnd at h
    split at h
    · exact List.dropLast_subset _ h
    · exact h
  have := opns_lt _ a this
  rw [List.length_take] at this
  omega

/-- The last one below k that is there. -/
def parK (c : Nat → Prop) [DecidablePred c] : Nat → Int
  | 0 => -1
  | k + 1 => if c k then (k : Int) else parK c k
theorem parK_last (c : Nat → Prop) [DecidablePred c] (n : Nat) : ∀ (L : List Nat), L.Pairwise (· < ·) → (∀ a ∈ L, a < n) → (∀ k, k < n → (c k ↔ k ∈ L)) → parK c n = lastI L := by
  induction n with
  | zero =>
    intro L _ hlt _
    cases L with
    | nil => rfl
    | cons a L => exact absurd (hlt a (by simp)) (by omega)
  | succ n ih =>
    intro L hu hlt hc
    rw [parK]
    by_cases h : c n
    · rw [if_pos h]
      have hm := (hc n (by omega)).1 h
      have hL : L.getLast? = some n := by
        cases hl : L.getLast? with
        | none => rw [List.getLast?_eq_none_iff.1 hl] at hm; cases hm
        | some b =>
          obtain ⟨L', hL⟩ := List.getLast?_eq_some_iff.1 hl
          subst hL
          rw [List.pairwise_append] at hu
          rcases List.mem_append.1 hm with h1 | h1
          · have := hu.2.2 n h1 b (by simp)
            have := hlt b (by simp)
            omega
          · simp at h1; rw [h1]
      rw [lastI, hL]
    · rw [if_neg h]
      refine ih L hu (fun a ha => ?_) (fun k hk => hc k (by omega))
      have := hlt a ha
      have : a ≠ n := fun e => h ((hc n (by omega)).2 (e ▸ ha))
      omega

noncomputable instance (ks : List Nat) (ps : List Int) (i : Nat) : DecidablePred (over ks ps i) := fun _ => Classical.propDecidable _
theorem parK_over (ks : List Nat) (i : Nat) (hi : i < ks.length) : parK (over ks (prts ks) i) i = parI ks i :=
  parK_last _ i _ (rnd_up ks i) (rnd_lt ks i) fun k hk => over_iff ks i k hi hk

/-- A return's own partner. -/
theorem prts_at_ret (ks : List Nat) : ∀ i : Nat, ks[i]? = some 1 → (prts ks)[i]? = some (match (opns (ks.take i)).getLast? with | some a => (a : Int) | none => -2) := by
  refine snoc_ind (p := fun ks => ∀ i : Nat, ks[i]? = some 1 → (prts ks)[i]? = some (match (opns (ks.take i)).getLast? with | some a => (a : Int) | none => -2)) ?_ (fun l x ih => ?_) ks
  · intro i h; simp at h
  · intro i hi
    have hlen := prts_len l
    have hl1 : (l ++ [x]).length = l.length + 1 := by simp
    by_cases hil : i < l.length
    · rw [List.getElem?_append_left hil] at hi
      rw [List.take_append_of_le_length (by omega), ← ih i hi]
      have same : ∀ y, (prts l ++ [y])[i]? = (prts l)[i]? := fun y => List.getElem?_append_left (by omega)
      by_cases h0 : x = 0
      · subst h0; rw [(prts_call l).1, same]
      · by_cases h1 : x = 1
        · subst h1
          cases hl : (opns l).getLast? with
          | none => rw [(prts_ret_none l (List.getLast?_eq_none_iff.1 hl)).1, same]
          | some b =>
            have hb := opns_call l b (List.mem_of_getLast? hl)
            have hne : b ≠ i := fun e => by subst e; rw [hb] at hi; cases hi
            rw [(prts_ret_some l b hl).1, List.getElem?_append_left (by simp; omega), List.getElem?_set_ne hne]
        · rw [(prts_inner l x h0 h1).1, same]
    · have hie : i = l.length := by
        have := (List.getElem?_eq_some_iff.1 hi).1
        omega
      subst hie
      simp at hi
      subst hi
      rw [List.take_left]
      cases hl : (opns l).getLast? with
      | none => rw [(prts_ret_none l (List.getLast?_eq_none_iff.1 hl)).1, List.getElem?_append_right (by omega), hlen]; simp
      | some b => rw [(prts_ret_some l b hl).1, List.getElem?_append_right (by simp; omega)]; simp [hlen]
end Go.Proofs.Ytnclhgaikglbgaa
/- Plain mathematics of factors: where the factors of a matched word begin and end. -/
namespace Go.Proofs.Ytnclhgaikglbgaa

/-- A call that is closed, and its return. -/
theorem call_pair (ks : List Nat) : ∀ k m : Nat, ks[k]? = some 0 → (prts ks)[k]? = some (m : Int) → k < m ∧ ks[m]? = some 1 ∧ (opns (ks.take m)).getLast? = some k := by
  refine snoc_ind (p := fun ks => ∀ k m : Nat, ks[k]? = some 0 → (prts ks)[k]? = some (m : Int) → k < m ∧ ks[m]? = some 1 ∧ (opns (ks.take m)).getLast? = some k) ?_ (fun l x ih => ?_) ks
  · intro k m h; simp at h
  · intro k m hk hm
    have hlen := prts_len l
    by_cases hkl : k < l.length
    · rw [List.getElem?_append_left hkl] at hk
      have keep : ∀ y, (prts l ++ [y])[k]? = some (m : Int) → k < m ∧ (l ++ [x])[m]? = some 1 ∧ (opns ((l ++ [x]).take m)).getLast? = some k := by
        intro y hy
        rw [List.getElem?_append_left (by omega)] at hy
        obtain ⟨h1, h2, h3⟩ := ih k m hk hy
        have hml := (List.getElem?_eq_some_iff.1 h2).1
        exact ⟨h1, by rw [List.getElem?_append_left hml]; exact h2, by rw [List.take_append_of_le_length (by omega)]; exact h3⟩
      by_cases h0 : x = 0
      · subst h0; rw [(prts_call l).1] at hm; exact keep _ hm
      · by_cases h1 : x = 1
        · subst h1
          cases hl : (opns l).getLast? with
          | none => rw [(prts_ret_none l (List.getLast?_eq_none_iff.1 hl)).1] at hm; exact keep _ hm
          | some b =>
            rw [(prts_ret_some l b hl).1, List.getElem?_append_left (by simp; omega)] at hm
            by_cases hne : b = k
            · subst hne
              rw [List.getElem?_set_self (by omega)] at hm
              have hme : l.length = m := by have := Option.some.inj hm; omega
              subst hme
              exact ⟨hkl, by simp, by rw [List.take_left]; exact hl⟩
            · rw [List.getElem?_set_ne hne] at hm
              exact keep 0 (by rw [List.getElem?_append_left (by omega)]; exact hm)
        · rw [(prts_inner l x h0 h1).1] at hm; exact keep _ hm
    · have hie : k = l.length := by
        have := (List.getElem?_eq_some_iff.1 hk).1
        simp at this
        omega
      subst hie
      simp at hk
      subst hk
      rw [(prts_call l).1, List.getElem?_append_right (by omega), hlen] at hm
      simp at hm

/-- What is open at a place lay open at each earlier place behind its call. -/
theorem opns_back (ks : List Nat) (i d : Nat) : ∀ a ∈ opns (ks.take (i + d)), a < i → a ∈ opns (ks.take i) := by
  induction d with
  | zero => intro a h _; exact h
  | succ d ih =>
    intro a h hlt
    rw [← Nat.add_assoc, List.take_add_one] at h
    cases hx : ks[i + d]? with
    | none => rw [hx] at h; exact ih a (by simpa using h) hlt
    | some x =>
      rw [hx] at h
      have hil := (List.getElem?_eq_some_iff.1 hx).1
      by_cases h0 : x = 0
      · subst h0
        have e := (prts_call (ks.take (i + d))).2
        simp only [Option.toList_some] at h
        rw [e] at h
        rcases List.mem_append.1 h with h | h
        · exact ih a h hlt
        · simp [List.length_take] at h; omega
      · by_cases h1 : x = 1
        · subst h1
          simp only [Option.toList_some] at h
          cases hl : (opns (ks.take (i + d))).getLast? with
          | none =>
            rw [(prts_ret_none _ (List.getLast?_eq_none_iff.1 hl)).2] at h
            cases h
          | some b =>
            rw [(prts_ret_some _ b hl).2] at h
            exact ih a (List.dropLast_subset _ h) hlt
        · simp only [Option.toList_some] at h
          rw [(prts_inner _ x h0 h1).2] at h
          exact ih a h hlt

theorem lastI_neg {L : List Nat} : lastI L = -1 ↔ L = [] := by
  unfold lastI
  cases h : L.getLast? with
  | none => simp [List.getLast?_eq_none_iff.1 h]
  | some a =>
    constructor
    · intro e
      have : (a : Int) = -1 := e
      omega
    · intro e; rw [e] at h; cases h

/-- Whether a factor begins at the place j. -/
def isFac (ks : List Nat) (j : Nat) : Bool := decide (parI ks j = -1 ∧ ks[j]? ≠ some 1)
/-- The places below k at which factors begin. -/
def facs (ks : List Nat) (k : Nat) : List Nat := (List.range k).filter (isFac ks)
theorem facs_yes {ks : List Nat} {k : Nat} (h : isFac ks k = true) : facs ks (k + 1) = facs ks k ++ [k] := by simp [facs, List.range_succ, List.filter_append, h]
theorem facs_no {ks : List Nat} {k : Nat} (h : isFac ks k = false) : facs ks (k + 1) = facs ks k := by simp [facs, List.range_succ, List.filter_append, h]
theorem facs_skip {ks : List Nat} {k : Nat} (d : Nat) (h : ∀ j, k ≤ j → j < k + d → isFac ks j = false) : facs ks (k + d) = facs ks k := by
  induction d with
  | zero => rfl
  | succ d ih => rw [← Nat.add_assoc, facs_no (h _ (by omega) (by omega)), ih (fun j h1 h2 => h j h1 (by omega))]

/-- A closed call that nothing lies round: a factor begins there, none begins within, and behind its return nothing is open. -/
theorem fac_call {ks : List Nat} {i m : Nat} (h0 : opns (ks.take i) = []) (hc : ks[i]? = some 0) (hp : (prts ks)[i]? = some (m : Int)) :
    i < m ∧ m < ks.length ∧ isFac ks i = true ∧ facs ks (m + 1) = facs ks i ++ [i] ∧ opns (ks.take (m + 1)) = [] := by
  obtain ⟨h1, h2, h3⟩ := call_pair ks i m hc hp
  have hml := (List.getElem?_eq_some_iff.1 h2).1
  have hf : isFac ks i = true := by
    rw [isFac, decide_eq_true_eq]
    refine ⟨?_, by rw [hc]; simp⟩
    rw [parI, lastI_neg, rnd, hc]
    simpa using h0
  refine ⟨h1, hml, hf, ?_, ?_⟩
  · have e : facs ks (i + 1 + (m - i)) = facs ks (i + 1) := facs_skip _ fun j hj1 hj2 => by
      rw [isFac, decide_eq_false_iff_not]
      rintro ⟨ha, hb⟩
      by_cases hjm : j = m
      · subst hjm; exact hb h2
      · rw [parI, lastI_neg] at ha
        have hov : over ks (prts ks) j i := ⟨hc, .inr ⟨_, hp, by omega⟩⟩
        rw [over_iff ks j i (by omega) (by omega), ha] at hov
        cases hov
    rw [show i + 1 + (m - i) = m + 1 from by omega] at e
    rw [e, facs_yes hf]
  · rw [List.take_add_one, h2, Option.toList_some, (prts_ret_some _ i h3).2]
    obtain ⟨L', hL⟩ := List.getLast?_eq_some_iff.1 h3
    have hu := opns_up (ks.take m)
    rw [hL, List.pairwise_append] at hu
    rw [hL, List.dropLast_concat]
    cases hL' : L' with
    | nil => rfl
    | cons a L =>
      have ha : a ∈ L' := by rw [hL']; simp
      have hlt := hu.2.2 a ha i (by simp)
      have hm : a ∈ opns (ks.take (i + (m - i))) := by rw [show i + (m - i) = m from by omega, hL]; simp [ha]
      have := opns_back ks i (m - i) a hm hlt
      rw [h0] at this
      cases this
theorem fac_in {ks : List Nat} {i x : Nat} (h0 : opns (ks.take i) = []) (hc : ks[i]? = some x) (hx0 : x ≠ 0) (hx1 : x ≠ 1) :
    isFac ks i = true ∧ facs ks (i + 1) = facs ks i ++ [i] ∧ opns (ks.take (i + 1)) = [] := by
  have hf : isFac ks i = true := by
    rw [isFac, decide_eq_true_eq]
    refine ⟨?_, by rw [hc]; intro e; exact hx1 (Option.some.inj e)⟩
    rw [parI, lastI_neg, rnd, hc, if_neg (fun e => hx1 (Option.some.inj e))]
    exact h0
  exact ⟨hf, facs_yes hf, by rw [List.take_add_one, hc, Option.toList_some, (prts_inner _ x hx0 hx1).2, h0]⟩
end Go.Proofs.Ytnclhgaikglbgaa
/- Plain mathematics of matching by heights: a call and a return match just if what stands between lies above them. -/
namespace Go.Proofs.Ytnclhgaikglbgaa
set_option linter.unusedVariables false

/-- By how much a symbol's kind lifts. -/
def upK (k : Nat) : Int := if k = 0 then 1 else if k = 1 then -1 else 0
/-- The height behind the first j places; it may be negative. -/
def hgt (ks : List Nat) : Nat → Int
  | 0 => 0
  | j + 1 => hgt ks j + (match ks[j]? with | some x => upK x | none => 0)
theorem hgt_succ {ks : List Nat} {j x : Nat} (h : ks[j]? = some x) : hgt ks (j + 1) = hgt ks j + upK x := by rw [hgt, h]
theorem hgt_pre {ks : List Nat} {m : Nat} : ∀ j, j ≤ m → hgt (ks.take m) j = hgt ks j
  | 0, _ => rfl
  | j + 1, h => by rw [hgt, hgt, hgt_pre j (by omega), List.getElem?_take_of_lt (by omega)]
theorem hgt_snoc {ks : List Nat} {x : Nat} {j : Nat} (h : j ≤ ks.length) : hgt (ks ++ [x]) j = hgt ks j := by
  have := hgt_pre (ks := ks ++ [x]) (m := ks.length) j h
  rw [List.take_left] at this
  exact this.symm
theorem hgt_end {ks : List Nat} {x : Nat} : hgt (ks ++ [x]) (ks.length + 1) = hgt ks ks.length + upK x := by
  rw [hgt_succ (x := x) (by simp), hgt_snoc (Nat.le_refl _)]

/-- What is open, by heights. -/
theorem open_hgt (ks : List Nat) : (∀ i a : Nat, (opns ks)[i]? = some a → a < ks.length ∧ hgt ks a + ((opns ks).length - i : Nat) = hgt ks ks.length ∧ ∀ k, a < k → k ≤ ks.length → hgt ks a < hgt ks k) ∧
    (∀ k, k ≤ ks.length → hgt ks ks.length - (opns ks).length ≤ hgt ks k) := by
  refine snoc_ind (p := fun ks => (∀ i a : Nat, (opns ks)[i]? = some a → a < ks.length ∧ hgt ks a + ((opns ks).length - i : Nat) = hgt ks ks.length ∧ ∀ k, a < k → k ≤ ks.length → hgt ks a < hgt ks k) ∧
    (∀ k, k ≤ ks.length → hgt ks ks.length - (opns ks).length ≤ hgt ks k)) ?_ (fun l x ih => ?_) ks
  · refine ⟨fun i a h => ?_, fun k hk => ?_⟩
    · simp [opns, pst] at h
    · obtain rfl : k = 0 := by simpa using hk
      simp [opns, pst, hgt]
  · obtain ⟨h1, h2⟩ := ih
    have hn : (l ++ [x]).length = l.length + 1 := by simp
    rw [hn]
    have hend : hgt (l ++ [x]) (l.length + 1) = hgt l l.length + upK x := hgt_end
    have hold : ∀ j, j ≤ l.length → hgt (l ++ [x]) j = hgt l j := fun j hj => hgt_snoc hj
    -- at each place but the last one nothing has changed
    have split : ∀ (P : Nat → Prop), (∀ k, k ≤ l.length → P k) → P (l.length + 1) → ∀ k, k ≤ l.length + 1 → P k := fun P a b k hk => by
      by_cases e : k = l.length + 1
      · rw [e]; exact b
      · exact a k (by omega)
    by_cases hx0 : x = 0
    · subst hx0
      have hu : upK 0 = 1 := rfl
      rw [hu] at hend
      rw [(prts_call l).2]
      refine ⟨fun i a h => ?_, ?_⟩
      · by_cases hi : i < (opns l).length
        · rw [List.getElem?_append_left hi] at h
          obtain ⟨ha, e1, e2⟩ := h1 i a h
          refine ⟨by omega, ?_, fun k hk1 hk2 => ?_⟩
          · rw [hold a (by omega), hend, List.length_append, List.length_singleton]; omega
          · rw [hold a (by omega)]
            by_cases e : k = l.length + 1
            · rw [e, hend]; have := e2 l.length (by omega) (Nat.le_refl _); omega
            · rw [hold k (by omega)]; exact e2 k hk1 (by omega)
        · have hie : i = (opns l).length := by
            have := (List.getElem?_eq_some_iff.1 h).1
            simp at this; omega
          subst hie
          simp at h
          subst h
          refine ⟨by omega, ?_, fun k hk1 hk2 => ?_⟩
          · rw [hold _ (Nat.le_refl _), hend, List.length_append, List.length_singleton]; omega
          · obtain rfl : k = l.length + 1 := by omega
            rw [hold _ (Nat.le_refl _), hend]; omega
      · refine split _ (fun k hk => ?_) ?_
        · rw [hold k hk, hend, List.length_append, List.length_singleton]
          have := h2 k hk
          omega
        · rw [hend, List.length_append, List.length_singleton]; omega
    · by_cases hx1 : x = 1
      · subst hx1
        have hu : upK 1 = -1 := rfl
        rw [hu] at hend
        cases hl : (opns l).getLast? with
        | none =>
          have he := List.getLast?_eq_none_iff.1 hl
          rw [(prts_ret_none l he).2]
          refine ⟨fun i a h => by simp at h, ?_⟩
          rw [he] at h2
          refine split _ (fun k hk => ?_) ?_
          · rw [hold k hk, hend]
            have := h2 k hk
            simp only [List.length_nil] at this ⊢
            omega
          · rw [hend]; simp
        | some b =>
          rw [(prts_ret_some l b hl).2]
          obtain ⟨L', hL⟩ := List.getLast?_eq_some_iff.1 hl
          rw [hL, List.dropLast_concat]
          rw [hL] at h1 h2
          have hlast := h1 L'.length b (by simp)
          refine ⟨fun i a h => ?_, ?_⟩
          · have hi := (List.getElem?_eq_some_iff.1 h).1
            obtain ⟨ha, e1, e2⟩ := h1 i a (by rw [List.getElem?_append_left hi]; exact h)
            rw [List.length_append, List.length_singleton] at e1
            refine ⟨by omega, ?_, fun k hk1 hk2 => ?_⟩
            · rw [hold a (by omega), hend]; omega
            · rw [hold a (by omega)]
              by_cases e : k = l.length + 1
              · rw [e, hend]; omega
              · rw [hold k (by omega)]; exact e2 k hk1 (by omega)
          · rw [List.length_append, List.length_singleton] at h2
            refine split _ (fun k hk => ?_) ?_
            · rw [hold k hk, hend]; have := h2 k hk; omega
            · rw [hend]; omega
      · have hu : upK x = 0 := by unfold upK; rw [if_neg hx0, if_neg hx1]
        rw [hu] at hend
        rw [(prts_inner l x hx0 hx1).2]
        refine ⟨fun i a h => ?_, ?_⟩
        · obtain ⟨ha, e1, e2⟩ := h1 i a h
          refine ⟨by omega, ?_, fun k hk1 hk2 => ?_⟩
          · rw [hold a (by omega), hend]; omega
          · rw [hold a (by omega)]
            by_cases e : k = l.length + 1
            · rw [e, hend]; have := e2 l.length (by omega) (Nat.le_refl _); omega
            · rw [hold k (by omega)]; exact e2 k hk1 (by omega)
        · refine split _ (fun k hk => ?_) ?_
          · rw [hold k hk, hend]; have := h2 k hk; omega
          · rw [hend]; omega

/-- The call at a and the return at b match. -/
structure HM (ks : List Nat) (a b : Nat) : Prop where
  lt : a < b
  call : ks[a]? = some 0
  ret : ks[b]? = some 1
  flat : hgt ks (b + 1) = hgt ks a
  above : ∀ k, a < k → k ≤ b → hgt ks a < hgt ks k
theorem HM.inner {ks : List Nat} {a b : Nat} (h : HM ks a b) : hgt ks (a + 1) = hgt ks a + 1 ∧ hgt ks b = hgt ks a + 1 := by
  have h1 := hgt_succ h.call
  have h2 := hgt_succ h.ret
  have h3 := h.flat
  have u0 : upK 0 = 1 := rfl
  have u1 : upK 1 = -1 := rfl
  rw [u0] at h1
  rw [u1] at h2
  exact ⟨h1, by omega⟩
theorem HM.one_ret {ks : List Nat} {a b b' : Nat} (h : HM ks a b) (h' : HM ks a b') : b = b' := by
  by_cases e : b < b'
  · have := h'.above (b + 1) (by have := h.lt; omega) (by omega); have := h.flat; omega
  · by_cases e2 : b' < b
    · have := h.above (b' + 1) (by have := h'.lt; omega) (by omega); have := h'.flat; omega
    · omega
theorem HM.one_call {ks : List Nat} {a a' b : Nat} (h : HM ks a b) (h' : HM ks a' b) : a = a' := by
  by_cases e : a < a'
  · have := h.above a' e (by have := h'.lt; omega); have := h.flat; have := h'.flat; omega
  · by_cases e2 : a' < a
    · have := h'.above a e2 (by have := h.lt; omega); have := h.flat; have := h'.flat; omega
    · omega
/-- The last one that is open matches the return behind it. -/
theorem HM.of_last {ks : List Nat} {m a : Nat} (hm : ks[m]? = some 1) (hl : (opns (ks.take m)).getLast? = some a) : HM ks a m := by
  have hml := (List.getElem?_eq_some_iff.1 hm).1
  have hlen : (ks.take m).length = m := by simp; omega
  obtain ⟨L', hL⟩ := List.getLast?_eq_some_iff.1 hl
  obtain ⟨ha, e1, e2⟩ := (open_hgt (ks.take m)).1 L'.length a (by rw [hL]; simp)
  rw [hlen] at ha e1 e2
  rw [hL, List.length_append, List.length_singleton, show L'.length + 1 - L'.length = 1 by omega, hgt_pre a (by omega), hgt_pre m (Nat.le_refl _)] at e1
  have hc := opns_call (ks.take m) a (by rw [hL]; simp)
  rw [List.getElem?_take_of_lt ha] at hc
  have h2 := hgt_succ hm
  have u1 : upK 1 = -1 := rfl
  rw [u1] at h2
  refine ⟨ha, hc, hm, by omega, fun k hk1 hk2 => ?_⟩
  have := e2 k hk1 hk2
  rw [hgt_pre a (by omega), hgt_pre k hk2] at this
  exact this
theorem HM.of_call {ks : List Nat} {a m : Nat} (h0 : ks[a]? = some 0) (h : (prts ks)[a]? = some (m : Int)) : HM ks a m := by
  obtain ⟨h1, h2, h3⟩ := call_pair ks a m h0 h
  exact HM.of_last h2 h3
theorem HM.of_ret {ks : List Nat} {b a : Nat} (h1 : ks[b]? = some 1) (h : (prts ks)[b]? = some (a : Int)) : HM ks a b := by
  rw [prts_at_ret ks b h1] at h
  cases hl : (opns (ks.take b)).getLast? with
  | none =>
    rw [hl] at h
    have e : (-2 : Int) = (a : Int) := Option.some.inj h
    omega
  | some c =>
    rw [hl] at h
    obtain rfl : c = a := by
      have e : (c : Int) = (a : Int) := Option.some.inj h
      omega
    exact HM.of_last h1 hl
theorem HM.at_call {ks : List Nat} {a b : Nat} (h : HM ks a b) : (prts ks)[a]? = some (b : Int) := by
  rcases call_is ks a h.call with ⟨h1, _⟩ | ⟨_, m, _, _, h4⟩
  · obtain ⟨i, hi⟩ := List.getElem?_of_mem h1
    obtain ⟨_, _, e2⟩ := (open_hgt ks).1 i a hi
    have hbl := (List.getElem?_eq_some_iff.1 h.ret).1
    have := e2 (b + 1) (by have := h.lt; omega) (by omega)
    have := h.flat
    omega
  · rw [h4, (HM.of_call h.call h4).one_ret h]
theorem HM.at_ret {ks : List Nat} {a b : Nat} (h : HM ks a b) : (prts ks)[b]? = some (a : Int) := by
  rw [prts_at_ret ks b h.ret]
  cases hl : (opns (ks.take b)).getLast? with
  | some c => rw [(HM.of_last h.ret hl).one_call h]
  | none =>
    have he := List.getLast?_eq_none_iff.1 hl
    have hbl := (List.getElem?_eq_some_iff.1 h.ret).1
    have hlen : (ks.take b).length = b := by simp; omega
    have hc : (ks.take b)[a]? = some 0 := by rw [List.getElem?_take_of_lt h.lt]; exact h.call
    rcases call_is (ks.take b) a hc with ⟨h1, _⟩ | ⟨_, m, h2, h3, h4⟩
    · rw [he] at h1; cases h1
    · have hm := HM.of_call hc h4
      have e := hm.flat
      rw [hlen] at h3
      rw [hgt_pre (m + 1) (by omega), hgt_pre a (by have := h.lt; omega)] at e
      have := h.above (m + 1) (by omega) (by omega)
      omega
/-- What stands at a place of the list of partners. -/
theorem prts_cases (ks : List Nat) {i x : Nat} (h : ks[i]? = some x) :
    (x = 0 ∧ ((∃ b, HM ks i b) ∨ (prts ks)[i]? = some (-2) ∧ ∀ b, ¬ HM ks i b)) ∨ (x = 1 ∧ ((∃ a, HM ks a i) ∨ (prts ks)[i]? = some (-2) ∧ ∀ a, ¬ HM ks a i)) ∨ (x ≠ 0 ∧ x ≠ 1 ∧ (prts ks)[i]? = some (-1)) := by
  by_cases h0 : x = 0
  · subst h0
    refine .inl ⟨rfl, ?_⟩
    rcases call_is ks i h with ⟨_, h2⟩ | ⟨_, m, _, _, h4⟩
    · exact .inr ⟨h2, fun b hb => by have := hb.at_call; rw [h2] at this; have := Option.some.inj this; omega⟩
    · exact .inl ⟨m, HM.of_call h h4⟩
  · by_cases h1 : x = 1
    · subst h1
      refine .inr (.inl ⟨rfl, ?_⟩)
      cases hl : (opns (ks.take i)).getLast? with
      | some c => exact .inl ⟨c, HM.of_last h hl⟩
      | none =>
        have hp : (prts ks)[i]? = some (-2) := by rw [prts_at_ret ks i h, hl]
        exact .inr ⟨hp, fun a ha => by have := ha.at_ret; rw [hp] at this; have := Option.some.inj this; omega⟩
    · exact .inr (.inr ⟨h0, h1, prts_at_inner ks i x h h0 h1⟩)

/-- The body of a call that is closed is matched. -/
theorem body_none {ks : List Nat} {a b : Nat} (h : HM ks a b) : ∀ k : Nat, (prts ((ks.take b).drop (a + 1)))[k]? ≠ some (-2) := by
  intro k hk
  obtain ⟨sub, hsub⟩ : ∃ s, s = (ks.take b).drop (a + 1) := ⟨_, rfl⟩
  rw [← hsub] at hk
  have hbl := (List.getElem?_eq_some_iff.1 h.ret).1
  have hab := h.lt
  have hlen : sub.length = b - (a + 1) := by rw [hsub]; simp; omega
  have hkl : k < sub.length := by have := (List.getElem?_eq_some_iff.1 hk).1; rw [prts_len] at this; exact this
  have hat : ∀ j, j < sub.length → sub[j]? = ks[a + 1 + j]? := fun j hj => by
    rw [hsub, List.getElem?_drop, List.getElem?_take_of_lt (by omega)]
  have hh : ∀ j, j ≤ sub.length → hgt sub j = hgt ks (a + 1 + j) - hgt ks (a + 1) := by
    intro j hj
    induction j with
    | zero => simp [hgt]
    | succ j ih =>
      have e1 : hgt sub (j + 1) = hgt sub j + (match ks[a + 1 + j]? with | some x => upK x | none => 0) := by rw [hgt, hat j (by omega)]
      have e2 : hgt ks (a + 1 + j + 1) = hgt ks (a + 1 + j) + (match ks[a + 1 + j]? with | some x => upK x | none => 0) := by rw [hgt]
      rw [show a + 1 + (j + 1) = a + 1 + j + 1 by omega, e1, e2, ih (by omega)]
      omega
  obtain ⟨i1, i2⟩ := h.inner
  obtain ⟨x, hx⟩ : ∃ x, sub[k]? = some x := ⟨_, List.getElem?_eq_getElem hkl⟩
  by_cases h0 : x = 0
  · subst h0
    rcases call_is sub k hx with ⟨h1, _⟩ | ⟨_, m, _, _, h4⟩
    · obtain ⟨i, hi⟩ := List.getElem?_of_mem h1
      obtain ⟨_, _, e2⟩ := (open_hgt sub).1 i k hi
      have e3 := e2 sub.length hkl (Nat.le_refl _)
      rw [hh k (by omega), hh sub.length (Nat.le_refl _), hlen, show a + 1 + (b - (a + 1)) = b by omega] at e3
      have := h.above (a + 1 + k) (by omega) (by omega)
      omega
    · rw [hk] at h4; have := Option.some.inj h4; omega
  · by_cases h1 : x = 1
    · subst h1
      rw [prts_at_ret sub k hx] at hk
      cases hl : (opns (sub.take k)).getLast? with
      | some c =>
        rw [hl] at hk
        have e : (c : Int) = -2 := Option.some.inj hk
        omega
      | none =>
        have he := List.getLast?_eq_none_iff.1 hl
        have hl2 : (sub.take k).length = k := by simp; omega
        have e2 := (open_hgt (sub.take k)).2 0 (Nat.zero_le _)
        rw [he, hl2, hgt_pre k (Nat.le_refl _), hgt_pre 0 (Nat.zero_le _), hh k (by omega), hh 0 (Nat.zero_le _)] at e2
        simp only [List.length_nil] at e2
        have e3 := hgt_succ hx
        rw [hh (k + 1) (by omega), hh k (by omega)] at e3
        have u1 : upK 1 = -1 := rfl
        rw [u1] at e3
        have := h.above (a + 1 + (k + 1)) (by omega) (by omega)
        simp at e2
        omega
    · rw [prts_at_inner sub k x hx h0 h1] at hk
      have := Option.some.inj hk
      omega

/-- Turned: the kinds of the turned word. -/
def turnK (k : Nat) : Nat := if k = 0 then 1 else if k = 1 then 0 else k
def turnKs (ks : List Nat) : List Nat := (ks.map turnK).reverse
theorem turnKs_len (ks : List Nat) : (turnKs ks).length = ks.length := by simp [turnKs]
theorem turnKs_at {ks : List Nat} {i x : Nat} (h : ks[i]? = some x) : (turnKs ks)[ks.length - 1 - i]? = some (turnK x) := by
  have hi := (List.getElem?_eq_some_iff.1 h).1
  unfold turnKs
  rw [List.getElem?_reverse (by simp; omega), List.length_map, show ks.length - 1 - (ks.length - 1 - i) = i by omega, List.getElem?_map, h]; rfl
theorem turn_hgt (ks : List Nat) : ∀ j, j ≤ ks.length → hgt (turnKs ks) j = hgt ks (ks.length - j) - hgt ks ks.length
  | 0, _ => by simp [hgt]
  | j + 1, hj => by
    obtain ⟨x, hx⟩ : ∃ x, ks[ks.length - 1 - j]? = some x := ⟨_, List.getElem?_eq_getElem (by omega)⟩
    have h1 := turnKs_at hx
    rw [show ks.length - 1 - (ks.length - 1 - j) = j by omega] at h1
    rw [hgt_succ h1, turn_hgt ks j (by omega)]
    have h2 := hgt_succ hx
    rw [show ks.length - 1 - j + 1 = ks.length - j by omega] at h2
    rw [h2, show ks.length - (j + 1) = ks.length - 1 - j by omega]
    have : upK (turnK x) = - upK x := by
      unfold turnK upK
      by_cases h0 : x = 0
      · subst h0; rfl
      · by_cases h1 : x = 1
        · subst h1; rfl
        · simp [h0, h1]
    omega
theorem HM.turn {ks : List Nat} {a b : Nat} (h : HM ks a b) : HM (turnKs ks) (ks.length - 1 - b) (ks.length - 1 - a) := by
  have hbl := (List.getElem?_eq_some_iff.1 h.ret).1
  have hab := h.lt
  refine ⟨by omega, turnKs_at h.ret, turnKs_at h.call, ?_, fun k hk1 hk2 => ?_⟩
  · rw [turn_hgt ks _ (by omega), turn_hgt ks _ (by omega), show ks.length - (ks.length - 1 - a + 1) = a by omega, show ks.length - (ks.length - 1 - b) = b + 1 by omega, h.flat]
  · rw [turn_hgt ks _ (by omega), turn_hgt ks k (by omega), show ks.length - (ks.length - 1 - b) = b + 1 by omega, h.flat]
    have := h.above (ks.length - k) (by omega) (by omega)
    omega
theorem turnK_turnK (x : Nat) : turnK (turnK x) = x := by
  unfold turnK
  by_cases h0 : x = 0
  · subst h0; rfl
  · by_cases h1 : x = 1
    · subst h1; rfl
    · simp [h0, h1]
theorem turnKs_turnKs (ks : List Nat) : turnKs (turnKs ks) = ks := by
  unfold turnKs
  rw [List.map_reverse, List.reverse_reverse, List.map_map]
  rw [show turnK ∘ turnK = id from funext turnK_turnK, List.map_id]
theorem HM.of_turn {ks : List Nat} {a b : Nat} (h : HM (turnKs ks) a b) (hb : b < ks.length) : HM ks (ks.length - 1 - b) (ks.length - 1 - a) := by
  have := h.turn
  rwa [turnKs_turnKs, turnKs_len] at this
/-- The partners of the turned word. -/
theorem turn_prts (ks : List Nat) {i : Nat} {p : Int} (h : (prts ks)[i]? = some p) : (prts (turnKs ks))[ks.length - 1 - i]? = some (if 0 ≤ p then (ks.length : Int) - 1 - p else p) := by
  have hi : i < ks.length := by have := (List.getElem?_eq_some_iff.1 h).1; rw [prts_len] at this; exact this
  obtain ⟨x, hx⟩ : ∃ x, ks[i]? = some x := ⟨_, List.getElem?_eq_getElem hi⟩
  have ht := turnKs_at hx
  rcases prts_cases ks hx with ⟨rfl, h1⟩ | ⟨rfl, h1⟩ | ⟨h0, h1, h2⟩
  · rcases h1 with ⟨b, hb⟩ | ⟨h2, h3⟩
    · have e := hb.at_call
      rw [h] at e
      obtain rfl := Option.some.inj e
      have hbl := (List.getElem?_eq_some_iff.1 hb.ret).1
      rw [if_pos (by omega), hb.turn.at_ret]
      congr 1; omega
    · rw [h] at h2
      obtain rfl := Option.some.inj h2
      rw [if_neg (by omega)]
      rcases prts_cases (turnKs ks) ht with ⟨e, _⟩ | ⟨_, h4⟩ | ⟨_, e, _⟩
      · exact absurd e (by decide)
      · rcases h4 with ⟨a, ha⟩ | ⟨h5, _⟩
        · have := ha.of_turn (by omega)
          rw [show ks.length - 1 - (ks.length - 1 - i) = i by omega] at this
          exact absurd this (h3 _)
        · exact h5
      · exact absurd rfl e
  · rcases h1 with ⟨a, ha⟩ | ⟨h2, h3⟩
    · have e := ha.at_ret
      rw [h] at e
      obtain rfl := Option.some.inj e
      have hab := ha.lt
      rw [if_pos (by omega), ha.turn.at_call]
      congr 1; omega
    · rw [h] at h2
      obtain rfl := Option.some.inj h2
      rw [if_neg (by omega)]
      rcases prts_cases (turnKs ks) ht with ⟨_, h4⟩ | ⟨e, _⟩ | ⟨e, _, _⟩
      · rcases h4 with ⟨b, hb⟩ | ⟨h5, _⟩
        · have hbl := (List.getElem?_eq_some_iff.1 hb.ret).1
          rw [turnKs_len] at hbl
          have := hb.of_turn hbl
          rw [show ks.length - 1 - (ks.length - 1 - i) = i by omega] at this
          exact absurd this (h3 _)
        · exact h5
      · exact absurd e (by decide)
      · exact absurd rfl e
  · rw [h] at h2
    obtain rfl := Option.some.inj h2
    rw [if_neg (by omega)]
    have e : turnK x = x := by unfold turnK; rw [if_neg h0, if_neg h1]
    rw [e] at ht
    exact prts_at_inner _ _ x ht h0 h1
end Go.Proofs.Ytnclhgaikglbgaa
