import Derived.Test.YtblgjedjljfmcaaGreatDoorMFnExactUndoTreeEdit6
/- Plain mathematics of parents: the last open call before a place. -/
namespace Go.Proofs.YtblgjedjljfmcaaGreatDoor

/-- What is open round the place i: a return closes its call first. -/
def rnd (ks : List Nat) (i : Nat) : List Nat := if ks[i]? = some 1 then (opns (ks.take i)).dropLast else opns (ks.take i)
def lastI (L : List Nat) : Int := match L.getLast? with | some a => (a : Int) | none => -1
/-- The parent of the place i. -/
def parI (ks : List Nat) (i : Nat) : Int := lastI (rnd ks i)
def parL (ks : List Nat) (n : Nat) : List Int := (List.range n).map (parI ks)

theorem parL_len (ks : List Nat) (n : Nat) : (parL ks n).length = n := by simp [parL]
theorem parL_succ (ks : List Nat) (n : Nat) : parL ks (n + 1) = parL ks n ++ [parI ks n] := by simp [parL, List.range_succ]
theorem parL_at (ks : List Nat) (n k : Nat) (h : k < n) : (parL ks n)[k]? = some (parI ks k) := by simp [parL, h]

theorem opns_up (ks : List Nat) : (opns ks).Pairwise (· < ·) := by
  refine snoc_ind (p := fun ks => (opns ks).Pairwise (· < ·)) ?_ (fun l k ih => ?_) ks
  · simp [opns, pst]
  · by_cases h0 : k = 0
    · subst h0
      rw [(prts_call l).2, List.pairwise_append]
      exact ⟨ih, by simp, fun a ha b hb => by simp at hb; subst hb; exact opns_lt l a ha⟩
    · by_cases h1 : k = 1
      · subst h1
        cases hl : (opns l).getLast? with
        | none => rw [(prts_ret_none l (List.getLast?_eq_none_iff.1 hl)).2]; simp
        | some b => rw [(prts_ret_some l b hl).2]; exact ih.sublist (List.dropLast_sublist _)
      · rw [(prts_inner l k h0 h1).2]; exact ih

/-- An open call is the last one, or stays open. -/
theorem drop_mem {L : List Nat} {b k : Nat} (hu : L.Pairwise (· < ·)) (hb : L.getLast? = some b) : k ∈ L.dropLast ↔ k ∈ L ∧ k ≠ b := by
  obtain ⟨L', hL⟩ : ∃ L', L = L' ++ [b] := List.getLast?_eq_some_iff.1 hb
  subst hL
  rw [List.pairwise_append] at hu
  simp only [List.dropLast_concat, List.mem_append, List.mem_singleton]
  constructor
  · intro h
    exact ⟨.inl h, fun e => by have := hu.2.2 k h b (by simp); omega⟩
  · rintro ⟨h | h, h2⟩
    · exact h
    · exact absurd h h2

/-- A call of ks: open and pending, or closed before the end. -/
theorem call_is (ks : List Nat) : ∀ k : Nat, ks[k]? = some 0 → (k ∈ opns ks ∧ (prts ks)[k]? = some (-2)) ∨ (k ∉ opns ks ∧ ∃ m : Nat, k < m ∧ m < ks.length ∧ (prts ks)[k]? = some (m : Int)) := by
  refine snoc_ind (p := fun ks => ∀ k : Nat, ks[k]? = some 0 → (k ∈ opns ks ∧ (prts ks)[k]? = some (-2)) ∨ (k ∉ opns ks ∧ ∃ m : Nat, k < m ∧ m < ks.length ∧ (prts ks)[k]? = some (m : Int))) ?_ (fun l x ih => ?_) ks
  · intro k h; simp at h
  · intro k hk
    have hlen := prts_len l
    have hl1 : (l ++ [x]).length = l.length + 1 := by simp
    by_cases hkl : k < l.length
    · rw [List.getElem?_append_left hkl] at hk
      have ih := ih k hk
      have keep : ∀ y, (k ∈ opns l ∧ (prts l ++ [y])[k]? = some (-2)) ∨ (k ∉ opns l ∧ ∃ m : Nat, k < m ∧ m < (l ++ [x]).length ∧ (prts l ++ [y])[k]? = some (m : Int)) := by
        intro y
        rw [List.getElem?_append_left (by omega)]
        rcases ih with h | ⟨h0, m, h1, h2, h3⟩
        · exact .inl h
        · exact .inr ⟨h0, m, h1, by omega, h3⟩
      by_cases h0 : x = 0
      · subst h0
        rw [(prts_call l).1, (prts_call l).2]
        rcases keep (-2) with h | h
        · exact .inl ⟨by simp [h.1], h.2⟩
        · exact .inr ⟨by simp [h.1]; omega, h.2⟩
      · by_cases h1 : x = 1
        · subst h1
          cases hl : (opns l).getLast? with
          | none =>
            have hn := List.getLast?_eq_none_iff.1 hl
            have h := keep (-2)
            rw [hn] at h
            rw [(prts_ret_none l hn).1, (prts_ret_none l hn).2]; exact h
          | some b =>
            have hb := opns_lt l b (List.mem_of_getLast? hl)
            rw [(prts_ret_some l b hl).1, (prts_ret_some l b hl).2, drop_mem (opns_up l) hl, List.getElem?_append_left (by simp; omega)]
            by_cases hne : b = k
            · subst hne
              exact .inr ⟨fun h => h.2 rfl, l.length, hkl, by omega, List.getElem?_set_self (by omega)⟩
            · rw [List.getElem?_set_ne hne]
              rcases ih with h | ⟨h0, m, h1, h2, h3⟩
              · exact .inl ⟨⟨h.1, fun e => hne e.symm⟩, h.2⟩
              · exact .inr ⟨fun h => h0 h.1, m, h1, by omega, h3⟩
        · rw [(prts_inner l x h0 h1).1, (prts_inner l x h0 h1).2]; exact keep _
    · have hie : k = l.length := by
        have := (List.getElem?_eq_some_iff.1 hk).1
        omega
      subst hie
      simp at hk
      subst hk
      rw [(prts_call l).1, (prts_call l).2]
      exact .inl ⟨by simp, by rw [List.getElem?_append_right (by omega), hlen]; simp⟩

/-- Whether the call k lies round the place i. -/
def over (ks : List Nat) (ps : List Int) (i k : Nat) : Prop := ks[k]? = some 0 ∧ (ps[k]? = some (-2) ∨ ∃ q : Int, ps[k]? = some q ∧ (i : Int) < q)

theorem over_iff (ks : List Nat) : ∀ (i k : Nat), i < ks.length → k < i → (over ks (prts ks) i k ↔ k ∈ rnd ks i) := by
  refine snoc_ind (p := fun ks => ∀ (i k : Nat), i < ks.length → k < i → (over ks (prts ks) i k ↔ k ∈ rnd ks i)) ?_ (fun l x ih => ?_) ks
  · intro i k h; simp at h
  · intro i k hi hk
    have hlen := prts_len l
    have hl1 : (l ++ [x]).length = l.length + 1 := by simp
    have hkl : k < l.length := by omega
    by_cases hil : i < l.length
    · have e1 : rnd (l ++ [x]) i = rnd l i := by
        rw [rnd, rnd, List.getElem?_append_left hil, List.take_append_of_le_length (by omega)]
      rw [e1, ← ih i k hil hk, over, over, List.getElem?_append_left hkl]
      refine and_congr_right fun hc => ?_
      have same : ∀ y, (prts l ++ [y])[k]? = (prts l)[k]? := fun y => List.getElem?_append_left (by omega)
      by_cases h0 : x = 0
      · subst h0; rw [(prts_call l).1, same]
      · by_cases h1 : x = 1
        · subst h1
          cases hl : (opns l).getLast? with
          | none => rw [(prts_ret_none l (List.getLast?_eq_none_iff.1 hl)).1, same]
          | some b =>
            rw [(prts_ret_some l b hl).1, List.getElem?_append_left (by simp; omega)]
            by_cases hne : b = k
            · subst hne
              have hop := List.mem_of_getLast? hl
              rcases call_is l b hc with h | h
              · rw [List.getElem?_set_self (by omega), h.2]
                exact ⟨fun _ => .inl rfl, fun _ => .inr ⟨_, rfl, by omega⟩⟩
              · exact absurd hop h.1
            · rw [List.getElem?_set_ne hne]
        · rw [(prts_inner l x h0 h1).1, same]
    · obtain rfl : i = l.length := by omega
      have e1 : rnd (l ++ [x]) l.length = if x = 1 then (opns l).dropLast else opns l := by simp [rnd]
      have same : ∀ y, (prts l ++ [y])[k]? = (prts l)[k]? := fun y => List.getElem?_append_left (by omega)
      have base : (l[k]? = some 0 ∧ ((prts l)[k]? = some (-2) ∨ ∃ q : Int, (prts l)[k]? = some q ∧ (l.length : Int) < q)) ↔ k ∈ opns l := by
        constructor
        · rintro ⟨hc, h⟩
          rcases call_is l k hc with h1 | ⟨h1, m, h2, h3, h4⟩
          · exact h1.1
          · rw [h4] at h
            rcases h with h | ⟨q, h, h5⟩
            · exact absurd (Option.some.inj h) (by omega)
            · have := Option.some.inj h; omega
        · intro h
          have hc := opns_call l k h
          rcases call_is l k hc with h1 | h1
          · exact ⟨hc, .inl h1.2⟩
          · exact absurd h h1.1
      rw [e1, over, List.getElem?_append_left hkl]
      by_cases h0 : x = 0
      · subst h0; rw [(prts_call l).1, same]; exact base
      · by_cases h1 : x = 1
        · subst h1
          rw [if_pos rfl]
          cases hl : (opns l).getLast? with
          | none =>
            have hn := List.getLast?_eq_none_iff.1 hl
            rw [(prts_ret_none l hn).1, same, base, hn]; simp
          | some b =>
            rw [(prts_ret_some l b hl).1, List.getElem?_append_left (by simp; omega), drop_mem (opns_up l) hl]
            by_cases hne : b = k
            · subst hne
              rw [List.getElem?_set_self (by omega)]
              constructor
              · rintro ⟨_, h | ⟨q, h, h5⟩⟩
                · exact absurd (Option.some.inj h) (by omega)
                · have := Option.some.inj h; omega
              · rintro ⟨_, h⟩; exact absurd rfl h
            · rw [List.getElem?_set_ne hne, base]
              exact ⟨fun h => ⟨h, fun e => hne e.symm⟩, fun h => h.1⟩
        · rw [if_neg h1, (prts_inner l x h0 h1).1, same]; exact base

theorem rnd_up (ks : List Nat) (i : Nat) : (rnd ks i).Pairwise (· < ·) := by
  unfold rnd
  split
  · exact (opns_up _).sublist (List.dropLast_sublist _)
  · exact opns_up _
theorem rnd_lt (ks : List Nat) (i : Nat) : ∀ a ∈ rnd ks i, a < i := by
  intro a h
  have : a ∈ opns (ks.take i) := by
    unfold rnd at h
    split at h
    · exact List.dropLast_subset _ h
    · exact h
  have := opns_lt _ a this
  rw [List.length_take] at this
  omega

/-- The last one below k that is there. -/
def parK (c : Nat → Prop) [DecidablePred c] : Nat → Int
  | 0 => -1
  | k + 1 => if c k then (k : Int) else parK c k
theorem parK_last (c : Nat → Prop) [DecidablePred c] (n : Nat) : ∀ (L : List Nat), L.Pairwise (· < ·) → (∀ a ∈ L, a < n) → (∀ k, k < n → (c k ↔ k ∈ L)) → parK c n = lastI L := by
  induction n with
  | zero =>
    intro L _ hlt _
    cases L with
    | nil => rfl
    | cons a L => exact absurd (hlt a (by simp)) (by omega)
  | succ n ih =>
    intro L hu hlt hc
    rw [parK]
    by_cases h : c n
    · rw [if_pos h]
      have hm := (hc n (by omega)).1 h
      have hL : L.getLast? = some n := by
        cases hl : L.getLast? with
        | none => rw [List.getLast?_eq_none_iff.1 hl] at hm; cases hm
        | some b =>
          obtain ⟨L', hL⟩ := List.getLast?_eq_some_iff.1 hl
          subst hL
          rw [List.pairwise_append] at hu
          rcases List.mem_append.1 hm with h1 | h1
          · have := hu.2.2 n h1 b (by simp)
            have := hlt b (by simp)
            omega
          · simp at h1; rw [h1]
      rw [lastI, hL]
    · rw [if_neg h]
      refine ih L hu (fun a ha => ?_) (fun k hk => hc k (by omega))
      have := hlt a ha
      have : a ≠ n := fun e => h ((hc n (by omega)).2 (e ▸ ha))
      omega

noncomputable instance (ks : List Nat) (ps : List Int) (i : Nat) : DecidablePred (over ks ps i) := fun _ => Classical.propDecidable _
theorem parK_over (ks : List Nat) (i : Nat) (hi : i < ks.length) : parK (over ks (prts ks) i) i = parI ks i :=
  parK_last _ i _ (rnd_up ks i) (rnd_lt ks i) fun k hk => over_iff ks i k hi hk

/-- A return's own partner. -/
theorem prts_at_ret (ks : List Nat) : ∀ i : Nat, ks[i]? = some 1 → (prts ks)[i]? = some (match (opns (ks.take i)).getLast? with | some a => (a : Int) | none => -2) := by
  refine snoc_ind (p := fun ks => ∀ i : Nat, ks[i]? = some 1 → (prts ks)[i]? = some (match (opns (ks.take i)).getLast? with | some a => (a : Int) | none => -2)) ?_ (fun l x ih => ?_) ks
  · intro i h; simp at h
  · intro i hi
    have hlen := prts_len l
    have hl1 : (l ++ [x]).length = l.length + 1 := by simp
    by_cases hil : i < l.length
    · rw [List.getElem?_append_left hil] at hi
      rw [List.take_append_of_le_length (by omega), ← ih i hi]
      have same : ∀ y, (prts l ++ [y])[i]? = (prts l)[i]? := fun y => List.getElem?_append_left (by omega)
      by_cases h0 : x = 0
      · subst h0; rw [(prts_call l).1, same]
      · by_cases h1 : x = 1
        · subst h1
          cases hl : (opns l).getLast? with
          | none => rw [(prts_ret_none l (List.getLast?_eq_none_iff.1 hl)).1, same]
          | some b =>
            have hb := opns_call l b (List.mem_of_getLast? hl)
            have hne : b ≠ i := fun e => by subst e; rw [hb] at hi; cases hi
            rw [(prts_ret_some l b hl).1, List.getElem?_append_left (by simp; omega), List.getElem?_set_ne hne]
        · rw [(prts_inner l x h0 h1).1, same]
    · have hie : i = l.length := by
        have := (List.getElem?_eq_some_iff.1 hi).1
        omega
      subst hie
      simp at hi
      subst hi
      rw [List.take_left]
      cases hl : (opns l).getLast? with
      | none => rw [(prts_ret_none l (List.getLast?_eq_none_iff.1 hl)).1, List.getElem?_append_right (by omega), hlen]; simp
      | some b => rw [(prts_ret_some l b hl).1, List.getElem?_append_right (by simp; omega)]; simp [hlen]
end Go.Proofs.YtblgjedjljfmcaaGreatDoor
/- Plain mathematics of factors: where the factors of a matched word begin and end. -/
namespace Go.Proofs.YtblgjedjljfmcaaGreatDoor

/-- A call that is closed, and its return. -/
theorem call_pair (ks : List Nat) : ∀ k m : Nat, ks[k]? = some 0 → (prts ks)[k]? = some (m : Int) → k < m ∧ ks[m]? = some 1 ∧ (opns (ks.take m)).getLast? = some k := by
  refine snoc_ind (p := fun ks => ∀ k m : Nat, ks[k]? = some 0 → (prts ks)[k]? = some (m : Int) → k < m ∧ ks[m]? = some 1 ∧ (opns (ks.take m)).getLast? = some k) ?_ (fun l x ih => ?_) ks
  · intro k m h; simp at h
  · intro k m hk hm
    have hlen := prts_len l
    by_cases hkl : k < l.length
    · rw [List.getElem?_append_left hkl] at hk
      have keep : ∀ y, (prts l ++ [y])[k]? = some (m : Int) → k < m ∧ (l ++ [x])[m]? = some 1 ∧ (opns ((l ++ [x]).take m)).getLast? = some k := by
        intro y hy
        rw [List.getElem?_append_left (by omega)] at hy
        obtain ⟨h1, h2, h3⟩ := ih k m hk hy
        have hml := (List.getElem?_eq_some_iff.1 h2).1
        exact ⟨h1, by rw [List.getElem?_append_left hml]; exact h2, by rw [List.take_append_of_le_length (by omega)]; exact h3⟩
      by_cases h0 : x = 0
      · subst h0; rw [(prts_call l).1] at hm; exact keep _ hm
      · by_cases h1 : x = 1
        · subst h1
          cases hl : (opns l).getLast? with
          | none => rw [(prts_ret_none l (List.getLast?_eq_none_iff.1 hl)).1] at hm; exact keep _ hm
          | some b =>
            rw [(prts_ret_some l b hl).1, List.getElem?_append_left (by simp; omega)] at hm
            by_cases hne : b = k
            · subst hne
              rw [List.getElem?_set_self (by omega)] at hm
              have hme : l.length = m := by have := Option.some.inj hm; omega
              subst hme
              exact ⟨hkl, by simp, by rw [List.take_left]; exact hl⟩
            · rw [List.getElem?_set_ne hne] at hm
              exact keep 0 (by rw [List.getElem?_append_left (by omega)]; exact hm)
        · rw [(prts_inner l x h0 h1).1] at hm; exact keep _ hm
    · have hie : k = l.length := by
        have := (List.getElem?_eq_some_iff.1 hk).1
        simp at this
        omega
      subst hie
      simp at hk
      subst hk
      rw [(prts_call l).1, List.getElem?_append_right (by omega), hlen] at hm
      simp at hm

/-- What is open at a place lay open at each earlier place behind its call. -/
theorem opns_back (ks : List Nat) (i d : Nat) : ∀ a ∈ opns (ks.take (i + d)), a < i → a ∈ opns (ks.take i) := by
  induction d with
  | zero => intro a h _; exact h
  | succ d ih =>
    intro a h hlt
    rw [← Nat.add_assoc, List.take_add_one] at h
    cases hx : ks[i + d]? with
    | none => rw [hx] at h; exact ih a (by simpa using h) hlt
    | some x =>
      rw [hx] at h
      have hil := (List.getElem?_eq_some_iff.1 hx).1
      by_cases h0 : x = 0
      · subst h0
        have e := (prts_call (ks.take (i + d))).2
        simp only [Option.toList_some] at h
        rw [e] at h
        rcases List.mem_append.1 h with h | h
        · exact ih a h hlt
        · simp [List.length_take] at h; omega
      · by_cases h1 : x = 1
        · subst h1
          simp only [Option.toList_some] at h
          cases hl : (opns (ks.take (i + d))).getLast? with
          | none =>
            rw [(prts_ret_none _ (List.getLast?_eq_none_iff.1 hl)).2] at h
            cases h
          | some b =>
            rw [(prts_ret_some _ b hl).2] at h
            exact ih a (List.dropLast_subset _ h) hlt
        · simp only [Option.toList_some] at h
          rw [(prts_inner _ x h0 h1).2] at h
          exact ih a h hlt

theorem lastI_neg {L : List Nat} : lastI L = -1 ↔ L = [] := by
  unfold lastI
  cases h : L.getLast? with
  | none => simp [List.getLast?_eq_none_iff.1 h]
  | some a =>
    constructor
    · intro e
      have : (a : Int) = -1 := e
      omega
    · intro e; rw [e] at h; cases h

/-- Whether a factor begins at the place j. -/
def isFac (ks : List Nat) (j : Nat) : Bool := decide (parI ks j = -1 ∧ ks[j]? ≠ some 1)
/-- The places below k at which factors begin. -/
def facs (ks : List Nat) (k : Nat) : List Nat := (List.range k).filter (isFac ks)
theorem facs_yes {ks : List Nat} {k : Nat} (h : isFac ks k = true) : facs ks (k + 1) = facs ks k ++ [k] := by simp [facs, List.range_succ, List.filter_append, h]
theorem facs_no {ks : List Nat} {k : Nat} (h : isFac ks k = false) : facs ks (k + 1) = facs ks k := by simp [facs, List.range_succ, List.filter_append, h]
theorem facs_skip {ks : List Nat} {k : Nat} (d : Nat) (h : ∀ j, k ≤ j → j < k + d → isFac ks j = false) : facs ks (k + d) = facs ks k := by
  induction d with
  | zero => rfl
  | succ d ih => rw [← Nat.add_assoc, facs_no (h _ (by omega) (by omega)), ih (fun j h1 h2 => h j h1 (by omega))]

/-- A closed call that nothing lies round: a factor begins there, none begins within, and behind its return nothing is open. -/
theorem fac_call {ks : List Nat} {i m : Nat} (h0 : opns (ks.take i) = []) (hc : ks[i]? = some 0) (hp : (prts ks)[i]? = some (m : Int)) :
    i < m ∧ m < ks.length ∧ isFac ks i = true ∧ facs ks (m + 1) = facs ks i ++ [i] ∧ opns (ks.take (m + 1)) = [] := by
  obtain ⟨h1, h2, h3⟩ := call_pair ks i m hc hp
  have hml := (List.getElem?_eq_some_iff.1 h2).1
  have hf : isFac ks i = true := by
    rw [isFac, decide_eq_true_eq]
    refine ⟨?_, by rw [hc]; simp⟩
    rw [parI, lastI_neg, rnd, hc]
    simpa using h0
  refine ⟨h1, hml, hf, ?_, ?_⟩
  · have e : facs ks (i + 1 + (m - i)) = facs ks (i + 1) := facs_skip _ fun j hj1 hj2 => by
      rw [isFac, decide_eq_false_iff_not]
      rintro ⟨ha, hb⟩
      by_cases hjm : j = m
      · subst hjm; exact hb h2
      · rw [parI, lastI_neg] at ha
        have hov : over ks (prts ks) j i := ⟨hc, .inr ⟨_, hp, by omega⟩⟩
        rw [over_iff ks j i (by omega) (by omega), ha] at hov
        cases hov
    rw [show i + 1 + (m - i) = m + 1 from by omega] at e
    rw [e, facs_yes hf]
  · rw [List.take_add_one, h2, Option.toList_some, (prts_ret_some _ i h3).2]
    obtain ⟨L', hL⟩ := List.getLast?_eq_some_iff.1 h3
    have hu := opns_up (ks.take m)
    rw [hL, List.pairwise_append] at hu
    rw [hL, List.dropLast_concat]
    cases hL' : L' with
    | nil => rfl
    | cons a L =>
      have ha : a ∈ L' := by rw [hL']; simp
      have hlt := hu.2.2 a ha i (by simp)
      have hm : a ∈ opns (ks.take (i + (m - i))) := by rw [show i + (m - i) = m from by omega, hL]; simp [ha]
      have := opns_back ks i (m - i) a hm hlt
      rw [h0] at this
      cases this
theorem fac_in {ks : List Nat} {i x : Nat} (h0 : opns (ks.take i) = []) (hc : ks[i]? = some x) (hx0 : x ≠ 0) (hx1 : x ≠ 1) :
    isFac ks i = true ∧ facs ks (i + 1) = facs ks i ++ [i] ∧ opns (ks.take (i + 1)) = [] := by
  have hf : isFac ks i = true := by
    rw [isFac, decide_eq_true_eq]
    refine ⟨?_, by rw [hc]; intro e; exact hx1 (Option.some.inj e)⟩
    rw [parI, lastI_neg, rnd, hc, if_neg (fun e => hx1 (Option.some.inj e))]
    exact h0
  exact ⟨hf, facs_yes hf, by rw [List.take_add_one, hc, Option.toList_some, (prts_inner _ x hx0 hx1).2, h0]⟩
end Go.Proofs.YtblgjedjljfmcaaGreatDoor
