/- Plain mathematics of matching by heights: a call and a return match just if what stands between lies above them. -/
import Derived.Test.YtnclhgaikglbgaaPending
import Derived.Test.YtnclhgaikglbgaaTree
import Derived.Test.YtnclhgaikglbgaaFact
namespace Go.Proofs.Ytnclhgaikglbgaa
set_option linter.unusedVariables false

/-- By how much a symbol's kind lifts. -/
def upK (k : Nat) : Int := if k = 0 then 1 else if k = 1 then -1 else 0
/-- The height behind the first j places; it may be negative. -/
def hgt (ks : List Nat) : Nat → Int
  | 0 => 0
  | j + 1 => hgt ks j + (match ks[j]? with | some x => upK x | none => 0)
theorem hgt_succ {ks : List Nat} {j x : Nat} (h : ks[j]? = some x) : hgt ks (j + 1) = hgt ks j + upK x := by rw [hgt, h]
theorem hgt_pre {ks : List Nat} {m : Nat} : ∀ j, j ≤ m → hgt (ks.take m) j = hgt ks j
  | 0, _ => rfl
  | j + 1, h => by rw [hgt, hgt, hgt_pre j (by omega), List.getElem?_take_of_lt (by omega)]
theorem hgt_snoc {ks : List Nat} {x : Nat} {j : Nat} (h : j ≤ ks.length) : hgt (ks ++ [x]) j = hgt ks j := by
  have := hgt_pre (ks := ks ++ [x]) (m := ks.length) j h
  rw [List.take_left] at this
  exact this.symm
theorem hgt_end {ks : List Nat} {x : Nat} : hgt (ks ++ [x]) (ks.length + 1) = hgt ks ks.length + upK x := by
  rw [hgt_succ (x := x) (by simp), hgt_snoc (Nat.le_refl _)]

/-- What is open, by heights. -/
theorem open_hgt (ks : List Nat) : (∀ i a : Nat, (opns ks)[i]? = some a → a < ks.length ∧ hgt ks a + ((opns ks).length - i : Nat) = hgt ks ks.length ∧ ∀ k, a < k → k ≤ ks.length → hgt ks a < hgt ks k) ∧
    (∀ k, k ≤ ks.length → hgt ks ks.length - (opns ks).length ≤ hgt ks k) := by
  refine snoc_ind (p := fun ks => (∀ i a : Nat, (opns ks)[i]? = some a → a < ks.length ∧ hgt ks a + ((opns ks).length - i : Nat) = hgt ks ks.length ∧ ∀ k, a < k → k ≤ ks.length → hgt ks a < hgt ks k) ∧
    (∀ k, k ≤ ks.length → hgt ks ks.length - (opns ks).length ≤ hgt ks k)) ?_ (fun l x ih => ?_) ks
  · refine ⟨fun i a h => ?_, fun k hk => ?_⟩
    · simp [opns, pst] at h
    · obtain rfl : k = 0 := by simpa using hk
      simp [opns, pst, hgt]
  · obtain ⟨h1, h2⟩ := ih
    have hn : (l ++ [x]).length = l.length + 1 := by simp
    rw [hn]
    have hend : hgt (l ++ [x]) (l.length + 1) = hgt l l.length + upK x := hgt_end
    have hold : ∀ j, j ≤ l.length → hgt (l ++ [x]) j = hgt l j := fun j hj => hgt_snoc hj
    -- at each place but the last one nothing has changed
    have split : ∀ (P : Nat → Prop), (∀ k, k ≤ l.length → P k) → P (l.length + 1) → ∀ k, k ≤ l.length + 1 → P k := fun P a b k hk => by
      by_cases e : k = l.length + 1
      · rw [e]; exact b
      · exact a k (by omega)
    by_cases hx0 : x = 0
    · subst hx0
      have hu : upK 0 = 1 := rfl
      rw [hu] at hend
      rw [(prts_call l).2]
      refine ⟨fun i a h => ?_, ?_⟩
      · by_cases hi : i < (opns l).length
        · rw [List.getElem?_append_left hi] at h
          obtain ⟨ha, e1, e2⟩ := h1 i a h
          refine ⟨by omega, ?_, fun k hk1 hk2 => ?_⟩
          · rw [hold a (by omega), hend, List.length_append, List.length_singleton]; omega
          · rw [hold a (by omega)]
            by_cases e : k = l.length + 1
            · rw [e, hend]; have := e2 l.length (by omega) (Nat.le_refl _); omega
            · rw [hold k (by omega)]; exact e2 k hk1 (by omega)
        · have hie : i = (opns l).length := by
            have := (List.getElem?_eq_some_iff.1 h).1
            simp at this; omega
          subst hie
          simp at h
          subst h
          refine ⟨by omega, ?_, fun k hk1 hk2 => ?_⟩
          · rw [hold _ (Nat.le_refl _), hend, List.length_append, List.length_singleton]; omega
          · obtain rfl : k = l.length + 1 := by omega
            rw [hold _ (Nat.le_refl _), hend]; omega
      · refine split _ (fun k hk => ?_) ?_
        · rw [hold k hk, hend, List.length_append, List.length_singleton]
          have := h2 k hk
          omega
        · rw [hend, List.length_append, List.length_singleton]; omega
    · by_cases hx1 : x = 1
      · subst hx1
        have hu : upK 1 = -1 := rfl
        rw [hu] at hend
        cases hl : (opns l).getLast? with
        | none =>
          have he := List.getLast?_eq_none_iff.1 hl
          rw [(prts_ret_none l he).2]
          refine ⟨fun i a h => by simp at h, ?_⟩
          rw [he] at h2
          refine split _ (fun k hk => ?_) ?_
          · rw [hold k hk, hend]
            have := h2 k hk
            simp only [List.length_nil] at this ⊢
            omega
          · rw [hend]; simp
        | some b =>
          rw [(prts_ret_some l b hl).2]
          obtain ⟨L', hL⟩ := List.getLast?_eq_some_iff.1 hl
          rw [hL, List.dropLast_concat]
          rw [hL] at h1 h2
          have hlast := h1 L'.length b (by simp)
          refine ⟨fun i a h => ?_, ?_⟩
          · have hi := (List.getElem?_eq_some_iff.1 h).1
            obtain ⟨ha, e1, e2⟩ := h1 i a (by rw [List.getElem?_append_left hi]; exact h)
            rw [List.length_append, List.length_singleton] at e1
            refine ⟨by omega, ?_, fun k hk1 hk2 => ?_⟩
            · rw [hold a (by omega), hend]; omega
            · rw [hold a (by omega)]
              by_cases e : k = l.length + 1
              · rw [e, hend]; omega
              · rw [hold k (by omega)]; exact e2 k hk1 (by omega)
          · rw [List.length_append, List.length_singleton] at h2
            refine split _ (fun k hk => ?_) ?_
            · rw [hold k hk, hend]; have := h2 k hk; omega
            · rw [hend]; omega
      · have hu : upK x = 0 := by unfold upK; rw [if_neg hx0, if_neg hx1]
        rw [hu] at hend
        rw [(prts_inner l x hx0 hx1).2]
        refine ⟨fun i a h => ?_, ?_⟩
        · obtain ⟨ha, e1, e2⟩ := h1 i a h
          refine ⟨by omega, ?_, fun k hk1 hk2 => ?_⟩
          · rw [hold a (by omega), hend]; omega
          · rw [hold a (by omega)]
            by_cases e : k = l.length + 1
            · rw [e, hend]; have := e2 l.length (by omega) (Nat.le_refl _); omega
            · rw [hold k (by omega)]; exact e2 k hk1 (by omega)
        · refine split _ (fun k hk => ?_) ?_
          · rw [hold k hk, hend]; have := h2 k hk; omega
          · rw [hend]; omega

/-- The call at a and the return at b match. -/
structure HM (ks : List Nat) (a b : Nat) : Prop where
  lt : a < b
  call : ks[a]? = some 0
  ret : ks[b]? = some 1
  flat : hgt ks (b + 1) = hgt ks a
  above : ∀ k, a < k → k ≤ b → hgt ks a < hgt ks k
theorem HM.inner {ks : List Nat} {a b : Nat} (h : HM ks a b) : hgt ks (a + 1) = hgt ks a + 1 ∧ hgt ks b = hgt ks a + 1 := by
  have h1 := hgt_succ h.call
  have h2 := hgt_succ h.ret
  have h3 := h.flat
  have u0 : upK 0 = 1 := rfl
  have u1 : upK 1 = -1 := rfl
  rw [u0] at h1
  rw [u1] at h2
  exact ⟨h1, by omega⟩
theorem HM.one_ret {ks : List Nat} {a b b' : Nat} (h : HM ks a b) (h' : HM ks a b') : b = b' := by
  by_cases e : b < b'
  · have := h'.above (b + 1) (by have := h.lt; omega) (by omega); have := h.flat; omega
  · by_cases e2 : b' < b
    · have := h.above (b' + 1) (by have := h'.lt; omega) (by omega); have := h'.flat; omega
    · omega
theorem HM.one_call {ks : List Nat} {a a' b : Nat} (h : HM ks a b) (h' : HM ks a' b) : a = a' := by
  by_cases e : a < a'
  · have := h.above a' e (by have := h'.lt; omega); have := h.flat; have := h'.flat; omega
  · by_cases e2 : a' < a
    · have := h'.above a e2 (by have := h.lt; omega); have := h.flat; have := h'.flat; omega
    · omega
/-- The last one that is open matches the return behind it. -/
theorem HM.of_last {ks : List Nat} {m a : Nat} (hm : ks[m]? = some 1) (hl : (opns (ks.take m)).getLast? = some a) : HM ks a m := by
  have hml := (List.getElem?_eq_some_iff.1 hm).1
  have hlen : (ks.take m).length = m := by simp; omega
  obtain ⟨L', hL⟩ := List.getLast?_eq_some_iff.1 hl
  obtain ⟨ha, e1, e2⟩ := (open_hgt (ks.take m)).1 L'.length a (by rw [hL]; simp)
  rw [hlen] at ha e1 e2
  rw [hL, List.length_append, List.length_singleton, show L'.length + 1 - L'.length = 1 by omega, hgt_pre a (by omega), hgt_pre m (Nat.le_refl _)] at e1
  have hc := opns_call (ks.take m) a (by rw [hL]; simp)
  rw [List.getElem?_take_of_lt ha] at hc
  have h2 := hgt_succ hm
  have u1 : upK 1 = -1 := rfl
  rw [u1] at h2
  refine ⟨ha, hc, hm, by omega, fun k hk1 hk2 => ?_⟩
  have := e2 k hk1 hk2
  rw [hgt_pre a (by omega), hgt_pre k hk2] at this
  exact this
theorem HM.of_call {ks : List Nat} {a m : Nat} (h0 : ks[a]? = some 0) (h : (prts ks)[a]? = some (m : Int)) : HM ks a m := by
  obtain ⟨h1, h2, h3⟩ := call_pair ks a m h0 h
  exact HM.of_last h2 h3
theorem HM.of_ret {ks : List Nat} {b a : Nat} (h1 : ks[b]? = some 1) (h : (prts ks)[b]? = some (a : Int)) : HM ks a b := by
  rw [prts_at_ret ks b h1] at h
  cases hl : (opns (ks.take b)).getLast? with
  | none =>
    rw [hl] at h
    have e : (-2 : Int) = (a : Int) := Option.some.inj h
    omega
  | some c =>
    rw [hl] at h
    obtain rfl : c = a := by
      have e : (c : Int) = (a : Int) := Option.some.inj h
      omega
    exact HM.of_last h1 hl
theorem HM.at_call {ks : List Nat} {a b : Nat} (h : HM ks a b) : (prts ks)[a]? = some (b : Int) := by
  rcases call_is ks a h.call with ⟨h1, _⟩ | ⟨_, m, _, _, h4⟩
  · obtain ⟨i, hi⟩ := List.getElem?_of_mem h1
    obtain ⟨_, _, e2⟩ := (open_hgt ks).1 i a hi
    have hbl := (List.getElem?_eq_some_iff.1 h.ret).1
    have := e2 (b + 1) (by have := h.lt; omega) (by omega)
    have := h.flat
    omega
  · rw [h4, (HM.of_call h.call h4).one_ret h]
theorem HM.at_ret {ks : List Nat} {a b : Nat} (h : HM ks a b) : (prts ks)[b]? = some (a : Int) := by
  rw [prts_at_ret ks b h.ret]
  cases hl : (opns (ks.take b)).getLast? with
  | some c => rw [(HM.of_last h.ret hl).one_call h]
  | none =>
    have he := List.getLast?_eq_none_iff.1 hl
    have hbl := (List.getElem?_eq_some_iff.1 h.ret).1
    have hlen : (ks.take b).length = b := by simp; omega
    have hc : (ks.take b)[a]? = some 0 := by rw [List.getElem?_take_of_lt h.lt]; exact h.call
    rcases call_is (ks.take b) a hc with ⟨h1, _⟩ | ⟨_, m, h2, h3, h4⟩
    · rw [he] at h1; cases h1
    · have hm := HM.of_call hc h4
      have e := hm.flat
      rw [hlen] at h3
      rw [hgt_pre (m + 1) (by omega), hgt_pre a (by have := h.lt; omega)] at e
      have := h.above (m + 1) (by omega) (by omega)
      omega
/-- What stands at a place of the list of partners. -/
theorem prts_cases (ks : List Nat) {i x : Nat} (h : ks[i]? = some x) :
    (x = 0 ∧ ((∃ b, HM ks i b) ∨ (prts ks)[i]? = some (-2) ∧ ∀ b, ¬ HM ks i b)) ∨ (x = 1 ∧ ((∃ a, HM ks a i) ∨ (prts ks)[i]? = some (-2) ∧ ∀ a, ¬ HM ks a i)) ∨ (x ≠ 0 ∧ x ≠ 1 ∧ (prts ks)[i]? = some (-1)) := by
  by_cases h0 : x = 0
  · subst h0
    refine .inl ⟨rfl, ?_⟩
    rcases call_is ks i h with ⟨_, h2⟩ | ⟨_, m, _, _, h4⟩
    · exact .inr ⟨h2, fun b hb => by have := hb.at_call; rw [h2] at this; have := Option.some.inj this; omega⟩
    · exact .inl ⟨m, HM.of_call h h4⟩
  · by_cases h1 : x = 1
    · subst h1
      refine .inr (.inl ⟨rfl, ?_⟩)
      cases hl : (opns (ks.take i)).getLast? with
      | some c => exact .inl ⟨c, HM.of_last h hl⟩
      | none =>
        have hp : (prts ks)[i]? = some (-2) := by rw [prts_at_ret ks i h, hl]
        exact .inr ⟨hp, fun a ha => by have := ha.at_ret; rw [hp] at this; have := Option.some.inj this; omega⟩
    · exact .inr (.inr ⟨h0, h1, prts_at_inner ks i x h h0 h1⟩)

/-- The body of a call that is closed is matched. -/
theorem body_none {ks : List Nat} {a b : Nat} (h : HM ks a b) : ∀ k : Nat, (prts ((ks.take b).drop (a + 1)))[k]? ≠ some (-2) := by
  intro k hk
  obtain ⟨sub, hsub⟩ : ∃ s, s = (ks.take b).drop (a + 1) := ⟨_, rfl⟩
  rw [← hsub] at hk
  have hbl := (List.getElem?_eq_some_iff.1 h.ret).1
  have hab := h.lt
  have hlen : sub.length = b - (a + 1) := by rw [hsub]; simp; omega
  have hkl : k < sub.length := by have := (List.getElem?_eq_some_iff.1 hk).1; rw [prts_len] at this; exact this
  have hat : ∀ j, j < sub.length → sub[j]? = ks[a + 1 + j]? := fun j hj => by
    rw [hsub, List.getElem?_drop, List.getElem?_take_of_lt (by omega)]
  have hh : ∀ j, j ≤ sub.length → hgt sub j = hgt ks (a + 1 + j) - hgt ks (a + 1) := by
    intro j hj
    induction j with
    | zero => simp [hgt]
    | succ j ih =>
      have e1 : hgt sub (j + 1) = hgt sub j + (match ks[a + 1 + j]? with | some x => upK x | none => 0) := by rw [hgt, hat j (by omega)]
      have e2 : hgt ks (a + 1 + j + 1) = hgt ks (a + 1 + j) + (match ks[a + 1 + j]? with | some x => upK x | none => 0) := by rw [hgt]
      rw [show a + 1 + (j + 1) = a + 1 + j + 1 by omega, e1, e2, ih (by omega)]
      omega
  obtain ⟨i1, i2⟩ := h.inner
  obtain ⟨x, hx⟩ : ∃ x, sub[k]? = some x := ⟨_, List.getElem?_eq_getElem hkl⟩
  by_cases h0 : x = 0
  · subst h0
    rcases call_is sub k hx with ⟨h1, _⟩ | ⟨_, m, _, _, h4⟩
    · obtain ⟨i, hi⟩ := List.getElem?_of_mem h1
      obtain ⟨_, _, e2⟩ := (open_hgt sub).1 i k hi
      have e3 := e2 sub.length hkl (Nat.le_refl _)
      rw [hh k (by omega), hh sub.length (Nat.le_refl _), hlen, show a + 1 + (b - (a + 1)) = b by omega] at e3
      have := h.above (a + 1 + k) (by omega) (by omega)
      omega
    · rw [hk] at h4; have := Option.some.inj h4; omega
  · by_cases h1 : x = 1
    · subst h1
      rw [prts_at_ret sub k hx] at hk
      cases hl : (opns (sub.take k)).getLast? with
      | some c =>
        rw [hl] at hk
        have e : (c : Int) = -2 := Option.some.inj hk
        omega
      | none =>
        have he := List.getLast?_eq_none_iff.1 hl
        have hl2 : (sub.take k).length = k := by simp; omega
        have e2 := (open_hgt (sub.take k)).2 0 (Nat.zero_le _)
        rw [he, hl2, hgt_pre k (Nat.le_refl _), hgt_pre 0 (Nat.zero_le _), hh k (by omega), hh 0 (Nat.zero_le _)] at e2
        simp only [List.length_nil] at e2
        have e3 := hgt_succ hx
        rw [hh (k + 1) (by omega), hh k (by omega)] at e3
        have u1 : upK 1 = -1 := rfl
        rw [u1] at e3
        have := h.above (a + 1 + (k + 1)) (by omega) (by omega)
        simp at e2
        omega
    · rw [prts_at_inner sub k x hx h0 h1] at hk
      have := Option.some.inj hk
      omega

/-- Turned: the kinds of the turned word. -/
def turnK (k : Nat) : Nat := if k = 0 then 1 else if k = 1 then 0 else k
def turnKs (ks : List Nat) : List Nat := (ks.map turnK).reverse
theorem turnKs_len (ks : List Nat) : (turnKs ks).length = ks.length := by simp [turnKs]
theorem turnKs_at {ks : List Nat} {i x : Nat} (h : ks[i]? = some x) : (turnKs ks)[ks.length - 1 - i]? = some (turnK x) := by
  have hi := (List.getElem?_eq_some_iff.1 h).1
  unfold turnKs
  rw [List.getElem?_reverse (by simp; omega), List.length_map, show ks.length - 1 - (ks.length - 1 - i) = i by omega, List.getElem?_map, h]; rfl
theorem turn_hgt (ks : List Nat) : ∀ j, j ≤ ks.length → hgt (turnKs ks) j = hgt ks (ks.length - j) - hgt ks ks.length
  | 0, _ => by simp [hgt]
  | j + 1, hj => by
    obtain ⟨x, hx⟩ : ∃ x, ks[ks.length - 1 - j]? = some x := ⟨_, List.getElem?_eq_getElem (by omega)⟩
    have h1 := turnKs_at hx
    rw [show ks.length - 1 - (ks.length - 1 - j) = j by omega] at h1
    rw [hgt_succ h1, turn_hgt ks j (by omega)]
    have h2 := hgt_succ hx
    rw [show ks.length - 1 - j + 1 = ks.length - j by omega] at h2
    rw [h2, show ks.length - (j + 1) = ks.length - 1 - j by omega]
    have : upK (turnK x) = - upK x := by
      unfold turnK upK
      by_cases h0 : x = 0
      · subst h0; rfl
      · by_cases h1 : x = 1
        · subst h1; rfl
        · simp [h0, h1]
    omega
theorem HM.turn {ks : List Nat} {a b : Nat} (h : HM ks a b) : HM (turnKs ks) (ks.length - 1 - b) (ks.length - 1 - a) := by
  have hbl := (List.getElem?_eq_some_iff.1 h.ret).1
  have hab := h.lt
  refine ⟨by omega, turnKs_at h.ret, turnKs_at h.call, ?_, fun k hk1 hk2 => ?_⟩
  · rw [turn_hgt ks _ (by omega), turn_hgt ks _ (by omega), show ks.length - (ks.length - 1 - a + 1) = a by omega, show ks.length - (ks.length - 1 - b) = b + 1 by omega, h.flat]
  · rw [turn_hgt ks _ (by omega), turn_hgt ks k (by omega), show ks.length - (ks.length - 1 - b) = b + 1 by omega, h.flat]
    have := h.above (ks.length - k) (by omega) (by omega)
    omega
theorem turnK_turnK (x : Nat) : turnK (turnK x) = x := by
  unfold turnK
  by_cases h0 : x = 0
  · subst h0; rfl
  · by_cases h1 : x = 1
    · subst h1; rfl
    · simp [h0, h1]
theorem turnKs_turnKs (ks : List Nat) : turnKs (turnKs ks) = ks := by
  unfold turnKs
  rw [List.map_reverse, List.reverse_reverse, List.map_map]
  rw [show turnK ∘ turnK = id from funext turnK_turnK, List.map_id]
theorem HM.of_turn {ks : List Nat} {a b : Nat} (h : HM (turnKs ks) a b) (hb : b < ks.length) : HM ks (ks.length - 1 - b) (ks.length - 1 - a) := by
  have := h.turn
  rwa [turnKs_turnKs, turnKs_len] at this
/-- The partners of the turned word. -/
theorem turn_prts (ks : List Nat) {i : Nat} {p : Int} (h : (prts ks)[i]? = some p) : (prts (turnKs ks))[ks.length - 1 - i]? = some (if 0 ≤ p then (ks.length : Int) - 1 - p else p) := by
  have hi : i < ks.length := by have := (List.getElem?_eq_some_iff.1 h).1; rw [prts_len] at this; exact this
  obtain ⟨x, hx⟩ : ∃ x, ks[i]? = some x := ⟨_, List.getElem?_eq_getElem hi⟩
  have ht := turnKs_at hx
  rcases prts_cases ks hx with ⟨rfl, h1⟩ | ⟨rfl, h1⟩ | ⟨h0, h1, h2⟩
  · rcases h1 with ⟨b, hb⟩ | ⟨h2, h3⟩
    · have e := hb.at_call
      rw [h] at e
      obtain rfl := Option.some.inj e
      have hbl := (List.getElem?_eq_some_iff.1 hb.ret).1
      rw [if_pos (by omega), hb.turn.at_ret]
      congr 1; omega
    · rw [h] at h2
      obtain rfl := Option.some.inj h2
      rw [if_neg (by omega)]
      rcases prts_cases (turnKs ks) ht with ⟨e, _⟩ | ⟨_, h4⟩ | ⟨_, e, _⟩
      · exact absurd e (by decide)
      · rcases h4 with ⟨a, ha⟩ | ⟨h5, _⟩
        · have := ha.of_turn (by omega)
          rw [show ks.length - 1 - (ks.length - 1 - i) = i by omega] at this
          exact absurd this (h3 _)
        · exact h5
      · exact absurd rfl e
  · rcases h1 with ⟨a, ha⟩ | ⟨h2, h3⟩
    · have e := ha.at_ret
      rw [h] at e
      obtain rfl := Option.some.inj e
      have hab := ha.lt
      rw [if_pos (by omega), ha.turn.at_call]
      congr 1; omega
    · rw [h] at h2
      obtain rfl := Option.some.inj h2
      rw [if_neg (by omega)]
      rcases prts_cases (turnKs ks) ht with ⟨_, h4⟩ | ⟨e, _⟩ | ⟨e, _, _⟩
      · rcases h4 with ⟨b, hb⟩ | ⟨h5, _⟩
        · have hbl := (List.getElem?_eq_some_iff.1 hb.ret).1
          rw [turnKs_len] at hbl
          have := hb.of_turn hbl
          rw [show ks.length - 1 - (ks.length - 1 - i) = i by omega] at this
          exact absurd this (h3 _)
        · exact h5
      · exact absurd e (by decide)
      · exact absurd rfl e
  · rw [h] at h2
    obtain rfl := Option.some.inj h2
    rw [if_neg (by omega)]
    have e : turnK x = x := by unfold turnK; rw [if_neg h0, if_neg h1]
    rw [e] at ht
    exact prts_at_inner _ _ x ht h0 h1
end Go.Proofs.Ytnclhgaikglbgaa
