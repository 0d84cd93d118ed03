import Derived.Test.YtnclhgaikglbgaaMFnPutAndCut0
import Derived.Test.YtnclhgaikglbgaaMFnPutAndCut2
import Derived.Test.YtnclhgaikglbgaaMFnPutAndCut5
import Derived.Test.YtnclhgaikglbgaaMFnPutAndCut3
import Derived.Test.YtnclhgaikglbgaaMFnPutAndCut4
/- The words that are listed are matched: heights. -/
namespace Go.Proofs.Ytnclhgaikglbgaa
set_option linter.unusedVariables false

/-- A word whose height is never below nought and is nought at its end has no pending place. -/
theorem flat_none {ks : List Nat} (hp : ∀ j, j ≤ ks.length → 0 ≤ hgt ks j) (he : hgt ks ks.length = 0) : ∀ k : Nat, (prts ks)[k]? ≠ some (-2) := by
  intro k hk
  have hkl : k < ks.length := by have := (List.getElem?_eq_some_iff.1 hk).1; rw [prts_len] at this; exact this
  obtain ⟨x, hx⟩ : ∃ x, ks[k]? = some x := ⟨_, List.getElem?_eq_getElem hkl⟩
  by_cases h0 : x = 0
  · subst h0
    rcases call_is ks k hx with ⟨h1, _⟩ | ⟨_, m, _, _, h4⟩
    · obtain ⟨i, hi⟩ := List.getElem?_of_mem h1
      obtain ⟨_, _, e2⟩ := (open_hgt ks).1 i k hi
      have e3 := e2 ks.length hkl (Nat.le_refl _)
      have := hp k (by omega)
      omega
    · rw [hk] at h4; have := Option.some.inj h4; omega
  · by_cases h1 : x = 1
    · subst h1
      rw [prts_at_ret ks k hx] at hk
      cases hl : (opns (ks.take k)).getLast? with
      | some c =>
        rw [hl] at hk
        have e : (c : Int) = -2 := Option.some.inj hk
        omega
      | none =>
        have he := List.getLast?_eq_none_iff.1 hl
        have hl2 : (ks.take k).length = k := by simp; omega
        have e2 := (open_hgt (ks.take k)).2 0 (Nat.zero_le _)
        rw [he, hl2, hgt_pre k (Nat.le_refl _), hgt_pre 0 (Nat.zero_le _)] at e2
        have e4 : hgt ks 0 = 0 := rfl
        simp only [List.length_nil] at e2
        have e3 := hgt_succ hx
        have u1 : upK 1 = -1 := rfl
        rw [u1] at e3
        have := hp (k + 1) (by omega)
        simp at e2
        omega
    · rw [prts_at_inner ks k x hx h0 h1] at hk
      have := Option.some.inj hk
      omega

theorem hgt_cons (x : Nat) (ks : List Nat) : ∀ j, hgt (x :: ks) (j + 1) = upK x + hgt ks j
  | 0 => by simp [hgt]
  | j + 1 => by
    cases h : ks[j]? with
    | none =>
      have e1 : hgt (x :: ks) (j + 1 + 1) = hgt (x :: ks) (j + 1) := by rw [hgt, List.getElem?_cons_succ, h]; exact Int.add_zero _
      have e2 : hgt ks (j + 1) = hgt ks j := by rw [hgt, h]; exact Int.add_zero _
      rw [e1, e2, hgt_cons x ks j]
    | some y =>
      rw [hgt_succ (x := y) (by rw [List.getElem?_cons_succ]; exact h), hgt_succ h, hgt_cons x ks j]
      omega

/-- The kind of a numbered symbol. -/
def kN (x : Nat) : Nat := kindS (x : Int)
theorem dn_up {d x : Nat} (hx : x ≤ 5) (h : x < 2 ∨ 4 ≤ x ∨ 1 ≤ d) : (dn d x : Int) = (d : Int) + upK (kN x) := by
  obtain rfl | rfl | rfl | rfl | rfl | rfl : x = 0 ∨ x = 1 ∨ x = 2 ∨ x = 3 ∨ x = 4 ∨ x = 5 := by omega
  · show ((d + 1 : Nat) : Int) = (d : Int) + 1; omega
  · show ((d + 1 : Nat) : Int) = (d : Int) + 1; omega
  · show ((d - 1 : Nat) : Int) = (d : Int) + -1; omega
  · show ((d - 1 : Nat) : Int) = (d : Int) + -1; omega
  · show ((d : Nat) : Int) = (d : Int) + 0; omega
  · show ((d : Nat) : Int) = (d : Int) + 0; omega
theorem cbs_find {n d k : Nat} : ∀ m, k < cbs n d m → ∃ x, x < m ∧ cbs n d x ≤ k ∧ k - cbs n d x < cb n d x
  | 0, h => by simp [cbs] at h
  | m + 1, h => by
    by_cases h1 : k < cbs n d m
    · obtain ⟨x, hx, h2, h3⟩ := cbs_find m h1
      exact ⟨x, by omega, h2, h3⟩
    · rw [cbs] at h
      exact ⟨m, by omega, by omega, by omega⟩
theorem nth_step {n d k : Nat} (h : k < wy (n + 1) d) : ∃ x k', x ≤ 5 ∧ (x < 2 ∨ 4 ≤ x ∨ 1 ≤ d) ∧ k' < wy n (dn d x) ∧ nth (n + 1) d k = x :: nth n (dn d x) k' := by
  rw [← cbs_six] at h
  obtain ⟨x, hx, h1, h2⟩ := cbs_find 6 h
  obtain ⟨e, hd⟩ := cb_dn h2
  exact ⟨x, k - cbs n d x, by omega, hd, by rw [← e]; exact h2, nth_hits (by omega) h1 h2⟩
theorem nth_flat : ∀ n d k, k < wy n d → (∀ x ∈ nth n d k, x ≤ 5) ∧ (∀ j, j ≤ n → 0 ≤ (d : Int) + hgt ((nth n d k).map kN) j) ∧ (d : Int) + hgt ((nth n d k).map kN) n = 0
  | 0, d, k, h => by
    cases d with
    | zero => exact ⟨by simp [nth], fun j hj => by obtain rfl : j = 0 := by omega
                                                   simp [hgt], by simp [hgt]⟩
    | succ d => rw [wy] at h; omega
  | n + 1, d, k, h => by
    obtain ⟨x, k', hx, hd, hk, e⟩ := nth_step h
    obtain ⟨i1, i2, i3⟩ := nth_flat n (dn d x) k' hk
    have hu := dn_up hx hd
    rw [e, List.map_cons]
    refine ⟨fun y hy => ?_, fun j hj => ?_, ?_⟩
    · rcases List.mem_cons.1 hy with rfl | hy
      · exact hx
      · exact i1 y hy
    · cases j with
      | zero => simp [hgt]
      | succ j => rw [hgt_cons]; have := i2 j (by omega); omega
    · rw [hgt_cons]; omega

theorem textN_list (l : List Nat) : (textN l).data.toList = l.map byN := by simp [textN, byN]
theorem textN_ks {l : List Nat} (h : ∀ x ∈ l, x ≤ 5) : ksOf (textN l).data.toList = l.map kN := by
  rw [textN_list, ksOf, List.map_map]
  apply List.map_congr_left
  intro x hx
  show kindS (symNo ((byN x).toNat : Int)) = kindS (x : Int)
  rw [byN_sym (h x hx)]
/-- A listed word: a word, of that length, matched. -/
theorem listed {n k : Nat} (hn : n ≤ 20) (hk : k < wy n 0) : IsW (textN (nth n 0 k)) ∧ (textN (nth n 0 k)).size = n ∧ (∀ j, j ≤ n → 0 ≤ hgt (ksOf (textN (nth n 0 k)).data.toList) j) ∧
    hgt (ksOf (textN (nth n 0 k)).data.toList) n = 0 ∧ ∀ j : Nat, (prts (ksOf (textN (nth n 0 k)).data.toList))[j]? ≠ some (-2) := by
  obtain ⟨h1, h2, h3⟩ := nth_flat n 0 k hk
  have hsz : (textN (nth n 0 k)).size = n := by rw [textN_size, nth_len]
  have hl : ((nth n 0 k).map kN).length = n := by rw [List.length_map, nth_len]
  rw [textN_ks h1]
  have h2' : ∀ j, j ≤ n → 0 ≤ hgt ((nth n 0 k).map kN) j := fun j hj => by have := h2 j hj; omega
  have h3' : hgt ((nth n 0 k).map kN) n = 0 := by omega
  refine ⟨⟨by omega, fun b hb => ?_⟩, hsz, h2', h3', flat_none (fun j hj => h2' j (by omega)) (by rw [hl]; exact h3')⟩
  rw [textN_list] at hb
  obtain ⟨x, hx, rfl⟩ := List.mem_map.1 hb
  rw [byN_sym (h1 x hx)]
  omega
end Go.Proofs.Ytnclhgaikglbgaa
/- A matched word that is put in: what matches what afterwards, by heights. -/
namespace Go.Proofs.Ytnclhgaikglbgaa
set_option linter.unusedVariables false

theorem hgt_like {xs ys : List Nat} {a b : Nat} : ∀ m, (∀ j, j < m → xs[a + j]? = ys[b + j]?) → hgt xs (a + m) - hgt xs a = hgt ys (b + m) - hgt ys b
  | 0, _ => by simp
  | m + 1, h => by
    have ih := hgt_like m (fun j hj => h j (by omega))
    have hm := h m (by omega)
    rw [← Nat.add_assoc, ← Nat.add_assoc]
    cases e : ys[b + m]? with
    | none =>
      have e1 : hgt xs (a + m + 1) = hgt xs (a + m) := by rw [hgt, hm, e]; exact Int.add_zero _
      have e2 : hgt ys (b + m + 1) = hgt ys (b + m) := by rw [hgt, e]; exact Int.add_zero _
      rw [e1, e2, ih]
    | some y =>
      rw [hgt_succ (x := y) (by rw [hm, e]), hgt_succ e]
      omega

/-- The word with vs put in at i. -/
def putK (ks vs : List Nat) (i : Nat) : List Nat := ks.take i ++ vs ++ ks.drop i
/-- Where a place lies afterwards. -/
def shK (i n k : Nat) : Nat := if k < i then k else k + n

section
variable {ks vs : List Nat} {i : Nat}
theorem putK_lo (hi : i ≤ ks.length) {k : Nat} (h : k < i) : (putK ks vs i)[k]? = ks[k]? := by
  unfold putK
  rw [List.append_assoc, List.getElem?_append_left (by simp; omega), List.getElem?_take_of_lt h]
theorem putK_mid (hi : i ≤ ks.length) {t : Nat} (h : t < vs.length) : (putK ks vs i)[i + t]? = vs[t]? := by
  unfold putK
  rw [List.append_assoc, List.getElem?_append_right (by simp; omega), List.length_take, Nat.min_eq_left hi, show i + t - i = t by omega, List.getElem?_append_left h]
theorem putK_hi (hi : i ≤ ks.length) (t : Nat) : (putK ks vs i)[i + vs.length + t]? = ks[i + t]? := by
  unfold putK
  rw [List.getElem?_append_right (by simp; omega), List.length_append, List.length_take, Nat.min_eq_left hi, show i + vs.length + t - (i + vs.length) = t by omega, List.getElem?_drop]
theorem putK_len (hi : i ≤ ks.length) : (putK ks vs i).length = ks.length + vs.length := by
  unfold putK
  simp
  omega
theorem putK_sh (hi : i ≤ ks.length) (k : Nat) : (putK ks vs i)[shK i vs.length k]? = ks[k]? := by
  unfold shK
  by_cases h : k < i
  · rw [if_pos h, putK_lo hi h]
  · have := putK_hi (vs := vs) hi (k - i)
    rw [if_neg h]
    rwa [show i + vs.length + (k - i) = k + vs.length by omega, show i + (k - i) = k by omega] at this

theorem put_lo (hi : i ≤ ks.length) {j : Nat} (h : j ≤ i) : hgt (putK ks vs i) j = hgt ks j := by
  have := hgt_like (xs := putK ks vs i) (ys := ks) (a := 0) (b := 0) j (fun q hq => by rw [Nat.zero_add]; exact putK_lo hi (by omega))
  simp only [Nat.zero_add] at this
  have e1 : hgt (putK ks vs i) 0 = 0 := rfl
  have e2 : hgt ks 0 = 0 := rfl
  omega
theorem put_mid (hi : i ≤ ks.length) {t : Nat} (h : t ≤ vs.length) : hgt (putK ks vs i) (i + t) = hgt ks i + hgt vs t := by
  have := hgt_like (xs := putK ks vs i) (ys := vs) (a := i) (b := 0) t (fun q hq => by rw [Nat.zero_add]; exact putK_mid hi (by omega))
  simp only [Nat.zero_add] at this
  have e1 := put_lo (vs := vs) hi (Nat.le_refl i)
  have e2 : hgt vs 0 = 0 := rfl
  omega
theorem put_hi (hi : i ≤ ks.length) (hf : hgt vs vs.length = 0) (t : Nat) : hgt (putK ks vs i) (i + vs.length + t) = hgt ks (i + t) := by
  have := hgt_like (xs := putK ks vs i) (ys := ks) (a := i + vs.length) (b := i) t (fun q hq => putK_hi hi q)
  have e1 := put_mid (vs := vs) hi (Nat.le_refl vs.length)
  omega
theorem put_sh (hi : i ≤ ks.length) (hf : hgt vs vs.length = 0) (k : Nat) : hgt (putK ks vs i) (shK i vs.length k) = hgt ks k ∧ hgt (putK ks vs i) (shK i vs.length k + 1) = hgt ks (k + 1) := by
  unfold shK
  by_cases h : k < i
  · rw [if_pos h]; exact ⟨put_lo hi (by omega), put_lo hi (by omega)⟩
  · rw [if_neg h]
    have h1 := put_hi hi hf (k - i)
    have h2 := put_hi hi hf (k + 1 - i)
    rw [show i + vs.length + (k - i) = k + vs.length by omega, show i + (k - i) = k by omega] at h1
    rw [show i + vs.length + (k + 1 - i) = k + vs.length + 1 by omega, show i + (k + 1 - i) = k + 1 by omega] at h2
    exact ⟨h1, h2⟩
theorem sh_cases (i n k : Nat) : (k < i ∧ k = shK i n k) ∨ (i ≤ k ∧ k < i + n) ∨ (i + n ≤ k ∧ k = shK i n (k - n)) := by
  unfold shK
  by_cases h : k < i
  · exact .inl ⟨h, by rw [if_pos h]⟩
  · by_cases h2 : k < i + n
    · exact .inr (.inl ⟨by omega, h2⟩)
    · exact .inr (.inr ⟨by omega, by rw [if_neg (by omega)]; omega⟩)
theorem sh_lt {i n a b : Nat} : shK i n a < shK i n b ↔ a < b := by unfold shK; split <;> split <;> omega

theorem HM.put (hi : i ≤ ks.length) (hv : ∀ j, j ≤ vs.length → 0 ≤ hgt vs j) (hf : hgt vs vs.length = 0) {a b : Nat} (h : HM ks a b) : HM (putK ks vs i) (shK i vs.length a) (shK i vs.length b) := by
  refine ⟨sh_lt.2 h.lt, by rw [putK_sh hi]; exact h.call, by rw [putK_sh hi]; exact h.ret, by rw [(put_sh hi hf b).2, (put_sh hi hf a).1, h.flat], fun k hk1 hk2 => ?_⟩
  rw [(put_sh hi hf a).1]
  rcases sh_cases i vs.length k with ⟨_, e⟩ | ⟨h1, h2⟩ | ⟨_, e⟩
  · rw [e, (put_sh hi hf k).1]
    rw [e] at hk1 hk2
    exact h.above k (sh_lt.1 hk1) (by have : ¬ b < k := fun x => by have := (sh_lt (i := i) (n := vs.length)).2 x; omega
                                      omega)
  · have e1 := put_mid (vs := vs) hi (t := k - i) (by omega)
    rw [show i + (k - i) = k by omega] at e1
    have e2 := hv (k - i) (by omega)
    have hai : a < i := by unfold shK at hk1; split at hk1 <;> omega
    have hib : i ≤ b := by unfold shK at hk2; split at hk2 <;> omega
    have := h.above i hai hib
    omega
  · rw [e, (put_sh hi hf _).1]
    rw [e] at hk1 hk2
    exact h.above _ (sh_lt.1 hk1) (by have : ¬ b < k - vs.length := fun x => by have := (sh_lt (i := i) (n := vs.length)).2 x; omega
                                      omega)
theorem HM.of_put (hi : i ≤ ks.length) (hf : hgt vs vs.length = 0) {a b : Nat} (h : HM (putK ks vs i) (shK i vs.length a) (shK i vs.length b)) : HM ks a b := by
  refine ⟨sh_lt.1 h.lt, by have := h.call; rwa [putK_sh hi] at this, by have := h.ret; rwa [putK_sh hi] at this, by have := h.flat; rwa [(put_sh hi hf b).2, (put_sh hi hf a).1] at this, fun k hk1 hk2 => ?_⟩
  have := h.above (shK i vs.length k) (sh_lt.2 hk1) (by have : ¬ shK i vs.length b < shK i vs.length k := fun x => by have := sh_lt.1 x; omega
                                                        omega)
  rwa [(put_sh hi hf a).1, (put_sh hi hf k).1] at this
/-- What matches a place of the old word is one of its places. -/
theorem put_ret (hi : i ≤ ks.length) (hv : ∀ j, j ≤ vs.length → 0 ≤ hgt vs j) {a c : Nat} (h : HM (putK ks vs i) (shK i vs.length a) c) : ∃ b, c = shK i vs.length b := by
  rcases sh_cases i vs.length c with ⟨_, e⟩ | ⟨h1, h2⟩ | ⟨_, e⟩
  · exact ⟨_, e⟩
  · have hlt := h.lt
    have hai : a < i := by unfold shK at hlt; split at hlt <;> omega
    have hsa : shK i vs.length a = a := by unfold shK; rw [if_pos hai]
    have hab := h.above i (by omega) h1
    have hfl := h.flat
    have e1 := put_mid (vs := vs) hi (t := c - i + 1) (by omega)
    rw [show i + (c - i + 1) = c + 1 by omega] at e1
    have e2 := hv (c - i + 1) (by omega)
    have e3 := put_lo (vs := vs) hi (Nat.le_refl i)
    omega
  · exact ⟨_, e⟩
theorem put_call (hi : i ≤ ks.length) (hv : ∀ j, j ≤ vs.length → 0 ≤ hgt vs j) (hf : hgt vs vs.length = 0) {b c : Nat} (h : HM (putK ks vs i) c (shK i vs.length b)) : ∃ a, c = shK i vs.length a := by
  rcases sh_cases i vs.length c with ⟨_, e⟩ | ⟨h1, h2⟩ | ⟨_, e⟩
  · exact ⟨_, e⟩
  · have hlt := h.lt
    have hbi : i + vs.length ≤ shK i vs.length b := by
      have : ¬ b < i := fun x => by unfold shK at hlt; rw [if_pos x] at hlt; omega
      unfold shK; rw [if_neg this]; omega
    have hab := h.above (i + vs.length) h2 hbi
    have e1 := put_mid (vs := vs) hi (t := c - i) (by omega)
    rw [show i + (c - i) = c by omega] at e1
    have e2 := hv (c - i) (by omega)
    have e3 := put_mid (vs := vs) hi (Nat.le_refl vs.length)
    omega
  · exact ⟨_, e⟩
/-- The partners of the old places afterwards. -/
theorem put_prts (hi : i ≤ ks.length) (hv : ∀ j, j ≤ vs.length → 0 ≤ hgt vs j) (hf : hgt vs vs.length = 0) {k : Nat} {p : Int} (h : (prts ks)[k]? = some p) : (prts (putK ks vs i))[shK i vs.length k]? = some (if (i : Int) ≤ p then p + vs.length else p) := by
  have hk : k < ks.length := by have := (List.getElem?_eq_some_iff.1 h).1; rw [prts_len] at this; exact this
  obtain ⟨x, hx⟩ : ∃ x, ks[k]? = some x := ⟨_, List.getElem?_eq_getElem hk⟩
  have hy : (putK ks vs i)[shK i vs.length k]? = some x := by rw [putK_sh hi]; exact hx
  have hsh : ∀ b : Nat, ((shK i vs.length b : Nat) : Int) = if (i : Int) ≤ (b : Int) then (b : Int) + vs.length else (b : Int) := fun b => by
    unfold shK
    by_cases hb : b < i
    · rw [if_pos hb, if_neg (by omega)]
    · rw [if_neg hb, if_pos (by omega)]; omega
  rcases prts_cases ks hx with ⟨rfl, h1⟩ | ⟨rfl, h1⟩ | ⟨h0, h1, h2⟩
  · rcases h1 with ⟨b, hb⟩ | ⟨h2, h3⟩
    · have e := hb.at_call
      rw [h] at e
      obtain rfl := Option.some.inj e
      rw [(hb.put hi hv hf).at_call, hsh]
    · rw [h] at h2
      obtain rfl := Option.some.inj h2
      rw [if_neg (by omega)]
      rcases prts_cases _ hy with ⟨_, h4⟩ | ⟨e, _⟩ | ⟨e, _, _⟩
      · rcases h4 with ⟨c, hc⟩ | ⟨h5, _⟩
        · obtain ⟨b, rfl⟩ := put_ret hi hv hc
          exact absurd (hc.of_put hi hf) (h3 b)
        · exact h5
      · exact absurd e (by decide)
      · exact absurd rfl e
  · rcases h1 with ⟨a, ha⟩ | ⟨h2, h3⟩
    · have e := ha.at_ret
      rw [h] at e
      obtain rfl := Option.some.inj e
      rw [(ha.put hi hv hf).at_ret, hsh]
    · rw [h] at h2
      obtain rfl := Option.some.inj h2
      rw [if_neg (by omega)]
      rcases prts_cases _ hy with ⟨e, _⟩ | ⟨_, h4⟩ | ⟨_, e, _⟩
      · exact absurd e (by decide)
      · rcases h4 with ⟨c, hc⟩ | ⟨h5, _⟩
        · obtain ⟨a, rfl⟩ := put_call hi hv hf hc
          exact absurd (hc.of_put hi hf) (h3 a)
        · exact h5
      · exact absurd rfl e
  · rw [h] at h2
    obtain rfl := Option.some.inj h2
    rw [if_neg (by omega)]
    rcases prts_cases _ hy with ⟨e, _⟩ | ⟨e, _⟩ | ⟨_, _, h5⟩
    · exact absurd e h0
    · exact absurd e h1
    · exact h5
end

/-- What matches in the word that is put in, matches afterwards. -/
theorem HM.mid {ks vs : List Nat} {i a b : Nat} (hi : i ≤ ks.length) (h : HM vs a b) : HM (putK ks vs i) (i + a) (i + b) := by
  have hbl := (List.getElem?_eq_some_iff.1 h.ret).1
  have hab := h.lt
  refine ⟨by omega, by rw [putK_mid hi (by omega)]; exact h.call, by rw [putK_mid hi hbl]; exact h.ret, ?_, fun k hk1 hk2 => ?_⟩
  · rw [Nat.add_assoc, put_mid hi (by omega), put_mid hi (by omega), h.flat]
  · have := h.above (k - i) (by omega) (by omega)
    have e1 := put_mid (vs := vs) hi (t := k - i) (by omega)
    rw [show i + (k - i) = k by omega] at e1
    rw [e1, put_mid hi (by omega)]
    omega
/-- A call, a matched word, a return: one node. -/
theorem node_hgt {ms : List Nat} (hf : hgt ms ms.length = 0) : (∀ j, j ≤ ms.length → hgt (0 :: (ms ++ [1])) (j + 1) = 1 + hgt ms j) ∧ hgt (0 :: (ms ++ [1])) (ms.length + 2) = 0 := by
  have u0 : upK 0 = 1 := rfl
  have u1 : upK 1 = -1 := rfl
  refine ⟨fun j hj => by rw [hgt_cons, hgt_snoc hj, u0], ?_⟩
  rw [hgt_cons, hgt_end, hf, u0, u1]; rfl
theorem node_flat {ms : List Nat} (hv : ∀ j, j ≤ ms.length → 0 ≤ hgt ms j) (hf : hgt ms ms.length = 0) : (∀ j, j ≤ (0 :: (ms ++ [1])).length → 0 ≤ hgt (0 :: (ms ++ [1])) j) ∧ hgt (0 :: (ms ++ [1])) (0 :: (ms ++ [1])).length = 0 ∧ HM (0 :: (ms ++ [1])) 0 (ms.length + 1) := by
  obtain ⟨h1, h2⟩ := node_hgt hf
  have hl : (0 :: (ms ++ [1])).length = ms.length + 2 := by simp
  rw [hl]
  refine ⟨fun j hj => ?_, h2, ⟨by omega, rfl, by simp, h2, fun k hk1 hk2 => ?_⟩⟩
  · cases j with
    | zero => exact Int.le_refl _
    | succ j =>
      by_cases e : j = ms.length + 1
      · rw [e, h2]; exact Int.le_refl _
      · rw [h1 j (by omega)]; have := hv j (by omega); omega
  · obtain ⟨j, rfl⟩ : ∃ j, k = j + 1 := ⟨k - 1, by omega⟩
    rw [h1 j (by omega)]
    have := hv j (by omega)
    have e0 : hgt (0 :: (ms ++ [1])) 0 = 0 := rfl
    omega
end Go.Proofs.Ytnclhgaikglbgaa
/- CoreOf, of the model and of the program. -/
namespace Go.Proofs.Ytnclhgaikglbgaa
open Go.RowKit Go.Shelf

attribute [local go_sem] Oper.semAt_some

theorem byte_sym {b : UInt8} (h : 0 ≤ symNo (b.toNat : Int)) : byteOf (symNo (b.toNat : Int)) = b := by
  have f (k : UInt8) (e : (b.toNat : Int) = k.toNat) : b = k := UInt8.toNat_inj.1 (by omega)
  by_cases h0 : (b.toNat : Int) = 40
  · rw [f 40 h0]; rfl
  by_cases h1 : (b.toNat : Int) = 91
  · rw [f 91 h1]; rfl
  by_cases h2 : (b.toNat : Int) = 41
  · rw [f 41 h2]; rfl
  by_cases h3 : (b.toNat : Int) = 93
  · rw [f 93 h3]; rfl
  by_cases h4 : (b.toNat : Int) = 97
  · rw [f 97 h4]; rfl
  by_cases h5 : (b.toNat : Int) = 98
  · rw [f 98 h5]; rfl
  unfold symNo at h
  rw [if_neg h0, if_neg h1, if_neg h2, if_neg h3, if_neg h4, if_neg h5] at h
  omega

/-- The bytes of what is pending among the first k places. -/
def coreL (l : List UInt8) (ps : List Int) (k : Nat) : List UInt8 := (pend (symL l) ps k).map fun x => byteOf x.1.2
theorem coreL_yes {l : List UInt8} {ps : List Int} {k : Nat} {b : UInt8} (hp : ps[k]? = some (-2)) (hb : l[k]? = some b) (hs : 0 ≤ symNo (b.toNat : Int)) : coreL l ps (k + 1) = coreL l ps k ++ [b] := by
  have hsy : (symL l)[k]?.getD 0 = symNo (b.toNat : Int) := by simp [symL, hb]
  rw [coreL, pend_yes hp (by rw [hsy]; exact ⟨hs, symNo_le _⟩), List.map_append]
  simp [coreL, hsy, byte_sym hs]
theorem coreL_no {l : List UInt8} {ps : List Int} {k : Nat} (hp : ps[k]? ≠ some (-2)) : coreL l ps (k + 1) = coreL l ps k := by rw [coreL, pend_no hp]; rfl
theorem coreL_len (l : List UInt8) (ps : List Int) (k : Nat) : (coreL l ps k).length ≤ k := by rw [coreL, List.length_map]; exact pend_len _ _ _

theorem cut_one (s : ByteArray) (k : Nat) (h : k < s.size) : (s.extract k (k + 1)).data.toList = [s[k]] := by
  have h1 : (s.extract k (k + 1)).data.toList = (s.data.toList.drop k).take 1 := by simp [List.extract_eq_take_drop, ByteArray.data_extract]
  rw [h1, List.drop_eq_getElem_cons (by simpa using h)]
  rfl

theorem impl_CoreOf_no (s : ByteArray) (w : World) (hs : s.size ≤ 1048576) (h : ¬ IsW s) :
    Calls Try.prog 16 #[.string s] w (TupPost (.tuple #[.string ⟨#[]⟩, .int .i64 1]) w) := by
  have H := Lib.hid h
  clear h
  go_enter Try.func16, Try.ntmps16
  go_wp2_with (go_at_call 31; refine (impl_read_no _ _ hs H.out).mono ?_; rintro e w1 ⟨rfl, hb⟩)
  go_ret2
  exact ⟨rfl, hb.alloc hb.size _⟩

set_option maxRecDepth 100000 in
set_option maxHeartbeats 2000000 in
theorem impl_CoreOf_yes (s : ByteArray) (w : World) (h : IsW s) :
    Calls Try.prog 16 #[.string s] w (TupPost (.tuple #[.string ⟨(coreL s.data.toList (prts (ksOf s.data.toList)) s.size).toArray⟩, .int .i64 0]) w) := by
  have hp := fun w => impl_read_yes s w h.1 h.2
  have h60 := h.1
  have hall := h.2
  obtain ⟨l, hl⟩ : ∃ l, l = s.data.toList := ⟨_, rfl⟩
  have hlen : l.length = s.size := by rw [hl]; simp
  rw [← hl] at hp hall ⊢
  have Hp := Lib.hid hp
  have Hlen := Lib.hid hlen
  have Hall := Lib.hid hall
  clear h hp hl hlen hall
  refine (callsIn_wide (n := 4)).1 ?_
  refine callsIn_of_wp_marks Try.func16 rfl trivial ?_ rfl
  simp only [Try.ntmps16, List.size_toArray, List.length_cons, List.length_nil, Nat.reduceAdd, Nat.reduceSub, Array.replicate_succ, Array.replicate_zero, List.push_toArray, List.append_toArray, List.nil_append, List.cons_append]
  gi_wp2_with (first
    | (refine ⟨trivial, ?_⟩; gi_at_call 31; refine (callsIn_wide.2 (Hp.out _)).mono ?_; rintro e w1 ⟨M, rfl, hsy, hps, hb⟩)
    | (refine ⟨trivial, ?_⟩; gi_at_call 34; refine (pendingPlaces_in Fence.wide _ trivial rfl _ _ _).mono ?_; rintro e w' ⟨rfl, rfl⟩))
  have hb0 : Below w1.heap.size w1 (((w1.alloc (.cells #[.slice (some ⟨w.heap.size + 1 + 1, 0, none⟩) s.size s.size, .slice (some ⟨M, 0, none⟩) s.size s.size] 50)).alloc (.cells #[.string ⟨#[]⟩] 9)).alloc (.cells #[.slice (some ⟨w.heap.size + 1 + 1, 0, none⟩) s.size s.size, .slice (some ⟨M, 0, none⟩) s.size s.size] 50)) := (((Below.refl _ w1).alloc (Nat.le_refl _) _).alloc (by simp) _).alloc (by simp; omega) _
  have hsyl : (symL l).length = s.size := by rw [symL_len, Hlen.out]
  have hpsl : (prts (ksOf l)).length = s.size := by rw [prts_len, ksOf_len, Hlen.out]
  have hA : NestAt (((w1.alloc (.cells #[.slice (some ⟨w.heap.size + 1 + 1, 0, none⟩) s.size s.size, .slice (some ⟨M, 0, none⟩) s.size s.size] 50)).alloc (.cells #[.string ⟨#[]⟩] 9)).alloc (.cells #[.slice (some ⟨w.heap.size + 1 + 1, 0, none⟩) s.size s.size, .slice (some ⟨M, 0, none⟩) s.size s.size] 50)) (w1.heap.size + 1 + 1) (w.heap.size + 1 + 1) M s.size s.size s.size (symL l) (prts (ksOf l)) :=
    ⟨by simp [go_sem], by simp [go_sem], syms_cell (row_below hsy hb0), nums_cell (row_below hps hb0)⟩
  refine wpIn_rangeFunc_ownG rfl (by omega) (gf := 57) (lb := #[.pointer (some ⟨w1.heap.size + 1 + 1, 0, none⟩)]) rfl trivial (enters_of Try.func57 (by kernel_rfl) rfl)
    (pend_stops Fence.wide _ trivial rfl (by omega) (w1.heap.size + 1 + 1) w1.heap.size (w.heap.size + 1 + 1) M s.size s.size s.size (symL l) (prts (ksOf l)) h60 hsyl hpsl (hsy.lt _ rfl).2 (hps.lt _ rfl).2 (symL_ok Hall.out) _ (by simp; omega) (by simp) hA) kpB_t (kpB_b (by simp; omega) (by simp)) (Below.refl _ _) (fun _ => rfl)
    (fun pre W => ((∃ t : ByteArray, W.cell? ⟨w1.heap.size + 1, 0, none⟩ = some (.string t) ∧ t.data.toList = pre.map (fun x => byteOf x.1.2)) ∧ W.frozen? ⟨w1.heap.size + 1, 0, none⟩ = false) ∧ Below w1.heap.size w1 W)
    (fun _ _ _ => False)
    (OwnFrom.and (Own.from (fun s A B row hs hg hr => by obtain ⟨⟨t, h1, h2⟩, h3⟩ := hs; exact ⟨⟨t, cell_kept h1 hg hr, h2⟩, (frozen_kept h1 hg hr).trans h3⟩) _) (ownFrom_below (Nat.le_refl _) (by simp; omega)))
    (fun _ _ _ _ _ hs _ _ => hs)
    ⟨⟨⟨⟨#[]⟩, by simp [go_sem], rfl⟩, by simp [go_sem]⟩, hb0⟩
    (fun x => { tmps := #[.string s, undef, .string ⟨#[]⟩, .int .i64 0, .pointer (some ⟨w1.heap.size, 0, none⟩), .bool true, .pointer (some ⟨w1.heap.size + 1, 0, none⟩), undef, .int .u8 x.1.2, .tuple #[.agg #[.slice (some ⟨w.heap.size + 1 + 1, 0, none⟩) s.size s.size, .slice (some ⟨M, 0, none⟩) s.size s.size], .bool true], .string s, .tuple #[.agg #[.slice (some ⟨w.heap.size + 1 + 1, 0, none⟩) s.size s.size, .slice (some ⟨M, 0, none⟩) s.size s.size], .bool true], .agg #[.slice (some ⟨w.heap.size + 1 + 1, 0, none⟩) s.size s.size, .slice (some ⟨M, 0, none⟩) s.size s.size], .bool true, .bool true, .bool false, .agg #[.slice (some ⟨w.heap.size + 1 + 1, 0, none⟩) s.size s.size, .slice (some ⟨M, 0, none⟩) s.size s.size], .func (.func 57) #[] #[.pointer (some ⟨w1.heap.size + 1 + 1, 0, none⟩)], .int .i64 x.1.1, .int .u8 x.1.2, undef, undef, undef, undef, undef], defers := [] }) ?assign ?body ?done ?stop
  case assign =>
    intro l x W K hK
    gi_wp2
    exact hK
  case body =>
    rintro l' pre x W ⟨⟨⟨t, hc1, ht⟩, hf1⟩, hB⟩ hlt
    have ht60 : t.size ≤ 60 := by
      have e2 : t.size = t.data.toList.length := by rw [Array.length_toList]; rfl
      rw [e2, ht, List.length_map]; omega
    have Ht := Lib.hid ht
    clear ht hlt
    have hx := x.2
    have hmx : Try.prog.follows .mixedOrders = true := by kernel_rfl
    gi_wp2
    gi_region_with_o (first
      | (gi_at_call 37; refine (CallsIn.inRound l' (callsIn_wide.2 (impl_text _ _ hx))).mono ?_; rintro e w' ⟨rfl, rfl⟩)
      | (refine ⟨trivial, ?_⟩; gi_at_call 37; refine (CallsIn.inRound l' (callsIn_wide.2 (impl_text _ _ hx))).mono ?_; rintro e w' ⟨rfl, rfl⟩))
    all_goals gi_wp2
    all_goals
      refine ⟨((KeepsOthers.setCell _ _ _).trans (KeepsOthers.drew _)).from _, ⟨((Below.refl _ _).setCell (p := ⟨w1.heap.size + 1, 0, none⟩) (by simp) _).drew, Below.heap_setCell _ _ _ _ (by simp)⟩, ⟨⟨⟨_, World.cell?_setCell_same' _ _ _ (by rw [hc1]; rfl), ?_⟩, ?_⟩, (hB.setCell (p := ⟨w1.heap.size + 1, 0, none⟩) (by simp) _).drew⟩⟩
      · rw [ByteArray.data_append, Array.toList_append, Ht.out, List.map_append]; rfl
      · rw [frozen_drew_own, World.frozen?_setCell]; exact hf1
  case done =>
    rintro D ys W hD rfl ⟨⟨⟨t, hc1, ht⟩, hf1⟩, hB⟩ hK
    have e2 : t = ⟨(coreL l (prts (ksOf l)) s.size).toArray⟩ := by rw [coreL, ← ht]
    subst e2
    clear ht
    gi_wp2
    refine ⟨by simp, .inl ⟨_, _, rfl, run_takeDeferred hK, ?_⟩⟩
    exact ⟨_, results_tmp2 rfl _ _ _, rfl, (hb.trans (hB.mono hb.size)).trans (belowK_b (w := w) (Nat.le_refl _) W D _ _ (by have := hb.size; simp at hD; omega) hK rfl rfl)⟩
  case stop =>
    rintro D c pre W _ _ h _
    exact h.elim

end Go.Proofs.Ytnclhgaikglbgaa
