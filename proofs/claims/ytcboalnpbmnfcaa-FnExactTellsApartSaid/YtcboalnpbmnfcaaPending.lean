/- What is pending is counted: l01Pending, l01Matched, IsMatched. -/
import Derived.Test.YtcboalnpbmnfcaaPend
import Derived.Test.YtcboalnpbmnfcaaPartners
namespace Go.Proofs.Ytcboalnpbmnfcaa
open Go.RowKit

/-! Plain mathematics: an inner place is never pending. -/
theorem opns_call (ks : List Nat) : ∀ a ∈ opns ks, ks[a]? = some 0 := by
  refine snoc_ind (p := fun ks => ∀ a ∈ opns ks, ks[a]? = some 0) ?_ (fun l k ih => ?_) ks
  · intro a h; simp [opns, pst] at h
  · intro a h
    have hlt := opns_lt l
    have keep : ∀ a ∈ opns l, (l ++ [k])[a]? = some 0 := fun a ha => by
      rw [List.getElem?_append_left (hlt a ha)]; exact ih a ha
    by_cases h0 : k = 0
    · subst h0
      rw [(prts_call l).2] at h
      rcases List.mem_append.1 h with h | h
      · exact keep a h
      · simp at h
        subst h
        simp
    · by_cases h1 : k = 1
      · subst h1
        cases hl : (opns l).getLast? with
        | none =>
          rw [(prts_ret_none l (List.getLast?_eq_none_iff.1 hl)).2] at h
          cases h
        | some b =>
          rw [(prts_ret_some l b hl).2] at h
          exact keep a (List.dropLast_subset _ h)
      · rw [(prts_inner l k h0 h1).2] at h
        exact keep a h

theorem prts_at_inner (ks : List Nat) : ∀ (i x : Nat), ks[i]? = some x → x ≠ 0 → x ≠ 1 → (prts ks)[i]? = some (-1) := by
  refine snoc_ind (p := fun ks => ∀ (i x : Nat), ks[i]? = some x → x ≠ 0 → x ≠ 1 → (prts ks)[i]? = some (-1)) ?_ (fun l k ih => ?_) ks
  · intro i x h; simp at h
  · intro i x hi hx0 hx1
    have hlen := prts_len l
    by_cases hil : i < l.length
    · rw [List.getElem?_append_left hil] at hi
      have hI := ih i x hi hx0 hx1
      by_cases h0 : k = 0
      · subst h0
        rw [(prts_call l).1, List.getElem?_append_left (by omega)]; exact hI
      · by_cases h1 : k = 1
        · subst h1
          cases hl : (opns l).getLast? with
          | none =>
            rw [(prts_ret_none l (List.getLast?_eq_none_iff.1 hl)).1, List.getElem?_append_left (by omega)]; exact hI
          | some b =>
            have hb := opns_call l b (List.mem_of_getLast? hl)
            have hne : b ≠ i := fun e => by subst e; rw [hb] at hi; exact hx0 (Option.some.inj hi).symm
            rw [(prts_ret_some l b hl).1, List.getElem?_append_left (by simp; omega), List.getElem?_set_ne hne]; exact hI
        · rw [(prts_inner l k h0 h1).1, List.getElem?_append_left (by omega)]; exact hI
    · have hie : i = l.length := by
        have := (List.getElem?_eq_some_iff.1 hi).1
        simp at this
        omega
      subst hie
      simp at hi
      subst hi
      rw [(prts_inner l k hx0 hx1).1, List.getElem?_append_right (by omega), hlen]
      simp

def cR (l : List UInt8) (ps : List Int) : Nat → Nat
  | 0 => 0
  | k + 1 => cR l ps k + if ps[k]? = some (-2) ∧ retB ((l[k]?.getD 0).toNat : Int) = true then 1 else 0
def cC (l : List UInt8) (ps : List Int) : Nat → Nat
  | 0 => 0
  | k + 1 => cC l ps k + if ps[k]? = some (-2) ∧ callB ((l[k]?.getD 0).toNat : Int) = true then 1 else 0

theorem call_kind {b : UInt8} (h : 0 ≤ symNo (b.toNat : Int)) : callB (b.toNat : Int) = callS (symNo (b.toNat : Int)) ∧ retB (b.toNat : Int) = retS (symNo (b.toNat : Int)) ∧
    (kindS (symNo (b.toNat : Int)) ≠ 2 → retB (b.toNat : Int) = !callB (b.toNat : Int)) := by
  have : b = 40 ∨ b = 91 ∨ b = 41 ∨ b = 93 ∨ b = 97 ∨ b = 98 := by
    unfold symNo at h
    have f (k : UInt8) (e : (b.toNat : Int) = k.toNat) : b = k := UInt8.toNat_inj.1 (by omega)
    by_cases h0 : (b.toNat : Int) = 40
    · exact .inl (f 40 h0)
    by_cases h1 : (b.toNat : Int) = 91
    · exact .inr (.inl (f 91 h1))
    by_cases h2 : (b.toNat : Int) = 41
    · exact .inr (.inr (.inl (f 41 h2)))
    by_cases h3 : (b.toNat : Int) = 93
    · exact .inr (.inr (.inr (.inl (f 93 h3))))
    by_cases h4 : (b.toNat : Int) = 97
    · exact .inr (.inr (.inr (.inr (.inl (f 97 h4)))))
    by_cases h5 : (b.toNat : Int) = 98
    · exact .inr (.inr (.inr (.inr (.inr (f 98 h5)))))
    rw [if_neg h0, if_neg h1, if_neg h2, if_neg h3, if_neg h4, if_neg h5] at h
    omega
  rcases this with rfl | rfl | rfl | rfl | rfl | rfl <;> decide

/-- What the iterator hands on, counted by the kind. -/
theorem pend_counts (l : List UInt8) (hall : AllSym l) (k : Nat) (hk : k ≤ l.length) :
    ((pend (symL l) (prts (ksOf l)) k).filter fun x => callS x.1.2).length = cC l (prts (ksOf l)) k ∧ ((pend (symL l) (prts (ksOf l)) k).filter fun x => !callS x.1.2).length = cR l (prts (ksOf l)) k := by
  induction k with
  | zero => exact ⟨rfl, rfl⟩
  | succ k ih =>
    have ih := ih (by omega)
    obtain ⟨b, hb⟩ : ∃ b, l[k]? = some b := ⟨_, List.getElem?_eq_getElem (by omega)⟩
    have hs := hall b (List.mem_of_getElem? hb)
    have hsy : (symL l)[k]?.getD 0 = symNo (b.toNat : Int) := by simp [symL, hb]
    have hlb : l[k]?.getD 0 = b := by rw [hb]; rfl
    have hkk := ksOf_at l k b hb
    obtain ⟨c1, c2, c3⟩ := call_kind hs
    by_cases hp : (prts (ksOf l))[k]? = some (-2)
    · have hk2 : kindS (symNo (b.toNat : Int)) ≠ 2 := fun e => by
        have := prts_at_inner (ksOf l) k 2 (by rw [hkk, e]) (by decide) (by decide)
        rw [hp] at this
        simp at this
      have c4 := c3 hk2
      rw [pend_yes hp (by rw [hsy]; exact ⟨hs, symNo_le _⟩), List.filter_append, List.filter_append, List.length_append, List.length_append, ih.1, ih.2, cC, cR, hlb]
      simp only [hsy, hp, true_and]
      rw [c4, c1]
      cases hcs : callS (symNo (b.toNat : Int)) <;> simp [hcs]
    · rw [pend_no hp, cC, cR, if_neg (fun h => hp h.1), if_neg (fun h => hp h.1)]
      exact ih

theorem pend_empty (l : List UInt8) (hall : AllSym l) (k : Nat) (hk : k ≤ l.length) :
    (pend (symL l) (prts (ksOf l)) k).isEmpty = decide (cR l (prts (ksOf l)) k + cC l (prts (ksOf l)) k = 0) := by
  have h := pend_counts l hall k hk
  have hs : (pend (symL l) (prts (ksOf l)) k).length = cC l (prts (ksOf l)) k + cR l (prts (ksOf l)) k := by
    rw [← h.1, ← h.2]
    generalize pend (symL l) (prts (ksOf l)) k = L
    clear h
    induction L with
    | nil => rfl
    | cons x L ih =>
      cases hx : callS x.1.2 <;> simp [hx, ih] <;> omega
  cases hL : pend (symL l) (prts (ksOf l)) k with
  | nil =>
    rw [hL] at hs
    simp only [List.length_nil] at hs
    exact (decide_eq_true (by omega)).symm
  | cons x L =>
    rw [hL] at hs
    simp only [List.length_cons] at hs
    exact (decide_eq_false (by omega)).symm

theorem syms_cell {w : World} {base g n c : Nat} {sy : List Int} (h : w.ownsRow base 162 1 (.slice (some ⟨g, 0, none⟩) n c) n (symsV sy)) : ∀ (j : Nat) (x : Int), sy[j]? = some x → w.cell? ⟨g, j, none⟩ = some (.int .u8 x) := by
  intro j x hx
  have hl := h.1
  simp [symsV] at hl
  have := (List.getElem?_eq_some_iff.1 hx).1
  rw [h.cellAt j (by omega)]
  simp [symsV, hx]
theorem nums_cell {w : World} {base g n c : Nat} {xs : List Int} (h : w.ownsRow base 2 1 (.slice (some ⟨g, 0, none⟩) n c) n (numsV xs)) : ∀ (j : Nat) (x : Int), xs[j]? = some x → w.cell? ⟨g, j, none⟩ = some (.int .i64 x) := by
  intro j x hx
  have hl := h.1
  simp [numsV] at hl
  have := (List.getElem?_eq_some_iff.1 hx).1
  rw [h.cellAt j (by omega)]
  simp [numsV, hx]

set_option maxHeartbeats 3200000 in
set_option maxRecDepth 100000 in
theorem spec_pending (s : ByteArray) (w : World) (hw : IsW s) :
    Calls Try.prog 122 #[.string s] w
      (TupPost (.tuple #[.int .i64 (cR s.data.toList (prts (ksOf s.data.toList)) s.size : Nat), .int .i64 (cC s.data.toList (prts (ksOf s.data.toList)) s.size : Nat)]) w) := by
  have hp := fun w => spec_partners s w hw
  obtain ⟨h60, hall⟩ := hw
  obtain ⟨l, hl⟩ : ∃ l, l = s.data.toList := ⟨_, rfl⟩
  have hlen : l.length = s.size := by rw [hl]; simp
  rw [← hl] at hp hall ⊢
  obtain ⟨ps, hps⟩ : ∃ ps, ps = prts (ksOf l) := ⟨_, rfl⟩
  have hpl : ps.length = s.size := by rw [hps, prts_len, ksOf_len]; exact hlen
  rw [← hps] at hp ⊢
  have Hp := Lib.hid hp
  have Hl := Lib.hid hl
  have Hpl := Lib.hid hpl
  clear hp hl hlen hps hpl hall
  go_enter Try.func122, Try.ntmps122
  go_wp2_with (go_at_call 154; refine (Hp.out _).mono ?_; rintro e w1 ⟨A, c, rfl, hr, hb⟩)
  go_loop [5, 6, 7] (fun x y i => ∃ k r q : Nat, k ≤ s.size ∧ i = .int .i64 k ∧ x = .int .i64 r ∧ y = .int .i64 q ∧ r ≤ k ∧ q ≤ k ∧ Hid (r = cR l ps k ∧ q = cC l ps k)) (fun _ _ i => s.size - (intOf i).toNat)
  case atStart => exact ⟨0, 0, 0, Nat.zero_le _, rfl, rfl, rfl, Nat.le_refl _, Nat.le_refl _, rfl, rfl⟩
  case round =>
    obtain ⟨k, r, q, hk, rfl, rfl, rfl, hrk, hqk, Hrq⟩ := hrel
    by_cases hlt : k < s.size
    · obtain ⟨g, rfl⟩ : ∃ g, A = some ⟨g, 0, none⟩ := by
        rcases hr.2 with ⟨_, h1⟩ | ⟨g, cap, cur, hv, _⟩
        · omega
        · simp only [Value.slice.injEq] at hv
          exact ⟨g, hv.1⟩
      obtain ⟨p, hp⟩ : ∃ p, ps[k]? = some p := ⟨_, List.getElem?_eq_getElem (by rw [Hpl.out]; exact hlt)⟩
      have hcell := nums_cell hr k p hp
      have Hp' := Lib.hid hp
      have hlb : Hid (l[k]?.getD 0 = s[k]) := by
        show _ = _
        rw [Hl.out, List.getElem?_eq_getElem (by simpa using hlt)]; rfl
      clear hp
      by_cases h2 : p = -2
      · subst h2
        cases hc : callB (s[k].toNat : Int) <;> cases hd : retB (s[k].toNat : Int)
        all_goals
          go_wp2_with (first
            | (go_at_call 156; refine (spec_call _ _).mono ?_; rintro e w' ⟨rfl, rfl⟩)
            | (go_at_call 155; refine (spec_return _ _).mono ?_; rintro e w' ⟨rfl, rfl⟩))
          go_round
          case rel =>
            first
              | exact ⟨k + 1, r, q, by omega, by go_num, rfl, rfl, by omega, by omega, by show _ ∧ _; simp [cR, cC, Hp'.out, hlb.out, hc, hd, ← Hrq.out.1, ← Hrq.out.2]⟩
              | exact ⟨k + 1, r + 1, q, by omega, by go_num, by go_num, rfl, by omega, by omega, by show _ ∧ _; simp [cR, cC, Hp'.out, hlb.out, hc, hd, ← Hrq.out.1, ← Hrq.out.2]⟩
              | exact ⟨k + 1, r, q + 1, by omega, by go_num, rfl, by go_num, by omega, by omega, by show _ ∧ _; simp [cR, cC, Hp'.out, hlb.out, hc, hd, ← Hrq.out.1, ← Hrq.out.2]⟩
              | exact ⟨k + 1, r + 1, q + 1, by omega, by go_num, by go_num, by go_num, by omega, by omega, by show _ ∧ _; simp [cR, cC, Hp'.out, hlb.out, hc, hd, ← Hrq.out.1, ← Hrq.out.2]⟩
          case measure => simp [intOf]; omega
      · have hp2 : (p == -2) = false := by simpa using h2
        have hcr : Hid (cR l ps (k + 1) = cR l ps k ∧ cC l ps (k + 1) = cC l ps k) := by
          show _ ∧ _
          rw [cR, cC, if_neg (by rw [Hp'.out]; simp [h2]), if_neg (by rw [Hp'.out]; simp [h2])]
          exact ⟨rfl, rfl⟩
        clear h2
        go_wp2
        go_round
        case rel => exact ⟨k + 1, r, q, by omega, by go_num, rfl, rfl, by omega, by omega, by show _ ∧ _; rw [hcr.out.1, hcr.out.2]; exact Hrq.out⟩
        case measure => simp [intOf]; omega
    · have e : k = s.size := by omega
      subst e
      have h1 := Hrq.out.1
      have h2 := Hrq.out.2
      subst h1 h2
      go_wp2
      go_ret2
      exact ⟨rfl, hb⟩

theorem spec_matched (s : ByteArray) (w : World) (hw : IsW s) :
    Calls Try.prog 57 #[.string s] w (TupPost (.bool (decide (cR s.data.toList (prts (ksOf s.data.toList)) s.size + cC s.data.toList (prts (ksOf s.data.toList)) s.size = 0))) w) := by
  have hp := fun w => spec_pending s w hw
  have b1 : ∀ k, cR s.data.toList (prts (ksOf s.data.toList)) k ≤ k := fun k => by
    induction k with
    | zero => exact Nat.le_refl _
    | succ k ih => rw [cR]; split <;> omega
  have b2 : ∀ k, cC s.data.toList (prts (ksOf s.data.toList)) k ≤ k := fun k => by
    induction k with
    | zero => exact Nat.le_refl _
    | succ k ih => rw [cC]; split <;> omega
  have b1 := b1 s.size
  have b2 := b2 s.size
  have h60 := hw.1
  generalize cR s.data.toList (prts (ksOf s.data.toList)) s.size = r at hp b1 ⊢
  generalize cC s.data.toList (prts (ksOf s.data.toList)) s.size = q at hp b2 ⊢
  have Hp := Lib.hid hp
  clear hp hw
  by_cases h0 : r + q = 0
  · have hr0 : r = 0 := by omega
    have hq0 : q = 0 := by omega
    subst hr0 hq0
    go_enter Try.func57, Try.ntmps57
    go_wp2_with (go_at_call 122; refine (Hp.out _).mono ?_; rintro e w1 ⟨rfl, hb⟩)
    go_ret
    exact ⟨rfl, hb⟩
  · have hne : ((r : Int) + (q : Int) == 0) = false := by simp; omega
    have hd : decide (r + q = 0) = false := by simpa using h0
    rw [hd]
    clear hd h0
    go_enter Try.func57, Try.ntmps57
    go_wp2_with (go_at_call 122; refine (Hp.out _).mono ?_; rintro e w1 ⟨rfl, hb⟩)
    go_ret
    exact ⟨rfl, hb⟩


/-- isMatched at what readNested hands on. -/
theorem matched_read {s : ByteArray} {w w1 : World} {M : Nat} (h : IsW s) (hsy : w1.ownsRow w.heap.size 162 1 (.slice (some ⟨w.heap.size + 1 + 1, 0, none⟩) s.size s.size) s.size (symsV (symL s.data.toList)))
    (hps : w1.ownsRow w.heap.size 2 1 (.slice (some ⟨M, 0, none⟩) s.size s.size) s.size (numsV (prts (ksOf s.data.toList)))) {w2 : World} (hb : Below w1.heap.size w1 w2) :
    Calls Try.prog 61 #[.agg #[.slice (some ⟨w.heap.size + 1 + 1, 0, none⟩) s.size s.size, .slice (some ⟨M, 0, none⟩) s.size s.size]] w2
      (TupPost (.bool (decide (cR s.data.toList (prts (ksOf s.data.toList)) s.size + cC s.data.toList (prts (ksOf s.data.toList)) s.size = 0))) w2) := by
  have hl : s.data.toList.length = s.size := by simp
  rw [← pend_empty s.data.toList h.2 s.size (by rw [hl]; exact Nat.le_refl _)]
  have hsy2 := row_below hsy hb
  have hps2 := row_below hps hb
  exact impl_isMatched _ _ _ _ _ _ _ w2 h.1 (by rw [symL_len, hl]) (by rw [prts_len, ksOf_len, hl]) (hsy2.lt _ rfl).2 (hps2.lt _ rfl).2 (symL_ok h.2) (syms_cell hsy2) (nums_cell hps2)

end Go.Proofs.Ytcboalnpbmnfcaa
