/- The law FnDepths, walked. -/
import Derived.Test.YtnclhgaikglbgaaDepthsM
import Derived.Test.YtnclhgaikglbgaaDepthsOf
import Derived.Test.YtnclhgaikglbgaaPendingOf
import Derived.Test.YtnclhgaikglbgaaDrawnW
import Derived.Test.YtnclhgaikglbgaaBytes
namespace Go.Proofs.Ytnclhgaikglbgaa
open Go.RowKit
set_option linter.unusedVariables false

theorem law_long {A0 A1 : Option Addr} {n0 c0 n1 c1 : Nat} (w : World) (h0 : n0 ≤ maxLen) (h1 : n1 ≤ maxLen) :
    Calls Try.prog 7 #[.slice A0 n0 c0, .slice A1 n1 c1] w fun e w' => e = .returned (.bool (decide (3000 < n0 ∨ 3000 < n1))) ∧ w = w' := by
  unfold maxLen at h0 h1
  by_cases h : 3000 < n0
  · rw [decide_eq_true (.inl h)]
    go_enter Try.func7, Try.ntmps7
    go_wp2
    go_ret
    exact ⟨rfl, rfl⟩
  · have e : (decide ((3000 : Int) < (n0 : Int)) || decide ((3000 : Int) < (n1 : Int))) = decide (3000 < n0 ∨ 3000 < n1) := by
      rw [Bool.eq_iff_iff, Bool.or_eq_true, decide_eq_true_eq, decide_eq_true_eq, decide_eq_true_eq]
      omega
    rw [← e]
    have h2 : n0 ≤ 3000 := by omega
    clear h e
    go_enter Try.func7, Try.ntmps7
    go_wp2
    go_ret
    exact ⟨rfl, rfl⟩
theorem law_call (n : Int) (w : World) : Calls Try.prog 12 #[.int .u8 n] w fun e w' => e = .returned (.bool (callB n)) ∧ w = w' := by
  by_cases h1 : n = 40
  · subst h1
    go_enter Try.func12, Try.ntmps12
    go_wp2
    go_ret
    exact ⟨rfl, rfl⟩
  · by_cases h2 : n = 91
    · subst h2
      go_enter Try.func12, Try.ntmps12
      go_wp2
      go_ret
      exact ⟨rfl, rfl⟩
    · have e : callB n = false := by simp [callB, h1, h2]
      rw [e]
      have g1 : (n == 40) = false := by simpa using h1
      have g2 : (n == 91) = false := by simpa using h2
      clear h1 h2 e
      go_enter Try.func12, Try.ntmps12
      go_wp2
      go_ret
      exact ⟨rfl, rfl⟩
theorem law_return (n : Int) (w : World) : Calls Try.prog 13 #[.int .u8 n] w fun e w' => e = .returned (.bool (retB n)) ∧ w = w' := by
  by_cases h1 : n = 41
  · subst h1
    go_enter Try.func13, Try.ntmps13
    go_wp2
    go_ret
    exact ⟨rfl, rfl⟩
  · by_cases h2 : n = 93
    · subst h2
      go_enter Try.func13, Try.ntmps13
      go_wp2
      go_ret
      exact ⟨rfl, rfl⟩
    · have e : retB n = false := by simp [retB, h1, h2]
      rw [e]
      have g1 : (n == 41) = false := by simpa using h1
      have g2 : (n == 93) = false := by simpa using h2
      clear h1 h2 e
      go_enter Try.func13, Try.ntmps13
      go_wp2
      go_ret
      exact ⟨rfl, rfl⟩
/-- What the length of bytes that came in is. -/
theorem BytesR.len_ {w : World} {A : Option Addr} {n c : Nat} {xs : List Int} (h : BytesR w (.slice A n c) xs) : n = xs.length ∧ n ≤ maxLen := by
  obtain ⟨A', c', e, hm, _⟩ := h
  simp only [Value.slice.injEq] at e
  exact ⟨e.2.1, by rw [e.2.1]; exact hm⟩
/-- The depths behind a word's places. -/
theorem dAt_kind {l : List UInt8} {k : Nat} {b : UInt8} (hb : l[k]? = some b) (hs : 0 ≤ symNo (b.toNat : Int)) :
    (callB (b.toNat : Int) = true ∧ retB (b.toNat : Int) = false ∧ dAt (ksOf l) (k + 1) = dAt (ksOf l) k + 1) ∨ (callB (b.toNat : Int) = false ∧ retB (b.toNat : Int) = true ∧ dAt (ksOf l) (k + 1) = dAt (ksOf l) k - 1) ∨
      (callB (b.toNat : Int) = false ∧ retB (b.toNat : Int) = false ∧ dAt (ksOf l) (k + 1) = dAt (ksOf l) k) := by
  have hkk := ksOf_at l k b hb
  rw [dAt_succ hkk]
  cases hc : callB (b.toNat : Int) with
  | true =>
    have hr : retB (b.toNat : Int) = false := by simp only [callB, retB, decide_eq_true_eq, decide_eq_false_iff_not] at hc ⊢; omega
    exact .inl ⟨rfl, hr, by rw [kind_call hc]; rfl⟩
  | false =>
    cases hd : retB (b.toNat : Int) with
    | true => exact .inr (.inl ⟨rfl, rfl, by rw [kind_ret hd]; rfl⟩)
    | false =>
      refine .inr (.inr ⟨rfl, rfl, ?_⟩)
      rcases kind_in hc hd with h | h
      · rw [h]; rfl
      · omega

set_option maxHeartbeats 6400000 in
set_option maxRecDepth 100000 in
theorem FnDepths_walk {A0 A1 : Option Addr} {n0 c0 n1 c1 : Nat} {l0 l1 : List Int} (w : World) (w0 : BytesR w (.slice A0 n0 c0) l0) (w1 : BytesR w (.slice A1 n1 c1) l1) (f0 : WfU l0) (f1 : WfU l1) :
    Calls Try.prog 3 #[.slice A0 n0 c0, .slice A1 n1 c1] w fun e w' => e = .returned (.bool true) ∧ Below w.heap.size w w' := by
  have Hl := Lib.hid (law_long (A0 := A0) (A1 := A1) (c0 := c0) (c1 := c1) w w0.len_.2 w1.len_.2)
  by_cases hlong : 3000 < n0 ∨ 3000 < n1
  · rw [decide_eq_true hlong] at Hl
    clear w0 w1 f0 f1 hlong
    go_enter Try.func3, Try.ntmps3
    go_wp2_with fail
    refine Hl.out.mono ?_
    rintro e w2 ⟨rfl, rfl⟩
    go_wp2
    go_ret
    exact ⟨rfl, Below.refl _ _⟩
  · rw [decide_eq_false hlong] at Hl
    have Hd := Lib.hid (draw_A2Word (m := 16) (c := c0) w (w0.code w0.len_.1 (by omega) f0 (Below.refl _ _)) (by omega) (by omega))
    clear w0 w1 f0 f1 hlong
    go_enter Try.func3, Try.ntmps3
    go_wp2_with fail
    refine Hl.out.mono ?_
    rintro e w2 ⟨rfl, rfl⟩
    go_wp2_with fail
    refine Hd.out.mono ?_
    rintro e w1 ⟨s, rfl, hw, h16, hb1⟩
    have h60 := hw.1
    have hall := hw.2
    have D1 := Lib.hid (fun w => impl_DepthsOf_yes s w hw)
    have D2 := Lib.hid (fun w => impl_DepthOf_yes s w hw)
    have D3 := fun w => impl_PendingOf_yes s w hw
    obtain ⟨l, hl⟩ : ∃ l, l = s.data.toList := ⟨_, rfl⟩
    have hlen : l.length = s.size := by rw [hl]; simp
    have hsat : ∀ (k : Nat) (hk : k < s.size), l[k]? = some s[k] := fun k hk => by rw [hl, List.getElem?_eq_getElem (by simpa using hk)]; rfl
    rw [← hl] at D1 D2 hall
    simp only [← hl] at D3
    have hcc : ((pend (symL l) (prts (ksOf l)) s.size).filter fun x => callS x.1.2).length = dAt (ksOf l) s.size := by
      rw [(pend_counts l hall s.size (by omega)).1, ← hlen, cC_open hall, dAt_dq]
    simp only [hcc] at D3
    have D3 := Lib.hid D3
    have Hlen := Lib.hid hlen
    have Hall := Lib.hid hall
    have Hsat := Lib.hid hsat
    clear Hd hw hl hlen hall hsat hcc
    obtain ⟨ks, hks⟩ : ∃ ks, ks = ksOf l := ⟨_, rfl⟩
    rw [← hks] at D1 D2 D3
    have Hks := Lib.hid hks
    clear hks
    go_wp2_with fail
    refine (D1.out _).mono ?_
    rintro e w2 ⟨A, c, rfl, hr, hb2⟩
    go_wp2_with fail
    refine (D2.out _).mono ?_
    rintro e w3 ⟨rfl, hb3⟩
    go_wp2_with fail
    refine (D3.out _).mono ?_
    rintro e w4 ⟨rfl, hb4⟩
    have hB := hb1.trans ((hb2.trans (hb3.mono hb2.size)).trans (hb4.mono (Nat.le_trans hb2.size hb3.size)) |>.mono hb1.size)
    have hr4 := row_below (row_below hr hb3) hb4
    obtain ⟨g, cc, hgv⟩ := ownsRow_succ hr4
    simp only [Value.slice.injEq] at hgv
    obtain ⟨rfl, hz1_, rfl⟩ := hgv
    clear hz1_
    have hcell : ∀ k, k ≤ s.size → w4.cell? ⟨g, k, none⟩ = some (.int .i64 (dAt ks k : Int)) := fun k hk => nums_cell hr4 k _ (dList_at ks (s.size + 1) k (by omega))
    have HC := Lib.hid (And.intro hcell hB)
    have hd0 : dAt ks 0 = 0 := rfl
    have k0 := hcell 0 (Nat.zero_le _)
    have kn := hcell s.size (Nat.le_refl _)
    rw [hd0] at k0
    obtain ⟨N, hN⟩ : ∃ N, N = (List.filter (fun x => !callS x.1.2) (pend (symL l) (prts ks) s.size)).length := ⟨_, rfl⟩
    obtain ⟨mx, hmx⟩ : ∃ mx, mx = mxI ks (s.size + 1) := ⟨_, rfl⟩
    rw [← hmx]
    have Hmx := Lib.hid hmx
    clear hb1 hb2 hb3 hb4 hr hr4 hcell hB hmx D1 D2 D3 hd0
    go_wp2_with fail
    clear k0 kn
    go_loop [13, 14] (fun q i => ∃ k : Nat, k ≤ s.size ∧ i = .int .i64 (k : Int) ∧ q = .int .i64 (mxI ks (k + 1))) (fun _ i => s.size - (intOf i).toNat)
    case atStart => exact ⟨0, Nat.zero_le _, rfl, by simp [mxI, dAt]⟩
    case round =>
      obtain ⟨k, hk, rfl, rfl⟩ := hrel
      by_cases hlt : k < s.size
      · have hlb := Hsat.out k hlt
        have hsb := Hall.out _ (List.mem_of_getElem? hlb)
        have hkd : k < s.data.size := hlt
        have c1' := HC.out.1 k (by omega)
        have c2' := HC.out.1 (k + 1) (by omega)
        have hm := mxI_bd ks (k + 1)
        have hmx2 : mxI ks (k + 1 + 1) = max (mxI ks (k + 1)) (dAt ks (k + 1) : Int) := rfl
        have hd61 := dAt_le ks k
        have hkind := dAt_kind hlb hsb
        rw [← Hks.out] at hkind
        obtain ⟨M, hM⟩ : ∃ M, M = mxI ks (k + 1) := ⟨_, rfl⟩
        rw [← hM] at hm hmx2 ⊢
        have HM := Lib.hid hmx2
        clear hlb hsb hM hmx2
        rcases hkind with ⟨hc, hrr, hd⟩ | ⟨hc, hrr, hd⟩ | ⟨hc, hrr, hd⟩
        · obtain ⟨D, hD⟩ : ∃ D, D = dAt ks k := ⟨_, rfl⟩
          rw [← hD] at c1' hd hd61
          clear hD
          rw [hd] at c2'
          have HD := Lib.hid (show ((dAt ks (k + 1) : Nat) : Int) = (D : Int) + 1 by omega)
          clear hd
          rw [show ((D + 1 : Nat) : Int) = (D : Int) + 1 from by omega] at c2'
          by_cases hg : M < (D : Int) + 1
          · have em : mxI ks (k + 1 + 1) = (D : Int) + 1 := by rw [HM.out, HD.out]; omega
            have Em := Lib.hid em
            clear em
            go_wp2_with (first | (go_at_call 12; refine (law_call _ _).mono ?_; rintro e w' ⟨rfl, rfl⟩; rw [hc]) | (go_at_call 13; refine (law_return _ _).mono ?_; rintro e w' ⟨rfl, rfl⟩; rw [hrr]))
            go_round
            case rel => exact ⟨k + 1, by omega, by go_num, by rw [Em.out]⟩
            case measure => simp [intOf]; omega
          · have em : mxI ks (k + 1 + 1) = M := by rw [HM.out, HD.out]; omega
            have Em := Lib.hid em
            have hg2 : (D : Int) + 1 ≤ M := by omega
            clear em hg
            go_wp2_with (first | (go_at_call 12; refine (law_call _ _).mono ?_; rintro e w' ⟨rfl, rfl⟩; rw [hc]) | (go_at_call 13; refine (law_return _ _).mono ?_; rintro e w' ⟨rfl, rfl⟩; rw [hrr]))
            go_round
            case rel => exact ⟨k + 1, by omega, by go_num, by rw [Em.out]⟩
            case measure => simp [intOf]; omega
        · obtain ⟨D, hD⟩ : ∃ D, D = dAt ks k := ⟨_, rfl⟩
          rw [← hD] at c1' hd hd61
          clear hD
          cases D with
          | zero =>
            have hd : dAt ks (k + 1) = 0 := hd
            rw [hd] at c2'
            have HD := Lib.hid (show ((dAt ks (k + 1) : Nat) : Int) = 0 by rw [hd]; rfl)
            clear hd
            by_cases hg : M < (0 : Int)
            · have em : mxI ks (k + 1 + 1) = (0 : Int) := by rw [HM.out, HD.out]; omega
              have Em := Lib.hid em
              clear em
              go_wp2_with (first | (go_at_call 12; refine (law_call _ _).mono ?_; rintro e w' ⟨rfl, rfl⟩; rw [hc]) | (go_at_call 13; refine (law_return _ _).mono ?_; rintro e w' ⟨rfl, rfl⟩; rw [hrr]))
              go_round
              case rel => exact ⟨k + 1, by omega, by go_num, by rw [Em.out]⟩
              case measure => simp [intOf]; omega
            · have em : mxI ks (k + 1 + 1) = M := by rw [HM.out, HD.out]; omega
              have Em := Lib.hid em
              have hg2 : (0 : Int) ≤ M := by omega
              clear em hg
              go_wp2_with (first | (go_at_call 12; refine (law_call _ _).mono ?_; rintro e w' ⟨rfl, rfl⟩; rw [hc]) | (go_at_call 13; refine (law_return _ _).mono ?_; rintro e w' ⟨rfl, rfl⟩; rw [hrr]))
              go_round
              case rel => exact ⟨k + 1, by omega, by go_num, by rw [Em.out]⟩
              case measure => simp [intOf]; omega
          | succ D =>
            have hd : dAt ks (k + 1) = D := hd
            rw [hd] at c2'
            have HD := Lib.hid (show ((dAt ks (k + 1) : Nat) : Int) = (D : Int) by rw [hd])
            clear hd
            by_cases hg : M < (D : Int)
            · have em : mxI ks (k + 1 + 1) = (D : Int) := by rw [HM.out, HD.out]; omega
              have Em := Lib.hid em
              clear em
              go_wp2_with (first | (go_at_call 12; refine (law_call _ _).mono ?_; rintro e w' ⟨rfl, rfl⟩; rw [hc]) | (go_at_call 13; refine (law_return _ _).mono ?_; rintro e w' ⟨rfl, rfl⟩; rw [hrr]))
              go_round
              case rel => exact ⟨k + 1, by omega, by go_num, by rw [Em.out]⟩
              case measure => simp [intOf]; omega
            · have em : mxI ks (k + 1 + 1) = M := by rw [HM.out, HD.out]; omega
              have Em := Lib.hid em
              have hg2 : (D : Int) ≤ M := by omega
              clear em hg
              go_wp2_with (first | (go_at_call 12; refine (law_call _ _).mono ?_; rintro e w' ⟨rfl, rfl⟩; rw [hc]) | (go_at_call 13; refine (law_return _ _).mono ?_; rintro e w' ⟨rfl, rfl⟩; rw [hrr]))
              go_round
              case rel => exact ⟨k + 1, by omega, by go_num, by rw [Em.out]⟩
              case measure => simp [intOf]; omega
        · obtain ⟨D, hD⟩ : ∃ D, D = dAt ks k := ⟨_, rfl⟩
          rw [← hD] at c1' hd hd61
          clear hD
          rw [hd] at c2'
          have HD := Lib.hid (show ((dAt ks (k + 1) : Nat) : Int) = (D : Int) by omega)
          clear hd
          by_cases hg : M < (D : Int)
          · have em : mxI ks (k + 1 + 1) = (D : Int) := by rw [HM.out, HD.out]; omega
            have Em := Lib.hid em
            clear em
            go_wp2_with (first | (go_at_call 12; refine (law_call _ _).mono ?_; rintro e w' ⟨rfl, rfl⟩; rw [hc]) | (go_at_call 13; refine (law_return _ _).mono ?_; rintro e w' ⟨rfl, rfl⟩; rw [hrr]))
            go_round
            case rel => exact ⟨k + 1, by omega, by go_num, by rw [Em.out]⟩
            case measure => simp [intOf]; omega
          · have em : mxI ks (k + 1 + 1) = M := by rw [HM.out, HD.out]; omega
            have Em := Lib.hid em
            have hg2 : (D : Int) ≤ M := by omega
            clear em hg
            go_wp2_with (first | (go_at_call 12; refine (law_call _ _).mono ?_; rintro e w' ⟨rfl, rfl⟩; rw [hc]) | (go_at_call 13; refine (law_return _ _).mono ?_; rintro e w' ⟨rfl, rfl⟩; rw [hrr]))
            go_round
            case rel => exact ⟨k + 1, by omega, by go_num, by rw [Em.out]⟩
            case measure => simp [intOf]; omega
      · obtain rfl : k = s.size := by omega
        go_wp2
        go_ret
        exact ⟨by rw [Hmx.out]; simp, HC.out.2⟩
end Go.Proofs.Ytnclhgaikglbgaa
