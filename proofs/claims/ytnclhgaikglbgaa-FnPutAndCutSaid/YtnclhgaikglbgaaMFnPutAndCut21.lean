import Derived.Test.YtnclhgaikglbgaaMFnPutAndCut9
import Derived.Test.YtnclhgaikglbgaaMFnPutAndCut20
import Derived.Test.YtnclhgaikglbgaaMFnPutAndCut11
import Derived.Test.YtnclhgaikglbgaaMFnPutAndCut13
import Derived.Test.YtnclhgaikglbgaaMFnPutAndCut12
import Derived.Test.YtnclhgaikglbgaaMFnPutAndCut19
import Derived.Test.YtnclhgaikglbgaaMFnPutAndCut15
import Derived.BigQuiet
import Derived.Deep.QuietTactic
/- The law FnDepths, walked. -/
namespace Go.Proofs.Ytnclhgaikglbgaa
open Go.RowKit
set_option linter.unusedVariables false

theorem law_long {A0 A1 : Option Addr} {n0 c0 n1 c1 : Nat} (w : World) (h0 : n0 ≤ maxLen) (h1 : n1 ≤ maxLen) :
    Calls Try.prog 7 #[.slice A0 n0 c0, .slice A1 n1 c1] w fun e w' => e = .returned (.bool (decide (3000 < n0 ∨ 3000 < n1))) ∧ w = w' := by
  unfold maxLen at h0 h1
  by_cases h : 3000 < n0
  · rw [decide_eq_true (.inl h)]
    go_enter Try.func7, Try.ntmps7
    go_wp2
    go_ret
    exact ⟨rfl, rfl⟩
  · have e : (decide ((3000 : Int) < (n0 : Int)) || decide ((3000 : Int) < (n1 : Int))) = decide (3000 < n0 ∨ 3000 < n1) := by
      rw [Bool.eq_iff_iff, Bool.or_eq_true, decide_eq_true_eq, decide_eq_true_eq, decide_eq_true_eq]
      omega
    rw [← e]
    have h2 : n0 ≤ 3000 := by omega
    clear h e
    go_enter Try.func7, Try.ntmps7
    go_wp2
    go_ret
    exact ⟨rfl, rfl⟩
theorem law_call (n : Int) (w : World) : Calls Try.prog 12 #[.int .u8 n] w fun e w' => e = .returned (.bool (callB n)) ∧ w = w' := by
  by_cases h1 : n = 40
  · subst h1
    go_enter Try.func12, Try.ntmps12
    go_wp2
    go_ret
    exact ⟨rfl, rfl⟩
  · by_cases h2 : n = 91
    · subst h2
      go_enter Try.func12, Try.ntmps12
      go_wp2
      go_ret
      exact ⟨rfl, rfl⟩
    · have e : callB n = false := by simp [callB, h1, h2]
      rw [e]
      have g1 : (n == 40) = false := by simpa using h1
      have g2 : (n == 91) = false := by simpa using h2
      clear h1 h2 e
      go_enter Try.func12, Try.ntmps12
      go_wp2
      go_ret
      exact ⟨rfl, rfl⟩
theorem law_return (n : Int) (w : World) : Calls Try.prog 13 #[.int .u8 n] w fun e w' => e = .returned (.bool (retB n)) ∧ w = w' := by
  by_cases h1 : n = 41
  · subst h1
    go_enter Try.func13, Try.ntmps13
    go_wp2
    go_ret
    exact ⟨rfl, rfl⟩
  · by_cases h2 : n = 93
    · subst h2
      go_enter Try.func13, Try.ntmps13
      go_wp2
      go_ret
      exact ⟨rfl, rfl⟩
    · have e : retB n = false := by simp [retB, h1, h2]
      rw [e]
      have g1 : (n == 41) = false := by simpa using h1
      have g2 : (n == 93) = false := by simpa using h2
      clear h1 h2 e
      go_enter Try.func13, Try.ntmps13
      go_wp2
      go_ret
      exact ⟨rfl, rfl⟩
/-- What the length of bytes that came in is. -/
theorem BytesR.len_ {w : World} {A : Option Addr} {n c : Nat} {xs : List Int} (h : BytesR w (.slice A n c) xs) : n = xs.length ∧ n ≤ maxLen := by
  obtain ⟨A', c', e, hm, _⟩ := h
  simp only [Value.slice.injEq] at e
  exact ⟨e.2.1, by rw [e.2.1]; exact hm⟩
/-- The depths behind a word's places. -/
theorem dAt_kind {l : List UInt8} {k : Nat} {b : UInt8} (hb : l[k]? = some b) (hs : 0 ≤ symNo (b.toNat : Int)) :
    (callB (b.toNat : Int) = true ∧ retB (b.toNat : Int) = false ∧ dAt (ksOf l) (k + 1) = dAt (ksOf l) k + 1) ∨ (callB (b.toNat : Int) = false ∧ retB (b.toNat : Int) = true ∧ dAt (ksOf l) (k + 1) = dAt (ksOf l) k - 1) ∨
      (callB (b.toNat : Int) = false ∧ retB (b.toNat : Int) = false ∧ dAt (ksOf l) (k + 1) = dAt (ksOf l) k) := by
  have hkk := ksOf_at l k b hb
  rw [dAt_succ hkk]
  cases hc : callB (b.toNat : Int) with
  | true =>
    have hr : retB (b.toNat : Int) = false := by simp only [callB, retB, decide_eq_true_eq, decide_eq_false_iff_not] at hc ⊢; omega
    exact .inl ⟨rfl, hr, by rw [kind_call hc]; rfl⟩
  | false =>
    cases hd : retB (b.toNat : Int) with
    | true => exact .inr (.inl ⟨rfl, rfl, by rw [kind_ret hd]; rfl⟩)
    | false =>
      refine .inr (.inr ⟨rfl, rfl, ?_⟩)
      rcases kind_in hc hd with h | h
      · rw [h]; rfl
      · omega

set_option maxHeartbeats 6400000 in
set_option maxRecDepth 100000 in
theorem FnDepths_walk {A0 A1 : Option Addr} {n0 c0 n1 c1 : Nat} {l0 l1 : List Int} (w : World) (w0 : BytesR w (.slice A0 n0 c0) l0) (w1 : BytesR w (.slice A1 n1 c1) l1) (f0 : WfU l0) (f1 : WfU l1) :
    Calls Try.prog 3 #[.slice A0 n0 c0, .slice A1 n1 c1] w fun e w' => e = .returned (.bool true) ∧ Below w.heap.size w w' := by
  have Hl := Lib.hid (law_long (A0 := A0) (A1 := A1) (c0 := c0) (c1 := c1) w w0.len_.2 w1.len_.2)
  by_cases hlong : 3000 < n0 ∨ 3000 < n1
  · rw [decide_eq_true hlong] at Hl
    clear w0 w1 f0 f1 hlong
    go_enter Try.func3, Try.ntmps3
    go_wp2_with fail
    refine Hl.out.mono ?_
    rintro e w2 ⟨rfl, rfl⟩
    go_wp2
    go_ret
    exact ⟨rfl, Below.refl _ _⟩
  · rw [decide_eq_false hlong] at Hl
    have Hd := Lib.hid (draw_A2Word (m := 16) (c := c0) w (w0.code w0.len_.1 (by omega) f0 (Below.refl _ _)) (by omega) (by omega))
    clear w0 w1 f0 f1 hlong
    go_enter Try.func3, Try.ntmps3
    go_wp2_with fail
    refine Hl.out.mono ?_
    rintro e w2 ⟨rfl, rfl⟩
    go_wp2_with fail
    refine Hd.out.mono ?_
    rintro e w1 ⟨s, rfl, hw, h16, hb1⟩
    have h60 := hw.1
    have hall := hw.2
    have D1 := Lib.hid (fun w => impl_DepthsOf_yes s w hw)
    have D2 := Lib.hid (fun w => impl_DepthOf_yes s w hw)
    have D3 := fun w => impl_PendingOf_yes s w hw
    obtain ⟨l, hl⟩ : ∃ l, l = s.data.toList := ⟨_, rfl⟩
    have hlen : l.length = s.size := by rw [hl]; simp
    have hsat : ∀ (k : Nat) (hk : k < s.size), l[k]? = some s[k] := fun k hk => by rw [hl, List.getElem?_eq_getElem (by simpa using hk)]; rfl
    rw [← hl] at D1 D2 hall
    simp only [← hl] at D3
    have hcc : ((pend (symL l) (prts (ksOf l)) s.size).filter fun x => callS x.1.2).length = dAt (ksOf l) s.size := by
      rw [(pend_counts l hall s.size (by omega)).1, ← hlen, cC_open hall, dAt_dq]
    simp only [hcc] at D3
    have D3 := Lib.hid D3
    have Hlen := Lib.hid hlen
    have Hall := Lib.hid hall
    have Hsat := Lib.hid hsat
    clear Hd hw hl hlen hall hsat hcc
    obtain ⟨ks, hks⟩ : ∃ ks, ks = ksOf l := ⟨_, rfl⟩
    rw [← hks] at D1 D2 D3
    have Hks := Lib.hid hks
    clear hks
    go_wp2_with fail
    refine (D1.out _).mono ?_
    rintro e w2 ⟨A, c, rfl, hr, hb2⟩
    go_wp2_with fail
    refine (D2.out _).mono ?_
    rintro e w3 ⟨rfl, hb3⟩
    go_wp2_with fail
    refine (D3.out _).mono ?_
    rintro e w4 ⟨rfl, hb4⟩
    have hB := hb1.trans ((hb2.trans (hb3.mono hb2.size)).trans (hb4.mono (Nat.le_trans hb2.size hb3.size)) |>.mono hb1.size)
    have hr4 := row_below (row_below hr hb3) hb4
    obtain ⟨g, cc, hgv⟩ := ownsRow_succ hr4
    simp only [Value.slice.injEq] at hgv
    obtain ⟨rfl, hz1_, rfl⟩ := hgv
    clear hz1_
    have hcell : ∀ k, k ≤ s.size → w4.cell? ⟨g, k, none⟩ = some (.int .i64 (dAt ks k : Int)) := fun k hk => nums_cell hr4 k _ (dList_at ks (s.size + 1) k (by omega))
    have HC := Lib.hid (And.intro hcell hB)
    have hd0 : dAt ks 0 = 0 := rfl
    have k0 := hcell 0 (Nat.zero_le _)
    have kn := hcell s.size (Nat.le_refl _)
    rw [hd0] at k0
    obtain ⟨N, hN⟩ : ∃ N, N = (List.filter (fun x => !callS x.1.2) (pend (symL l) (prts ks) s.size)).length := ⟨_, rfl⟩
    obtain ⟨mx, hmx⟩ : ∃ mx, mx = mxI ks (s.size + 1) := ⟨_, rfl⟩
    rw [← hmx]
    have Hmx := Lib.hid hmx
    clear hb1 hb2 hb3 hb4 hr hr4 hcell hB hmx D1 D2 D3 hd0
    go_wp2_with fail
    clear k0 kn
    go_loop [13, 14] (fun q i => ∃ k : Nat, k ≤ s.size ∧ i = .int .i64 (k : Int) ∧ q = .int .i64 (mxI ks (k + 1))) (fun _ i => s.size - (intOf i).toNat)
    case atStart => exact ⟨0, Nat.zero_le _, rfl, by simp [mxI, dAt]⟩
    case round =>
      obtain ⟨k, hk, rfl, rfl⟩ := hrel
      by_cases hlt : k < s.size
      · have hlb := Hsat.out k hlt
        have hsb := Hall.out _ (List.mem_of_getElem? hlb)
        have hkd : k < s.data.size := hlt
        have c1' := HC.out.1 k (by omega)
        have c2' := HC.out.1 (k + 1) (by omega)
        have hm := mxI_bd ks (k + 1)
        have hmx2 : mxI ks (k + 1 + 1) = max (mxI ks (k + 1)) (dAt ks (k + 1) : Int) := rfl
        have hd61 := dAt_le ks k
        have hkind := dAt_kind hlb hsb
        rw [← Hks.out] at hkind
        obtain ⟨M, hM⟩ : ∃ M, M = mxI ks (k + 1) := ⟨_, rfl⟩
        rw [← hM] at hm hmx2 ⊢
        have HM := Lib.hid hmx2
        clear hlb hsb hM hmx2
        rcases hkind with ⟨hc, hrr, hd⟩ | ⟨hc, hrr, hd⟩ | ⟨hc, hrr, hd⟩
        · obtain ⟨D, hD⟩ : ∃ D, D = dAt ks k := ⟨_, rfl⟩
          rw [← hD] at c1' hd hd61
          clear hD
          rw [hd] at c2'
          have HD := Lib.hid (show ((dAt ks (k + 1) : Nat) : Int) = (D : Int) + 1 by omega)
          clear hd
          rw [show ((D + 1 : Nat) : Int) = (D : Int) + 1 from by omega] at c2'
          by_cases hg : M < (D : Int) + 1
          · have em : mxI ks (k + 1 + 1) = (D : Int) + 1 := by rw [HM.out, HD.out]; omega
            have Em := Lib.hid em
            clear em
            go_wp2_with (first | (go_at_call 12; refine (law_call _ _).mono ?_; rintro e w' ⟨rfl, rfl⟩; rw [hc]) | (go_at_call 13; refine (law_return _ _).mono ?_; rintro e w' ⟨rfl, rfl⟩; rw [hrr]))
            go_round
            case rel => exact ⟨k + 1, by omega, by go_num, by rw [Em.out]⟩
            case measure => simp [intOf]; omega
          · have em : mxI ks (k + 1 + 1) = M := by rw [HM.out, HD.out]; omega
            have Em := Lib.hid em
            have hg2 : (D : Int) + 1 ≤ M := by omega
            clear em hg
            go_wp2_with (first | (go_at_call 12; refine (law_call _ _).mono ?_; rintro e w' ⟨rfl, rfl⟩; rw [hc]) | (go_at_call 13; refine (law_return _ _).mono ?_; rintro e w' ⟨rfl, rfl⟩; rw [hrr]))
            go_round
            case rel => exact ⟨k + 1, by omega, by go_num, by rw [Em.out]⟩
            case measure => simp [intOf]; omega
        · obtain ⟨D, hD⟩ : ∃ D, D = dAt ks k := ⟨_, rfl⟩
          rw [← hD] at c1' hd hd61
          clear hD
          cases D with
          | zero =>
            have hd : dAt ks (k + 1) = 0 := hd
            rw [hd] at c2'
            have HD := Lib.hid (show ((dAt ks (k + 1) : Nat) : Int) = 0 by rw [hd]; rfl)
            clear hd
            by_cases hg : M < (0 : Int)
            · have em : mxI ks (k + 1 + 1) = (0 : Int) := by rw [HM.out, HD.out]; omega
              have Em := Lib.hid em
              clear em
              go_wp2_with (first | (go_at_call 12; refine (law_call _ _).mono ?_; rintro e w' ⟨rfl, rfl⟩; rw [hc]) | (go_at_call 13; refine (law_return _ _).mono ?_; rintro e w' ⟨rfl, rfl⟩; rw [hrr]))
              go_round
              case rel => exact ⟨k + 1, by omega, by go_num, by rw [Em.out]⟩
              case measure => simp [intOf]; omega
            · have em : mxI ks (k + 1 + 1) = M := by rw [HM.out, HD.out]; omega
              have Em := Lib.hid em
              have hg2 : (0 : Int) ≤ M := by omega
              clear em hg
              go_wp2_with (first | (go_at_call 12; refine (law_call _ _).mono ?_; rintro e w' ⟨rfl, rfl⟩; rw [hc]) | (go_at_call 13; refine (law_return _ _).mono ?_; rintro e w' ⟨rfl, rfl⟩; rw [hrr]))
              go_round
              case rel => exact ⟨k + 1, by omega, by go_num, by rw [Em.out]⟩
              case measure => simp [intOf]; omega
          | succ D =>
            have hd : dAt ks (k + 1) = D := hd
            rw [hd] at c2'
            have HD := Lib.hid (show ((dAt ks (k + 1) : Nat) : Int) = (D : Int) by rw [hd])
            clear hd
            by_cases hg : M < (D : Int)
            · have em : mxI ks (k + 1 + 1) = (D : Int) := by rw [HM.out, HD.out]; omega
              have Em := Lib.hid em
              clear em
              go_wp2_with (first | (go_at_call 12; refine (law_call _ _).mono ?_; rintro e w' ⟨rfl, rfl⟩; rw [hc]) | (go_at_call 13; refine (law_return _ _).mono ?_; rintro e w' ⟨rfl, rfl⟩; rw [hrr]))
              go_round
              case rel => exact ⟨k + 1, by omega, by go_num, by rw [Em.out]⟩
              case measure => simp [intOf]; omega
            · have em : mxI ks (k + 1 + 1) = M := by rw [HM.out, HD.out]; omega
              have Em := Lib.hid em
              have hg2 : (D : Int) ≤ M := by omega
              clear em hg
              go_wp2_with (first | (go_at_call 12; refine (law_call _ _).mono ?_; rintro e w' ⟨rfl, rfl⟩; rw [hc]) | (go_at_call 13; refine (law_return _ _).mono ?_; rintro e w' ⟨rfl, rfl⟩; rw [hrr]))
              go_round
              case rel => exact ⟨k + 1, by omega, by go_num, by rw [Em.out]⟩
              case measure => simp [intOf]; omega
        · obtain ⟨D, hD⟩ : ∃ D, D = dAt ks k := ⟨_, rfl⟩
          rw [← hD] at c1' hd hd61
          clear hD
          rw [hd] at c2'
          have HD := Lib.hid (show ((dAt ks (k + 1) : Nat) : Int) = (D : Int) by omega)
          clear hd
          by_cases hg : M < (D : Int)
          · have em : mxI ks (k + 1 + 1) = (D : Int) := by rw [HM.out, HD.out]; omega
            have Em := Lib.hid em
            clear em
            go_wp2_with (first | (go_at_call 12; refine (law_call _ _).mono ?_; rintro e w' ⟨rfl, rfl⟩; rw [hc]) | (go_at_call 13; refine (law_return _ _).mono ?_; rintro e w' ⟨rfl, rfl⟩; rw [hrr]))
            go_round
            case rel => exact ⟨k + 1, by omega, by go_num, by rw [Em.out]⟩
            case measure => simp [intOf]; omega
          · have em : mxI ks (k + 1 + 1) = M := by rw [HM.out, HD.out]; omega
            have Em := Lib.hid em
            have hg2 : (D : Int) ≤ M := by omega
            clear em hg
            go_wp2_with (first | (go_at_call 12; refine (law_call _ _).mono ?_; rintro e w' ⟨rfl, rfl⟩; rw [hc]) | (go_at_call 13; refine (law_return _ _).mono ?_; rintro e w' ⟨rfl, rfl⟩; rw [hrr]))
            go_round
            case rel => exact ⟨k + 1, by omega, by go_num, by rw [Em.out]⟩
            case measure => simp [intOf]; omega
      · obtain rfl : k = s.size := by omega
        go_wp2
        go_ret
        exact ⟨by rw [Hmx.out]; simp, HC.out.2⟩
end Go.Proofs.Ytnclhgaikglbgaa
/- The law FnPutAndCut, walked. -/
namespace Go.Proofs.Ytnclhgaikglbgaa
open Go.RowKit
set_option linter.unusedVariables false

theorem CodeAt.up {B B' : Nat} {W : World} {A : Option Addr} {n : Nat} (h : CodeAt B W A n) (hB : B ≤ B') : CodeAt B' W A n :=
  ⟨h.le, fun j hj => by
    obtain ⟨a, x, h1, h2, h3⟩ := h.byte j hj
    exact ⟨a, x, h1, by omega, h3⟩⟩
theorem wrap_p {n : Int} (h : -1000 ≤ n ∧ n ≤ 1000) : IntKind.i64.wrap n = n := by unfold IntKind.wrap IntKind.signed IntKind.bits; simp; omega
theorem slice_cut (s : ByteArray) (a b : Nat) (hab : a ≤ b) (hb : b ≤ s.size) : ∀ W : World, (Instr.slice 9 (.string s) (some (.int .i64 (a : Int))) (some (.int .i64 (b : Int))) none).run Try.prog W = .ok (.string (s.extract a b)) W := fun W => by
  have := run_slice_string (P := Try.prog) W 9 s .i64 .i64 (a : Int) (b : Int) Try.underlying9 (by omega) (by omega) (by omega)
  rwa [Int.toNat_natCast, Int.toNat_natCast] at this

set_option maxHeartbeats 6400000 in
set_option maxRecDepth 100000 in
theorem FnPutAndCut_walk {A0 A1 : Option Addr} {n0 c0 n1 c1 : Nat} {l0 l1 : List Int} (w : World) (w0 : BytesR w (.slice A0 n0 c0) l0) (w1 : BytesR w (.slice A1 n1 c1) l1) (f0 : WfU l0) (f1 : WfU l1) :
    Calls Try.prog 6 #[.slice A0 n0 c0, .slice A1 n1 c1] w fun e w' => e = .returned (.bool true) ∧ Below w.heap.size w w' := by
  have Hl := Lib.hid (law_long (A0 := A0) (A1 := A1) (c0 := c0) (c1 := c1) w w0.len_.2 w1.len_.2)
  by_cases hlong : 3000 < n0 ∨ 3000 < n1
  · rw [decide_eq_true hlong] at Hl
    clear w0 w1 f0 f1 hlong
    go_enter Try.func6, Try.ntmps6
    go_wp2_with fail
    refine Hl.out.mono ?_
    rintro e w2 ⟨rfl, rfl⟩
    go_wp2
    go_ret
    exact ⟨rfl, Below.refl _ _⟩
  · rw [decide_eq_false hlong] at Hl
    have Hd := Lib.hid (draw_A2Word (m := 12) (c := c0) w (w0.code w0.len_.1 (by omega) f0 (Below.refl _ _)) (by omega) (by omega))
    have Hcode := Lib.hid (fun W h => w1.code (W := W) w1.len_.1 (by omega) f1 h)
    clear w0 w1 f0 f1 hlong
    go_enter Try.func6, Try.ntmps6
    go_wp2_with fail
    refine Hl.out.mono ?_
    rintro e w2 ⟨rfl, rfl⟩
    go_wp2_with fail
    refine Hd.out.mono ?_
    rintro e wa ⟨s, rfl, hw, h12, hb1⟩
    have z1 := hb1.size
    have Hd2 := Lib.hid (draw_A2Matched (m := 8) (c := c1) wa ((Hcode.out _ hb1).up z1) (by omega))
    have Hw := Lib.hid hw
    have Hb1 := Lib.hid hb1
    clear hw hb1 Hd
    go_wp2_with fail
    refine Hd2.out.mono ?_
    rintro e wb ⟨q, z, hq, hz, rfl, hb2⟩
    have hqz := (listed (show q ≤ 20 by omega) hz).2.1
    have Hb2 := Lib.hid (Hb1.out.trans (hb2.mono z1))
    have z2 := hb2.size
    clear hb2 Hd2
    have hw1 : IntKind.i64.wrap ((s.size : Int) + 1) = ((s.size + 1 : Nat) : Int) := by rw [wrap_p (by omega)]; omega
    have hz9 : (⟨#[91]⟩ ++ textN (nth q 0 z) : ByteArray).size ≤ 9 := by rw [ByteArray.size_append]; show 1 + (textN (nth q 0 z)).size ≤ 9; omega
    have husz := nodeW_size (textN (nth q 0 z))
    obtain ⟨yu, hu⟩ : ∃ y, y = nodeW (textN (nth q 0 z)) := ⟨_, rfl⟩
    have hue : (⟨#[91]⟩ ++ textN (nth q 0 z) ++ ⟨#[41]⟩ : ByteArray) = yu := hu.symm
    rw [← hu] at husz
    have h60 : s.size ≤ 60 := by omega
    have hu60 : yu.size ≤ 10 := by omega
    have HU := Lib.hid hu
    have hm8 : (textN (nth q 0 z)).size ≤ 8 := by omega
    clear hu husz hqz
    go_wp2_with fail
    refine (law_at 0 (s.size + 1) _ (Hcode.out _ Hb2.out) (by omega) (by omega)).mono ?_
    rintro e wc ⟨i, hi, rfl, rfl⟩
    have his : i ≤ s.size := by omega
    obtain ⟨x, r, R, Q, HP⟩ := put_calls Hw.out h12 hq hz his
    rw [← HU.out] at HP
    have hx60 : x.size ≤ 60 := by have := HP.x_size; omega
    have hr60 : r.size ≤ 60 := by have := HP.r_size; have := HP.rq; omega
    have HP := Lib.hid HP
    clear hue hz9 hw1 HU Hcode hi
    go_wp2_with fail
    refine (HP.out.put _).mono ?_
    rintro e w3 ⟨rfl, hb3⟩
    go_wp2_with fail
    refine (HP.out.nums _).mono ?_
    rintro e w4 ⟨Ap, cp, rfl, hrp, hb4⟩
    go_wp2_with fail
    refine (HP.out.xnums _).mono ?_
    rintro e w5 ⟨Aq, cq, rfl, hrq, hb5⟩
    have z3 := hb3.size
    have z4 := hb4.size
    have z5 := hb5.size
    have HB := Lib.hid (And.intro (Hb2.out.trans ((hb3.trans ((hb4.trans (hb5.mono z4)).mono z3)).mono (Nat.le_trans z1 z2))) (And.intro (row_below hrp hb5) hrq))
    clear hb3 hb4 hb5 hrp hrq z3 z4 z5 Hb1 Hb2
    have hsl1 := slice_to s i his
    have hsl2 := slice_from s i his
    have g1 : (s.extract 0 i).size ≤ 60 := by rw [ByteArray.size_extract]; omega
    have g2 : (s.extract i s.size).size ≤ 60 := by rw [ByteArray.size_extract]; omega
    have g3 : (s.extract 0 i ++ yu).size ≤ 120 := by rw [ByteArray.size_append]; omega
    have hxe : s.extract 0 i ++ yu ++ s.extract i s.size = x := HP.out.x_is.symm
    go_upto_region 9 with fail
    refine wp_region_free (by kernel_rfl) [
        .val [] (fun _ => .int .i64 0),
        .val [] (fun _ => .bool false),
        .val [] (fun _ => .bool false),
        .val [] (fun _ => .int .i64 0),
        .val [] (fun _ => .bool false),
        .val [] (fun _ => .bool false),
        .val [] (fun _ => .bool false),
        .val [] (fun _ => .int .i64 0),
        .val [] (fun _ => .bool false),
        .val [] (fun _ => .bool false),
        .val [] (fun _ => .bool false),
        .val [] (fun _ => .string x),
        .val [] (fun _ => .string s),
        .val [] (fun _ => .int .i64 (i : Int)),
        .val [] (fun _ => .string (s.extract 0 i)),
        .val [] (fun _ => .string yu),
        .val [] (fun _ => .string (s.extract 0 i ++ yu)),
        .val [] (fun _ => .string s),
        .val [] (fun _ => .int .i64 (i : Int)),
        .val [] (fun _ => .string (s.extract i s.size)),
        .val [] (fun _ => .string x),
        .val [] (fun _ => .bool false),
        .val [] (fun _ => .bool false),
        .val [] (fun _ => .bool false),
        .val [] (fun _ => .slice Ap s.size cp),
        .val [] (fun _ => .int .i64 (s.size : Int)),
        .val [] (fun _ => .string s),
        .val [] (fun _ => .int .i64 (s.size : Int)),
        .val [] (fun _ => .bool false),
        .val [] (fun _ => .bool false),
        .val [] (fun _ => .bool false),
        .val [] (fun _ => .slice Aq x.size cq),
        .val [] (fun _ => .int .i64 (x.size : Int)),
        .val [] (fun _ => .string x),
        .val [] (fun _ => .int .i64 (x.size : Int)),
        .val [] (fun _ => .bool false),
        .val [] (fun _ => .bool false)] ?hp ?hfw ?deps ?oks ?steps ?tail
    case hp => kernel_rfl
    case hfw => kernel_rfl
    case deps => kernel_rfl
    case oks =>
      intro F hF
      simp only [List.mem_cons, List.not_mem_nil, or_false] at hF
      rcases hF with rfl | rfl | rfl | rfl | rfl | rfl | rfl | rfl | rfl | rfl | rfl | rfl | rfl | rfl | rfl | rfl | rfl | rfl | rfl | rfl | rfl | rfl | rfl | rfl | rfl | rfl | rfl | rfl | rfl | rfl | rfl | rfl | rfl | rfl | rfl | rfl | rfl
      all_goals trivial
    case steps =>
      refine Steps.cons ?_ ?_
      · refine FreeStep.val [] _ rfl rfl fun u β W hW hn fr hfr K hK => ?_
        simp only [frameL, putL, Act.put, List.setIfInBounds_toArray, List.set_cons_zero, List.set_cons_succ, Nat.zero_add, Nat.reduceAdd] at hfr
        subst hfr
        have HK := Lib.hid hK
        clear hK hn
        go_simp
        have h9 := HK.out
        revert h9
        clear HK
        go_simp
        try exact id
      refine Steps.cons ?_ ?_
      · refine FreeStep.val [] _ rfl rfl fun u β W hW hn fr hfr K hK => ?_
        simp only [frameL, putL, Act.put, List.setIfInBounds_toArray, List.set_cons_zero, List.set_cons_succ, Nat.zero_add, Nat.reduceAdd] at hfr
        subst hfr
        have e0 : u 0 = .int .i64 0 := Have.get (k := 0) hn rfl
        simp only [e0] at hK
        have HK := Lib.hid hK
        clear hK hn
        go_simp
        have h9 := HK.out
        revert h9
        clear HK
        go_simp
        try exact id
      refine Steps.cons ?_ ?_
      · refine FreeStep.val [] _ rfl rfl fun u β W hW hn fr hfr K hK => ?_
        simp only [frameL, putL, Act.put, List.setIfInBounds_toArray, List.set_cons_zero, List.set_cons_succ, Nat.zero_add, Nat.reduceAdd] at hfr
        subst hfr
        have e1 : u 1 = .bool false := Have.get (k := 1) hn rfl
        simp only [e1] at hK
        have HK := Lib.hid hK
        clear hK hn
        go_simp
        have h9 := HK.out
        revert h9
        clear HK
        go_simp
        try exact id
      refine Steps.cons ?_ ?_
      · refine FreeStep.val [] _ rfl rfl fun u β W hW hn fr hfr K hK => ?_
        simp only [frameL, putL, Act.put, List.setIfInBounds_toArray, List.set_cons_zero, List.set_cons_succ, Nat.zero_add, Nat.reduceAdd] at hfr
        subst hfr
        have e2 : u 2 = .bool false := Have.get (k := 2) hn rfl
        simp only [e2] at hK
        have HK := Lib.hid hK
        clear hK hn
        go_simp
        have h9 := HK.out
        revert h9
        clear HK
        go_simp
        try exact id
      refine Steps.cons ?_ ?_
      · refine FreeStep.val [] _ rfl rfl fun u β W hW hn fr hfr K hK => ?_
        simp only [frameL, putL, Act.put, List.setIfInBounds_toArray, List.set_cons_zero, List.set_cons_succ, Nat.zero_add, Nat.reduceAdd] at hfr
        subst hfr
        have e3 : u 3 = .int .i64 0 := Have.get (k := 3) hn rfl
        have e2 : u 2 = .bool false := Have.get (k := 2) hn rfl
        simp only [e3, e2] at hK
        have HK := Lib.hid hK
        clear hK hn
        go_simp
        have h9 := HK.out
        revert h9
        clear HK
        go_simp
        try exact id
      refine Steps.cons ?_ ?_
      · refine FreeStep.val [] _ rfl rfl fun u β W hW hn fr hfr K hK => ?_
        simp only [frameL, putL, Act.put, List.setIfInBounds_toArray, List.set_cons_zero, List.set_cons_succ, Nat.zero_add, Nat.reduceAdd] at hfr
        subst hfr
        have e2 : u 2 = .bool false := Have.get (k := 2) hn rfl
        have e4 : u 4 = .bool false := Have.get (k := 4) hn rfl
        simp only [e2, e4] at hK
        have HK := Lib.hid hK
        clear hK hn
        go_simp
        have h9 := HK.out
        revert h9
        clear HK
        go_simp
        try exact id
      refine Steps.cons ?_ ?_
      · refine FreeStep.val [] _ rfl rfl fun u β W hW hn fr hfr K hK => ?_
        simp only [frameL, putL, Act.put, List.setIfInBounds_toArray, List.set_cons_zero, List.set_cons_succ, Nat.zero_add, Nat.reduceAdd] at hfr
        subst hfr
        have e5 : u 5 = .bool false := Have.get (k := 5) hn rfl
        simp only [e5] at hK
        have HK := Lib.hid hK
        clear hK hn
        go_simp
        have h9 := HK.out
        revert h9
        clear HK
        go_simp
        try exact id
      refine Steps.cons ?_ ?_
      · refine FreeStep.val [] _ rfl rfl fun u β W hW hn fr hfr K hK => ?_
        simp only [frameL, putL, Act.put, List.setIfInBounds_toArray, List.set_cons_zero, List.set_cons_succ, Nat.zero_add, Nat.reduceAdd] at hfr
        subst hfr
        have e6 : u 6 = .bool false := Have.get (k := 6) hn rfl
        simp only [e6] at hK
        have HK := Lib.hid hK
        clear hK hn
        go_simp
        have h9 := HK.out
        revert h9
        clear HK
        go_simp
        try exact id
      refine Steps.cons ?_ ?_
      · refine FreeStep.val [] _ rfl rfl fun u β W hW hn fr hfr K hK => ?_
        simp only [frameL, putL, Act.put, List.setIfInBounds_toArray, List.set_cons_zero, List.set_cons_succ, Nat.zero_add, Nat.reduceAdd] at hfr
        subst hfr
        have e7 : u 7 = .int .i64 0 := Have.get (k := 7) hn rfl
        have e6 : u 6 = .bool false := Have.get (k := 6) hn rfl
        simp only [e7, e6] at hK
        have HK := Lib.hid hK
        clear hK hn
        go_simp
        have h9 := HK.out
        revert h9
        clear HK
        go_simp
        try exact id
      refine Steps.cons ?_ ?_
      · refine FreeStep.val [] _ rfl rfl fun u β W hW hn fr hfr K hK => ?_
        simp only [frameL, putL, Act.put, List.setIfInBounds_toArray, List.set_cons_zero, List.set_cons_succ, Nat.zero_add, Nat.reduceAdd] at hfr
        subst hfr
        have e6 : u 6 = .bool false := Have.get (k := 6) hn rfl
        have e8 : u 8 = .bool false := Have.get (k := 8) hn rfl
        simp only [e6, e8] at hK
        have HK := Lib.hid hK
        clear hK hn
        go_simp
        have h9 := HK.out
        revert h9
        clear HK
        go_simp
        try exact id
      refine Steps.cons ?_ ?_
      · refine FreeStep.val [] _ rfl rfl fun u β W hW hn fr hfr K hK => ?_
        simp only [frameL, putL, Act.put, List.setIfInBounds_toArray, List.set_cons_zero, List.set_cons_succ, Nat.zero_add, Nat.reduceAdd] at hfr
        subst hfr
        have e9 : u 9 = .bool false := Have.get (k := 9) hn rfl
        simp only [e9] at hK
        have HK := Lib.hid hK
        clear hK hn
        go_simp
        have h9 := HK.out
        revert h9
        clear HK
        go_simp
        try exact id
      refine Steps.cons ?_ ?_
      · refine FreeStep.val [] _ rfl rfl fun u β W hW hn fr hfr K hK => ?_
        simp only [frameL, putL, Act.put, List.setIfInBounds_toArray, List.set_cons_zero, List.set_cons_succ, Nat.zero_add, Nat.reduceAdd] at hfr
        subst hfr
        have e10 : u 10 = .bool false := Have.get (k := 10) hn rfl
        simp only [e10] at hK
        have HK := Lib.hid hK
        clear hK hn
        go_simp
        have h9 := HK.out
        revert h9
        clear HK
        go_simp
        try exact id
      refine Steps.cons ?_ ?_
      · refine FreeStep.val [] _ rfl rfl fun u β W hW hn fr hfr K hK => ?_
        simp only [frameL, putL, Act.put, List.setIfInBounds_toArray, List.set_cons_zero, List.set_cons_succ, Nat.zero_add, Nat.reduceAdd] at hfr
        subst hfr
        have e10 : u 10 = .bool false := Have.get (k := 10) hn rfl
        simp only [e10] at hK
        have HK := Lib.hid hK
        clear hK hn
        go_simp
        have h9 := HK.out
        revert h9
        clear HK
        go_simp
        try exact id
      refine Steps.cons ?_ ?_
      · refine FreeStep.val [] _ rfl rfl fun u β W hW hn fr hfr K hK => ?_
        simp only [frameL, putL, Act.put, List.setIfInBounds_toArray, List.set_cons_zero, List.set_cons_succ, Nat.zero_add, Nat.reduceAdd] at hfr
        subst hfr
        have e10 : u 10 = .bool false := Have.get (k := 10) hn rfl
        simp only [e10] at hK
        have HK := Lib.hid hK
        clear hK hn
        go_simp
        have h9 := HK.out
        revert h9
        clear HK
        go_simp
        try exact id
      refine Steps.cons ?_ ?_
      · refine FreeStep.val [] _ rfl rfl fun u β W hW hn fr hfr K hK => ?_
        simp only [frameL, putL, Act.put, List.setIfInBounds_toArray, List.set_cons_zero, List.set_cons_succ, Nat.zero_add, Nat.reduceAdd] at hfr
        subst hfr
        have e12 : u 12 = .string s := Have.get (k := 12) hn rfl
        have e13 : u 13 = .int .i64 (i : Int) := Have.get (k := 13) hn rfl
        have e10 : u 10 = .bool false := Have.get (k := 10) hn rfl
        simp only [e12, e13, e10] at hK
        have HK := Lib.hid hK
        clear hK hn
        go_simp
        have h9 := HK.out
        revert h9
        clear HK
        go_simp
        try exact id
      refine Steps.cons ?_ ?_
      · refine FreeStep.val [] _ rfl rfl fun u β W hW hn fr hfr K hK => ?_
        simp only [frameL, putL, Act.put, List.setIfInBounds_toArray, List.set_cons_zero, List.set_cons_succ, Nat.zero_add, Nat.reduceAdd] at hfr
        subst hfr
        have e10 : u 10 = .bool false := Have.get (k := 10) hn rfl
        simp only [e10] at hK
        have HK := Lib.hid hK
        clear hK hn
        go_simp
        have h9 := HK.out
        revert h9
        clear HK
        go_simp
        try exact id
      refine Steps.cons ?_ ?_
      · refine FreeStep.val [] _ rfl rfl fun u β W hW hn fr hfr K hK => ?_
        simp only [frameL, putL, Act.put, List.setIfInBounds_toArray, List.set_cons_zero, List.set_cons_succ, Nat.zero_add, Nat.reduceAdd] at hfr
        subst hfr
        have e14 : u 14 = .string (s.extract 0 i) := Have.get (k := 14) hn rfl
        have e15 : u 15 = .string yu := Have.get (k := 15) hn rfl
        have e10 : u 10 = .bool false := Have.get (k := 10) hn rfl
        simp only [e14, e15, e10] at hK
        have hq1_ : ¬ (9223372036854775807 < i + yu.size) := by omega
        have HK := Lib.hid hK
        clear hK hn
        go_simp
        have h9 := HK.out
        revert h9
        clear HK
        go_simp
        try exact id
      refine Steps.cons ?_ ?_
      · refine FreeStep.val [] _ rfl rfl fun u β W hW hn fr hfr K hK => ?_
        simp only [frameL, putL, Act.put, List.setIfInBounds_toArray, List.set_cons_zero, List.set_cons_succ, Nat.zero_add, Nat.reduceAdd] at hfr
        subst hfr
        have e10 : u 10 = .bool false := Have.get (k := 10) hn rfl
        simp only [e10] at hK
        have HK := Lib.hid hK
        clear hK hn
        go_simp
        have h9 := HK.out
        revert h9
        clear HK
        go_simp
        try exact id
      refine Steps.cons ?_ ?_
      · refine FreeStep.val [] _ rfl rfl fun u β W hW hn fr hfr K hK => ?_
        simp only [frameL, putL, Act.put, List.setIfInBounds_toArray, List.set_cons_zero, List.set_cons_succ, Nat.zero_add, Nat.reduceAdd] at hfr
        subst hfr
        have e10 : u 10 = .bool false := Have.get (k := 10) hn rfl
        simp only [e10] at hK
        have HK := Lib.hid hK
        clear hK hn
        go_simp
        have h9 := HK.out
        revert h9
        clear HK
        go_simp
        try exact id
      refine Steps.cons ?_ ?_
      · refine FreeStep.val [] _ rfl rfl fun u β W hW hn fr hfr K hK => ?_
        simp only [frameL, putL, Act.put, List.setIfInBounds_toArray, List.set_cons_zero, List.set_cons_succ, Nat.zero_add, Nat.reduceAdd] at hfr
        subst hfr
        have e17 : u 17 = .string s := Have.get (k := 17) hn rfl
        have e18 : u 18 = .int .i64 (i : Int) := Have.get (k := 18) hn rfl
        have e10 : u 10 = .bool false := Have.get (k := 10) hn rfl
        simp only [e17, e18, e10] at hK
        have HK := Lib.hid hK
        clear hK hn
        go_simp
        have h9 := HK.out
        revert h9
        clear HK
        go_simp
        try exact id
      refine Steps.cons ?_ ?_
      · refine FreeStep.val [] _ rfl rfl fun u β W hW hn fr hfr K hK => ?_
        simp only [frameL, putL, Act.put, List.setIfInBounds_toArray, List.set_cons_zero, List.set_cons_succ, Nat.zero_add, Nat.reduceAdd] at hfr
        subst hfr
        have e16 : u 16 = .string (s.extract 0 i ++ yu) := Have.get (k := 16) hn rfl
        have e19 : u 19 = .string (s.extract i s.size) := Have.get (k := 19) hn rfl
        have e10 : u 10 = .bool false := Have.get (k := 10) hn rfl
        simp only [e16, e19, e10] at hK
        have hq2_ : ¬ (9223372036854775807 < i + yu.size + (s.size - i)) := by omega
        have HK := Lib.hid hK
        clear hK hn
        go_simp
        have h9 := HK.out
        revert h9
        clear HK
        go_simp
        try exact id
      refine Steps.cons ?_ ?_
      · refine FreeStep.val [] _ rfl rfl fun u β W hW hn fr hfr K hK => ?_
        simp only [frameL, putL, Act.put, List.setIfInBounds_toArray, List.set_cons_zero, List.set_cons_succ, Nat.zero_add, Nat.reduceAdd] at hfr
        subst hfr
        have e11 : u 11 = .string x := Have.get (k := 11) hn rfl
        have e20 : u 20 = .string x := Have.get (k := 20) hn rfl
        have e10 : u 10 = .bool false := Have.get (k := 10) hn rfl
        simp only [e11, e20, e10] at hK
        have HK := Lib.hid hK
        clear hK hn
        go_simp
        have h9 := HK.out
        revert h9
        clear HK
        go_simp
        try exact id
      refine Steps.cons ?_ ?_
      · refine FreeStep.val [] _ rfl rfl fun u β W hW hn fr hfr K hK => ?_
        simp only [frameL, putL, Act.put, List.setIfInBounds_toArray, List.set_cons_zero, List.set_cons_succ, Nat.zero_add, Nat.reduceAdd] at hfr
        subst hfr
        have e10 : u 10 = .bool false := Have.get (k := 10) hn rfl
        have e21 : u 21 = .bool false := Have.get (k := 21) hn rfl
        simp only [e10, e21] at hK
        have HK := Lib.hid hK
        clear hK hn
        go_simp
        have h9 := HK.out
        revert h9
        clear HK
        go_simp
        try exact id
      refine Steps.cons ?_ ?_
      · refine FreeStep.val [] _ rfl rfl fun u β W hW hn fr hfr K hK => ?_
        simp only [frameL, putL, Act.put, List.setIfInBounds_toArray, List.set_cons_zero, List.set_cons_succ, Nat.zero_add, Nat.reduceAdd] at hfr
        subst hfr
        have e22 : u 22 = .bool false := Have.get (k := 22) hn rfl
        simp only [e22] at hK
        have HK := Lib.hid hK
        clear hK hn
        go_simp
        have h9 := HK.out
        revert h9
        clear HK
        go_simp
        try exact id
      refine Steps.cons ?_ ?_
      · refine FreeStep.val [] _ rfl rfl fun u β W hW hn fr hfr K hK => ?_
        simp only [frameL, putL, Act.put, List.setIfInBounds_toArray, List.set_cons_zero, List.set_cons_succ, Nat.zero_add, Nat.reduceAdd] at hfr
        subst hfr
        have e23 : u 23 = .bool false := Have.get (k := 23) hn rfl
        simp only [e23] at hK
        have HK := Lib.hid hK
        clear hK hn
        go_simp
        have h9 := HK.out
        revert h9
        clear HK
        go_simp
        try exact id
      refine Steps.cons ?_ ?_
      · refine FreeStep.val [] _ rfl rfl fun u β W hW hn fr hfr K hK => ?_
        simp only [frameL, putL, Act.put, List.setIfInBounds_toArray, List.set_cons_zero, List.set_cons_succ, Nat.zero_add, Nat.reduceAdd] at hfr
        subst hfr
        have e24 : u 24 = .slice Ap s.size cp := Have.get (k := 24) hn rfl
        have e23 : u 23 = .bool false := Have.get (k := 23) hn rfl
        simp only [e24, e23] at hK
        have HK := Lib.hid hK
        clear hK hn
        go_simp
        have h9 := HK.out
        revert h9
        clear HK
        go_simp
        try exact id
      refine Steps.cons ?_ ?_
      · refine FreeStep.val [] _ rfl rfl fun u β W hW hn fr hfr K hK => ?_
        simp only [frameL, putL, Act.put, List.setIfInBounds_toArray, List.set_cons_zero, List.set_cons_succ, Nat.zero_add, Nat.reduceAdd] at hfr
        subst hfr
        have e23 : u 23 = .bool false := Have.get (k := 23) hn rfl
        simp only [e23] at hK
        have HK := Lib.hid hK
        clear hK hn
        go_simp
        have h9 := HK.out
        revert h9
        clear HK
        go_simp
        try exact id
      refine Steps.cons ?_ ?_
      · refine FreeStep.val [] _ rfl rfl fun u β W hW hn fr hfr K hK => ?_
        simp only [frameL, putL, Act.put, List.setIfInBounds_toArray, List.set_cons_zero, List.set_cons_succ, Nat.zero_add, Nat.reduceAdd] at hfr
        subst hfr
        have e26 : u 26 = .string s := Have.get (k := 26) hn rfl
        have e23 : u 23 = .bool false := Have.get (k := 23) hn rfl
        simp only [e26, e23] at hK
        have HK := Lib.hid hK
        clear hK hn
        go_simp
        have h9 := HK.out
        revert h9
        clear HK
        go_simp
        try exact id
      refine Steps.cons ?_ ?_
      · refine FreeStep.val [] _ rfl rfl fun u β W hW hn fr hfr K hK => ?_
        simp only [frameL, putL, Act.put, List.setIfInBounds_toArray, List.set_cons_zero, List.set_cons_succ, Nat.zero_add, Nat.reduceAdd] at hfr
        subst hfr
        have e25 : u 25 = .int .i64 (s.size : Int) := Have.get (k := 25) hn rfl
        have e27 : u 27 = .int .i64 (s.size : Int) := Have.get (k := 27) hn rfl
        have e23 : u 23 = .bool false := Have.get (k := 23) hn rfl
        simp only [e25, e27, e23] at hK
        have HK := Lib.hid hK
        clear hK hn
        go_simp
        have h9 := HK.out
        revert h9
        clear HK
        go_simp
        try exact id
      refine Steps.cons ?_ ?_
      · refine FreeStep.val [] _ rfl rfl fun u β W hW hn fr hfr K hK => ?_
        simp only [frameL, putL, Act.put, List.setIfInBounds_toArray, List.set_cons_zero, List.set_cons_succ, Nat.zero_add, Nat.reduceAdd] at hfr
        subst hfr
        have e23 : u 23 = .bool false := Have.get (k := 23) hn rfl
        have e28 : u 28 = .bool false := Have.get (k := 28) hn rfl
        simp only [e23, e28] at hK
        have HK := Lib.hid hK
        clear hK hn
        go_simp
        have h9 := HK.out
        revert h9
        clear HK
        go_simp
        try exact id
      refine Steps.cons ?_ ?_
      · refine FreeStep.val [] _ rfl rfl fun u β W hW hn fr hfr K hK => ?_
        simp only [frameL, putL, Act.put, List.setIfInBounds_toArray, List.set_cons_zero, List.set_cons_succ, Nat.zero_add, Nat.reduceAdd] at hfr
        subst hfr
        have e29 : u 29 = .bool false := Have.get (k := 29) hn rfl
        simp only [e29] at hK
        have HK := Lib.hid hK
        clear hK hn
        go_simp
        have h9 := HK.out
        revert h9
        clear HK
        go_simp
        try exact id
      refine Steps.cons ?_ ?_
      · refine FreeStep.val [] _ rfl rfl fun u β W hW hn fr hfr K hK => ?_
        simp only [frameL, putL, Act.put, List.setIfInBounds_toArray, List.set_cons_zero, List.set_cons_succ, Nat.zero_add, Nat.reduceAdd] at hfr
        subst hfr
        have e30 : u 30 = .bool false := Have.get (k := 30) hn rfl
        simp only [e30] at hK
        have HK := Lib.hid hK
        clear hK hn
        go_simp
        have h9 := HK.out
        revert h9
        clear HK
        go_simp
        try exact id
      refine Steps.cons ?_ ?_
      · refine FreeStep.val [] _ rfl rfl fun u β W hW hn fr hfr K hK => ?_
        simp only [frameL, putL, Act.put, List.setIfInBounds_toArray, List.set_cons_zero, List.set_cons_succ, Nat.zero_add, Nat.reduceAdd] at hfr
        subst hfr
        have e31 : u 31 = .slice Aq x.size cq := Have.get (k := 31) hn rfl
        have e30 : u 30 = .bool false := Have.get (k := 30) hn rfl
        simp only [e31, e30] at hK
        have HK := Lib.hid hK
        clear hK hn
        go_simp
        have h9 := HK.out
        revert h9
        clear HK
        go_simp
        try exact id
      refine Steps.cons ?_ ?_
      · refine FreeStep.val [] _ rfl rfl fun u β W hW hn fr hfr K hK => ?_
        simp only [frameL, putL, Act.put, List.setIfInBounds_toArray, List.set_cons_zero, List.set_cons_succ, Nat.zero_add, Nat.reduceAdd] at hfr
        subst hfr
        have e30 : u 30 = .bool false := Have.get (k := 30) hn rfl
        simp only [e30] at hK
        have HK := Lib.hid hK
        clear hK hn
        go_simp
        have h9 := HK.out
        revert h9
        clear HK
        go_simp
        try exact id
      refine Steps.cons ?_ ?_
      · refine FreeStep.val [] _ rfl rfl fun u β W hW hn fr hfr K hK => ?_
        simp only [frameL, putL, Act.put, List.setIfInBounds_toArray, List.set_cons_zero, List.set_cons_succ, Nat.zero_add, Nat.reduceAdd] at hfr
        subst hfr
        have e33 : u 33 = .string x := Have.get (k := 33) hn rfl
        have e30 : u 30 = .bool false := Have.get (k := 30) hn rfl
        simp only [e33, e30] at hK
        have HK := Lib.hid hK
        clear hK hn
        go_simp
        have h9 := HK.out
        revert h9
        clear HK
        go_simp
        try exact id
      refine Steps.cons ?_ ?_
      · refine FreeStep.val [] _ rfl rfl fun u β W hW hn fr hfr K hK => ?_
        simp only [frameL, putL, Act.put, List.setIfInBounds_toArray, List.set_cons_zero, List.set_cons_succ, Nat.zero_add, Nat.reduceAdd] at hfr
        subst hfr
        have e32 : u 32 = .int .i64 (x.size : Int) := Have.get (k := 32) hn rfl
        have e34 : u 34 = .int .i64 (x.size : Int) := Have.get (k := 34) hn rfl
        have e30 : u 30 = .bool false := Have.get (k := 30) hn rfl
        simp only [e32, e34, e30] at hK
        have HK := Lib.hid hK
        clear hK hn
        go_simp
        have h9 := HK.out
        revert h9
        clear HK
        go_simp
        try exact id
      refine Steps.cons ?_ ?_
      · refine FreeStep.val [] _ rfl rfl fun u β W hW hn fr hfr K hK => ?_
        simp only [frameL, putL, Act.put, List.setIfInBounds_toArray, List.set_cons_zero, List.set_cons_succ, Nat.zero_add, Nat.reduceAdd] at hfr
        subst hfr
        have e30 : u 30 = .bool false := Have.get (k := 30) hn rfl
        have e35 : u 35 = .bool false := Have.get (k := 35) hn rfl
        simp only [e30, e35] at hK
        have HK := Lib.hid hK
        clear hK hn
        go_simp
        have h9 := HK.out
        revert h9
        clear HK
        go_simp
        try exact id
      exact Steps.nil
    case tail =>
      intro u_ β W hW hn hdis hbnd
      have z0 : u_ 0 = .int .i64 0 := Have.get (k := 0) hn rfl
      have z1 : u_ 1 = .bool false := Have.get (k := 1) hn rfl
      have z2 : u_ 2 = .bool false := Have.get (k := 2) hn rfl
      have z3 : u_ 3 = .int .i64 0 := Have.get (k := 3) hn rfl
      have z4 : u_ 4 = .bool false := Have.get (k := 4) hn rfl
      have z5 : u_ 5 = .bool false := Have.get (k := 5) hn rfl
      have z6 : u_ 6 = .bool false := Have.get (k := 6) hn rfl
      have z7 : u_ 7 = .int .i64 0 := Have.get (k := 7) hn rfl
      have z8 : u_ 8 = .bool false := Have.get (k := 8) hn rfl
      have z9 : u_ 9 = .bool false := Have.get (k := 9) hn rfl
      have z10 : u_ 10 = .bool false := Have.get (k := 10) hn rfl
      have z11 : u_ 11 = .string x := Have.get (k := 11) hn rfl
      have z12 : u_ 12 = .string s := Have.get (k := 12) hn rfl
      have z13 : u_ 13 = .int .i64 (i : Int) := Have.get (k := 13) hn rfl
      have z14 : u_ 14 = .string (s.extract 0 i) := Have.get (k := 14) hn rfl
      have z15 : u_ 15 = .string yu := Have.get (k := 15) hn rfl
      have z16 : u_ 16 = .string (s.extract 0 i ++ yu) := Have.get (k := 16) hn rfl
      have z17 : u_ 17 = .string s := Have.get (k := 17) hn rfl
      have z18 : u_ 18 = .int .i64 (i : Int) := Have.get (k := 18) hn rfl
      have z19 : u_ 19 = .string (s.extract i s.size) := Have.get (k := 19) hn rfl
      have z20 : u_ 20 = .string x := Have.get (k := 20) hn rfl
      have z21 : u_ 21 = .bool false := Have.get (k := 21) hn rfl
      have z22 : u_ 22 = .bool false := Have.get (k := 22) hn rfl
      have z23 : u_ 23 = .bool false := Have.get (k := 23) hn rfl
      have z24 : u_ 24 = .slice Ap s.size cp := Have.get (k := 24) hn rfl
      have z25 : u_ 25 = .int .i64 (s.size : Int) := Have.get (k := 25) hn rfl
      have z26 : u_ 26 = .string s := Have.get (k := 26) hn rfl
      have z27 : u_ 27 = .int .i64 (s.size : Int) := Have.get (k := 27) hn rfl
      have z28 : u_ 28 = .bool false := Have.get (k := 28) hn rfl
      have z29 : u_ 29 = .bool false := Have.get (k := 29) hn rfl
      have z30 : u_ 30 = .bool false := Have.get (k := 30) hn rfl
      have z31 : u_ 31 = .slice Aq x.size cq := Have.get (k := 31) hn rfl
      have z32 : u_ 32 = .int .i64 (x.size : Int) := Have.get (k := 32) hn rfl
      have z33 : u_ 33 = .string x := Have.get (k := 33) hn rfl
      have z34 : u_ 34 = .int .i64 (x.size : Int) := Have.get (k := 34) hn rfl
      have z35 : u_ 35 = .bool false := Have.get (k := 35) hn rfl
      have z36 : u_ 36 = .bool false := Have.get (k := 36) hn rfl
      rw [← frameL_eq (by kernel_rfl)]
      clear hn hdis hbnd
      simp only [frameL, putL, Act.put, List.setIfInBounds_toArray, List.set_cons_zero, List.set_cons_succ, Nat.zero_add, Nat.reduceAdd, z0, z1, z2, z3, z4, z5, z6, z7, z8, z9, z10, z11, z12, z13, z14, z15, z16, z17, z18, z19, z20, z21, z22, z23, z24, z25, z26, z27, z28, z29, z30, z31, z32, z33, z34, z35, z36]
      clear z0 z1 z2 z3 z4 z5 z6 z7 z8 z9 z10 z11 z12 z13 z14 z15 z16 z17 z18 z19 z20 z21 z22 z23 z24 z25 z26 z27 z28 z29 z30 z31 z32 z33 z34 z35 z36
      have HBw := Lib.hid (And.intro (HB.out.1.trans (hW.mono HB.out.1.size)) (And.intro (row_below HB.out.2.1 hW) (row_below HB.out.2.2 hW)))
      clear hW HB hsl1 hsl2 g1 g2 g3 hxe
      go_wp2_with fail
      refine (HP.out.cut _).mono ?_
      rintro e w6 ⟨rfl, hb6⟩
      have HB := Lib.hid (And.intro (HBw.out.1.trans (hb6.mono HBw.out.1.size)) (And.intro (row_below HBw.out.2.1 hb6) (row_below HBw.out.2.2 hb6)))
      clear hb6 HBw
      go_wp2_with fail
      go_loopw [17] (fun j wr => ∃ k : Nat, k ≤ s.size ∧ j = .int .i64 (k : Int) ∧ Below w6.heap.size w6 wr) (fun j _ => s.size - (intOf j).toNat)
      case atStart => exact ⟨0, Nat.zero_le _, rfl, Below.refl _ _⟩
      case round =>
        obtain ⟨k, hk, rfl, hBk⟩ := hrel
        by_cases hlt : k < s.size
        · obtain ⟨p, hp⟩ : ∃ p, (prts (ksOf s.data.toList))[k]? = some p := ⟨_, List.getElem?_eq_getElem (by rw [prts_len]; simp [ksOf]; omega)⟩
          have hkx : k < x.size := by have := HP.out.x_size; omega
          obtain ⟨gp, rfl⟩ : ∃ g, Ap = some ⟨g, 0, none⟩ := by
            rcases HB.out.2.1.2 with ⟨_, h1⟩ | ⟨g, cap, cur, hv, _⟩
            · omega
            · simp only [Value.slice.injEq] at hv
              exact ⟨g, hv.1⟩
          obtain ⟨gq, rfl⟩ : ∃ g, Aq = some ⟨g, 0, none⟩ := by
            rcases HB.out.2.2.2 with ⟨_, h1⟩ | ⟨g, cap, cur, hv, _⟩
            · omega
            · simp only [Value.slice.injEq] at hv
              exact ⟨g, hv.1⟩
          have cp_ := nums_cell (row_below HB.out.2.1 hBk) k p hp
          have cq_ := nums_cell (row_below HB.out.2.2 hBk) (shK i yu.size k) _ (HP.out.link k p hp)
          obtain ⟨p1, p2⟩ : -2 ≤ p ∧ p ≤ 60 := by
            obtain ⟨y, hy⟩ : ∃ y, (ksOf s.data.toList)[k]? = some y := ⟨_, List.getElem?_eq_getElem (by simp [ksOf]; omega)⟩
            have hsl : (ksOf s.data.toList).length = s.size := by simp [ksOf]
            rcases prts_cases _ hy with ⟨rfl, h1⟩ | ⟨rfl, h1⟩ | ⟨_, _, h2⟩
            · rcases h1 with ⟨b, hb⟩ | ⟨h2, _⟩
              · have e := hb.at_call
                have hbl := (List.getElem?_eq_some_iff.1 hb.ret).1
                rw [hp] at e
                have := Option.some.inj e
                omega
              · rw [hp] at h2; have := Option.some.inj h2; omega
            · rcases h1 with ⟨b, hb⟩ | ⟨h2, _⟩
              · have e := hb.at_ret
                have hbl := hb.lt
                rw [hp] at e
                have := Option.some.inj e
                omega
              · rw [hp] at h2; have := Option.some.inj h2; omega
            · rw [hp] at h2; have := Option.some.inj h2; omega
          have HBk := Lib.hid hBk
          clear hp hBk
          unfold shK at cq_
          have hwp : IntKind.i64.wrap (p + (yu.size : Int)) = p + (yu.size : Int) := wrap_p (by omega)
          by_cases hki : k < i
          · have b1 : decide ((i : Int) ≤ (k : Int)) = false := decide_eq_false (by omega)
            rw [if_pos hki] at cq_
            by_cases hpi : (i : Int) ≤ p
            · have b2 : decide ((i : Int) ≤ p) = true := decide_eq_true hpi
              rw [if_pos hpi] at cq_
              go_wp2
              go_roundw
              case rel => exact ⟨k + 1, by omega, by go_num, HBk.out⟩
              case measure => simp [intOf]; omega
            · have b2 : decide ((i : Int) ≤ p) = false := decide_eq_false hpi
              rw [if_neg hpi] at cq_
              go_wp2
              go_roundw
              case rel => exact ⟨k + 1, by omega, by go_num, HBk.out⟩
              case measure => simp [intOf]; omega
          · have b1 : decide ((i : Int) ≤ (k : Int)) = true := decide_eq_true (by omega)
            have hwk : IntKind.i64.wrap ((k : Int) + (yu.size : Int)) = ((k + yu.size : Nat) : Int) := by rw [wrap_p (by omega)]; omega
            have hkx2 : k + yu.size < x.size := by have := HP.out.x_size; omega
            rw [if_neg hki] at cq_
            by_cases hpi : (i : Int) ≤ p
            · have b2 : decide ((i : Int) ≤ p) = true := decide_eq_true hpi
              rw [if_pos hpi] at cq_
              go_wp2
              go_roundw
              case rel => exact ⟨k + 1, by omega, by go_num, HBk.out⟩
              case measure => simp [intOf]; omega
            · have b2 : decide ((i : Int) ≤ p) = false := decide_eq_false hpi
              rw [if_neg hpi] at cq_
              go_wp2
              go_roundw
              case rel => exact ⟨k + 1, by omega, by go_num, HBk.out⟩
              case measure => simp [intOf]; omega
        · obtain rfl : k = s.size := by omega
          have HBf := Lib.hid (HB.out.1.trans (hBk.mono HB.out.1.size))
          clear hBk HB
          have hrs := HP.out.r_size
          have hrq := HP.out.rq
          have hsl3 : ∀ W : World, (Instr.slice 9 (.string r) (some (.int .i64 (R : Int))) (some (.int .i64 ((R : Int) + (s.size : Int)))) none).run Try.prog W = .ok (.string s) W := fun W => by
            have := slice_cut r R (R + s.size) (by omega) (by omega) W
            rwa [HP.out.r_mid, show ((R + s.size : Nat) : Int) = (R : Int) + (s.size : Int) from by omega] at this
          have hwr : IntKind.i64.wrap ((R : Int) + (s.size : Int)) = (R : Int) + (s.size : Int) := wrap_p (by omega)
          have hwr1 : IntKind.i64.wrap ((s.size : Int) + (R : Int)) = (s.size : Int) + (R : Int) := wrap_p (by omega)
          have hwr2 : IntKind.i64.wrap ((s.size : Int) + (R : Int) + (Q : Int)) = (s.size : Int) + (R : Int) + (Q : Int) := wrap_p (by omega)
          have hre : (r.size : Int) = (s.size : Int) + (R : Int) + (Q : Int) := by omega
          clear hrs
          have g5 : (s ++ yu).size ≤ 120 := by rw [ByteArray.size_append]; omega
          go_wp2_with fail
          refine (HP.out.comp _).mono ?_
          rintro e v1 ⟨rfl, hc1⟩
          go_wp2_with fail
          refine (HP.out.good _).mono ?_
          rintro e v2 ⟨rfl, hc2⟩
          go_wp2_with fail
          refine (HP.out.pend _).mono ?_
          rintro e v3 ⟨rfl, hc3⟩
          go_wp2_with fail
          refine (HP.out.join _).mono ?_
          rintro e v4 ⟨rfl, hc4⟩
          go_wp2_with fail
          refine (HP.out.bad _).mono ?_
          rintro e v5 ⟨rfl, hc5⟩
          have y0 := HBf.out.size
          have y1 := hc1.size
          have y2 := hc2.size
          have y3 := hc3.size
          have y4 := hc4.size
          have HE := Lib.hid (HBf.out.trans ((hc1.trans ((hc2.trans ((hc3.trans ((hc4.trans (hc5.mono y4)).mono y3)).mono y2)).mono y1)).mono y0))
          clear hc1 hc2 hc3 hc4 hc5 HBf
          go_wp2
          go_ret
          exact ⟨by simp, HE.out⟩
end Go.Proofs.Ytnclhgaikglbgaa
