/- RankMatched of the model, and both sides. -/
import Derived.Test.YtjelmiladekfjaaRankI
import Derived.Test.YtjelmiladekfjaaRankS0
import Derived.BigQuiet
import Derived.Deep.QuietTactic
namespace Go.Proofs.Ytjelmiladekfjaa
open Go.RowKit
set_option linter.unusedVariables false

theorem sym_byN {b : UInt8} (h : 0 ≤ symNo (b.toNat : Int)) {x : Nat} (e : (x : Int) = symNo (b.toNat : Int)) : b = byN x := by
  have h5 := symNo_le (b.toNat : Int)
  unfold symNo at h e h5
  have f (k : UInt8) (e : (b.toNat : Int) = k.toNat) : b = k := UInt8.toNat_inj.1 (by omega)
  by_cases h0 : (b.toNat : Int) = 40
  · rw [if_pos h0] at e; obtain rfl : x = 0 := by omega
    exact f 40 h0
  rw [if_neg h0] at h e
  by_cases h1 : (b.toNat : Int) = 91
  · rw [if_pos h1] at e; obtain rfl : x = 1 := by omega
    exact f 91 h1
  rw [if_neg h1] at h e
  by_cases h2 : (b.toNat : Int) = 41
  · rw [if_pos h2] at e; obtain rfl : x = 2 := by omega
    exact f 41 h2
  rw [if_neg h2] at h e
  by_cases h3 : (b.toNat : Int) = 93
  · rw [if_pos h3] at e; obtain rfl : x = 3 := by omega
    exact f 93 h3
  rw [if_neg h3] at h e
  by_cases h4 : (b.toNat : Int) = 97
  · rw [if_pos h4] at e; obtain rfl : x = 4 := by omega
    exact f 97 h4
  rw [if_neg h4] at h e
  by_cases h6 : (b.toNat : Int) = 98
  · rw [if_pos h6] at e; obtain rfl : x = 5 := by omega
    exact f 98 h6
  rw [if_neg h6] at h
  omega
theorem byN_inj {x y : Nat} (hx : x ≤ 5) (hy : y ≤ 5) (h : (byN x).toNat = (byN y).toNat) : x = y := by
  have h1 := byN_sym hx
  have h2 := byN_sym hy
  rw [h] at h1
  omega
theorem symT_at {x : Nat} (h : x < 6) : (({ data := #[40, 91, 41, 93, 97, 98] } : ByteArray)[x]'h).toNat = (byN x).toNat := by
  obtain rfl | rfl | rfl | rfl | rfl | rfl : x = 0 ∨ x = 1 ∨ x = 2 ∨ x = 3 ∨ x = 4 ∨ x = 5 := by omega
  all_goals rfl

set_option maxHeartbeats 6400000 in
set_option maxRecDepth 100000 in
theorem spec_Rank_yes (s : ByteArray) (w : World) (h : IsW s) (h20 : s.size ≤ 20) (hm : cR s.data.toList (prts (ksOf s.data.toList)) s.size + cC s.data.toList (prts (ksOf s.data.toList)) s.size = 0) :
    Calls Try.prog 10 #[.string s] w (TupPost (.tuple #[.int .i64 (rk s.data.toList s.size : Int), .int .i64 0]) w) := by
  have hmt := fun w => spec_matched s w h
  rw [decide_eq_true hm] at hmt
  have hall := h.2
  have hok0 := fun w => spec_ok_yes s w h
  have hw := fun w => spec_ways s.size w h20
  obtain ⟨l, hl⟩ : ∃ l, l = s.data.toList := ⟨_, rfl⟩
  have hlen : l.length = s.size := by rw [hl]; simp
  have hsat : ∀ (k : Nat) (hk : k < s.size), l[k]? = some s[k] := fun k hk => by rw [hl, List.getElem?_eq_getElem (by simpa using hk)]; rfl
  rw [← hl] at hall hm ⊢
  have hnone := matched_none hall hlen.symm hm
  have Hm := Lib.hid hmt
  have Hok := Lib.hid hok0
  have Hw := Lib.hid hw
  have Hlen := Lib.hid hlen
  have Hall := Lib.hid hall
  have Hno := Lib.hid hnone
  have Hsat := Lib.hid hsat
  have d20 : decide (20 < (s.size : Int)) = false := decide_eq_false (by omega)
  clear h hmt hok0 hw hl hlen hall hm hnone hsat
  go_enter Try.func10, Try.ntmps10
  go_upto_region 8 with (first
    | (go_at_call 29; refine (Hok.out _).mono ?_; rintro e w1 ⟨rfl, rfl⟩)
    | (go_at_call 30; refine (Hm.out _).mono ?_; rintro e w2 ⟨rfl, hb2⟩)
    | (go_at_call 27; refine (Hw.out _).mono ?_; rintro e w3 ⟨v, bs, rfl, hE, hb3⟩))
  have hB := hb2.trans (hb3.mono hb2.size)
  obtain ⟨Ao, ko, rfl⟩ := ManyE.slice hE
  rw [wRows_len]
  rw [wRows_len] at hE
  have HT := Lib.hid (And.intro hE hB)
  clear hb2 hb3 hE hB
  go_wp2_with fail
  go_loopw [5, 6, 7] (fun r o i wr => ∃ (k m : Nat), k ≤ s.size ∧ i = .int .i64 k ∧ r = .int .i64 (rk l k : Int) ∧ o = .int .i64 (dq (ksOf l) k : Int) ∧ wr = w3.drewN m) (fun _ _ i _ => s.size - (intOf i).toNat)
  case atStart => exact ⟨0, 0, Nat.zero_le _, rfl, rfl, rfl, rfl⟩
  case round =>
    obtain ⟨k, m, hk, rfl, rfl, rfl, rfl⟩ := hrel
    by_cases hlt : k < s.size
    · have hlb := Hsat.out k hlt
      have hsb := Hall.out _ (List.mem_of_getElem? hlb)
      obtain ⟨e1, e2⟩ := syN_of hlb hsb
      obtain ⟨hdq, hok⟩ := dq_dn Hall.out Hno.out hlb
      have hdk := dq_le (ksOf l) k
      have hdk1 := dq_le (ksOf l) (k + 1)
      have hrk := rk_le (by rw [Hlen.out]; exact h20) Hall.out k (by rw [Hlen.out]; exact hk)
      have hrk1 : rk l (k + 1) = rk l k + cbs (s.size - 1 - k) (dq (ksOf l) k) (syN l k) := by rw [rk, Hlen.out]
      have hby := sym_byN hsb e1
      obtain ⟨S, hS⟩ : ∃ S, S = syN l k := ⟨_, rfl⟩
      rw [← hS] at hdq hok e2 hrk1 hby
      obtain ⟨d, hd⟩ : ∃ d, d = dq (ksOf l) k := ⟨_, rfl⟩
      rw [← hd] at hdq hok hdk hrk1 ⊢
      obtain ⟨R, hR⟩ : ∃ R, R = rk l k := ⟨_, rfl⟩
      rw [← hR] at hrk hrk1 ⊢
      have hdeep : nextB (d : Int) ((byN S).toNat : Int) = (dn d S : Int) := by
        rcases next_cb (n := 0) (d := d) e2 with ⟨h1, _⟩ | ⟨e, h1, _, h3, _⟩
        · exfalso
          obtain rfl | rfl | rfl | rfl | rfl | rfl : S = 0 ∨ S = 1 ∨ S = 2 ∨ S = 3 ∨ S = 4 ∨ S = 5 := by omega
          all_goals simp [nextB, byN, byteOf, callB, retB] at h1
          all_goals omega
        · rw [h1, h3]
      have HK := Lib.hid (And.intro hdq (And.intro hrk1 hdeep))
      have hdn : dn d S ≤ 21 := by omega
      have hbn : s[k].toNat = (byN S).toNat := by rw [hby]
      clear hlb hsb e1 hS hd hR hdq hok hrk1 hdeep hby
      have hkd : k < s.data.size := hlt
      go_wp2_with fail
      go_loopw [5, 8] (fun r x wr => ∃ (j m : Nat), j ≤ S ∧ x = .int .i64 (j : Int) ∧ r = .int .i64 ((R : Int) + (cbs (s.size - 1 - k) d j : Int)) ∧ wr = w3.drewN m) (fun _ x _ => S - (intOf x).toNat)
      case atStart => exact ⟨0, m, Nat.zero_le _, rfl, by simp [cbs], rfl⟩
      case round =>
        obtain ⟨j, m, hj, rfl, rfl, rfl⟩ := hrel
        have hj6 : j < 6 := by omega
        have hx := symT_at hj6
        by_cases hjt : j < S
        · have hcmp : (((byN j).toNat : Int) != ((byN S).toNat : Int)) = true := by
            rw [bne_iff_ne]
            intro e
            have := byN_inj (by omega) e2 (Int.ofNat.inj e)
            omega
          have hnx := next_cb (n := s.size - 1 - k) (d := d) (x := j) (by omega)
          have Hc : Hid (cbs (s.size - 1 - k) d (j + 1) = cbs (s.size - 1 - k) d j + cb (s.size - 1 - k) d j) := rfl
          have t1 := cbs_top (n := s.size - 1 - k) (by omega) d (s := j) (by omega)
          have t2 := cb_top (n := s.size - 1 - k) (by omega) d j
          have hd100 : -10 ≤ (d : Int) ∧ (d : Int) ≤ 100 := by omega
          have Hx := Lib.hid hx
          go_wp2_with fail
          go_quiet (fail)
          clear hcmp
          rcases hnx with ⟨hneg, hcb0⟩ | ⟨e, hne, hcbe, rfl, hed⟩
          · go_wp2_with (go_at_call 31; refine (spec_next _ _ _ hd100).mono ?_; rintro e w' ⟨rfl, rfl⟩)
            go_roundw
            case rel => exact ⟨j + 1, m + nq, by omega, by go_num, by rw [Hc.out, hcb0, Nat.add_zero], by first | rfl | rw [World.drewN_drewN]⟩
            case measure => simp [intOf]; omega
          · have hE2 := (ints2_ok _).drewN HT.out.1 (m + nq)
            obtain ⟨go, ko2, gq, kq, hv, hc1, hc2⟩ := ways_cell hE2 (show s.size - 1 - k ≤ s.size by omega) (show dn d j ≤ s.size + 1 by omega)
            simp only [Value.slice.injEq] at hv
            obtain ⟨rfl, hz1_, rfl⟩ := hv
            clear hz1_
            have hw1 : IntKind.i64.wrap ((s.size : Int) - (k : Int)) = ((s.size - k : Nat) : Int) := by rw [wrap_rank (by omega)]; omega
            have hw2 : IntKind.i64.wrap (((s.size - k : Nat) : Int) - 1) = ((s.size - 1 - k : Nat) : Int) := by rw [wrap_rank (by omega)]; omega
            have hsz : s.size - 1 - k < s.size + 1 := by omega
            clear hE2
            go_wp2_with (go_at_call 31; refine (spec_next _ _ _ hd100).mono ?_; rintro e w' ⟨rfl, rfl⟩; rw [hne])
            go_roundw
            case rel => exact ⟨j + 1, m + nq, by omega, by go_num, by rw [Hc.out, hcbe]; first | rfl | (simp; omega), by first | rfl | rw [World.drewN_drewN]⟩
            case measure => simp [intOf]; omega
        · obtain rfl : j = S := by omega
          have hd100 : -10 ≤ (d : Int) ∧ (d : Int) ≤ 100 := by omega
          go_wp2_with fail
          go_quiet (fail)
          go_wp2_with (go_at_call 31; refine (spec_next _ _ _ hd100).mono ?_; rintro e w' ⟨rfl, rfl⟩; rw [HK.out.2.2])
          go_roundw
          case rel => exact ⟨k + 1, m + nq, by omega, by go_num, by rw [HK.out.2.1]; simp, by rw [HK.out.1], by first | rfl | rw [World.drewN_drewN]⟩
          case measure => simp [intOf]; omega
    · obtain rfl : k = s.size := by omega
      go_wp2
      go_ret2
      exact ⟨rfl, below_drewN HT.out.2 _⟩

theorem spec_Rank_bad (s : ByteArray) (w : World) (hs : s.size ≤ 1048576) (h : ¬ IsW s) : Calls Try.prog 10 #[.string s] w (TupPost (.tuple #[.int .i64 0, .int .i64 1]) w) := by
  have H := Lib.hid h
  clear h
  go_enter Try.func10, Try.ntmps10
  go_wp2_with (go_at_call 29; refine (spec_ok_no _ _ hs H.out).mono ?_; rintro e w' ⟨rfl, rfl⟩)
  go_ret2
  exact ⟨rfl, Below.refl _ _⟩
theorem spec_Rank_long (s : ByteArray) (w : World) (h : IsW s) (h20 : 20 < s.size) : Calls Try.prog 10 #[.string s] w (TupPost (.tuple #[.int .i64 0, .int .i64 3]) w) := by
  have H := Lib.hid h
  have h60 := h.1
  clear h
  go_enter Try.func10, Try.ntmps10
  go_wp2_with (go_at_call 29; refine (spec_ok_yes _ _ H.out).mono ?_; rintro e w' ⟨rfl, rfl⟩)
  go_ret2
  exact ⟨rfl, Below.refl _ _⟩
theorem spec_Rank_open (s : ByteArray) (w : World) (h : IsW s) (h20 : s.size ≤ 20) (hm : ¬ (cR s.data.toList (prts (ksOf s.data.toList)) s.size + cC s.data.toList (prts (ksOf s.data.toList)) s.size = 0)) : Calls Try.prog 10 #[.string s] w (TupPost (.tuple #[.int .i64 0, .int .i64 4]) w) := by
  have hmt := fun w => spec_matched s w h
  rw [decide_eq_false hm] at hmt
  have Hm := Lib.hid hmt
  have H := Lib.hid h
  clear h hmt hm
  go_enter Try.func10, Try.ntmps10
  go_wp2_with (first
    | (go_at_call 29; refine (spec_ok_yes _ _ H.out).mono ?_; rintro e w' ⟨rfl, rfl⟩)
    | (go_at_call 30; refine (Hm.out _).mono ?_; rintro e w2 ⟨rfl, hb2⟩))
  go_ret2
  exact ⟨rfl, hb2⟩
theorem impl_Rank_bad (s : ByteArray) (w : World) (hs : s.size ≤ 1048576) (h : ¬ IsW s) : Calls Try.prog 11 #[.string s] w (TupPost (.tuple #[.int .i64 0, .int .i64 1]) w) := by
  have H := Lib.hid h
  clear h
  go_enter Try.func11, Try.ntmps11
  go_wp2_with (go_at_call 32; refine (impl_read_no _ _ hs H.out).mono ?_; rintro e w1 ⟨rfl, hb⟩)
  go_ret2
  exact ⟨rfl, hb.alloc hb.size _⟩
theorem impl_Rank_long (s : ByteArray) (w : World) (h : IsW s) (h20 : 20 < s.size) : Calls Try.prog 11 #[.string s] w (TupPost (.tuple #[.int .i64 0, .int .i64 3]) w) := by
  have hp := fun w => impl_read_yes s w h.1 h.2
  have Hp := Lib.hid hp
  have h60 := h.1
  clear h hp
  go_enter Try.func11, Try.ntmps11
  go_wp2_with (go_at_call 32; refine (Hp.out _).mono ?_; rintro e w1 ⟨M, rfl, hsy, hps, hb⟩)
  go_ret2
  exact ⟨rfl, hb.alloc hb.size _⟩
theorem impl_Rank_open (s : ByteArray) (w : World) (h : IsW s) (h20 : s.size ≤ 20) (hm : ¬ (cR s.data.toList (prts (ksOf s.data.toList)) s.size + cC s.data.toList (prts (ksOf s.data.toList)) s.size = 0)) : Calls Try.prog 11 #[.string s] w (TupPost (.tuple #[.int .i64 0, .int .i64 4]) w) := by
  have hp := fun w => impl_read_yes s w h.1 h.2
  have hmt := fun (w w1 : World) (M : Nat) hsy hps (w2 : World) hb => matched_read (w := w) (w1 := w1) (M := M) h hsy hps (w2 := w2) hb
  rw [decide_eq_false hm] at hmt
  have Hp := Lib.hid hp
  have Hm := Lib.hid hmt
  clear h hp hmt hm
  go_enter Try.func11, Try.ntmps11
  go_wp2_with (first
    | (go_at_call 32; refine (Hp.out _).mono ?_; rintro e w1 ⟨M, rfl, hsy, hps, hb⟩)
    | (go_at_call 33; refine (Hm.out _ _ _ hsy hps _ ((Below.refl _ _).alloc (Nat.le_refl _) _)).mono ?_; rintro e w2 ⟨rfl, hb2⟩))
  go_ret2
  exact ⟨rfl, (hb.alloc hb.size _).trans (hb2.mono (by have := hb.size; simp; omega))⟩

theorem both_RankMatched (s : ByteArray) (hs : s.size ≤ 1048576) : ∃ (r0 r1 : Int),
    (∀ w, Calls Try.prog 10 #[.string s] w (TupPost (.tuple #[.int .i64 r0, .int .i64 r1]) w)) ∧ (∀ w, Calls Try.prog 11 #[.string s] w (TupPost (.tuple #[.int .i64 r0, .int .i64 r1]) w)) := by
  by_cases h : IsW s
  · by_cases h20 : s.size ≤ 20
    · by_cases hm : cR s.data.toList (prts (ksOf s.data.toList)) s.size + cC s.data.toList (prts (ksOf s.data.toList)) s.size = 0
      · exact ⟨_, _, fun w => spec_Rank_yes s w h h20 hm, fun w => impl_Rank_yes s w h h20 hm⟩
      · exact ⟨_, _, fun w => spec_Rank_open s w h h20 hm, fun w => impl_Rank_open s w h h20 hm⟩
    · exact ⟨_, _, fun w => spec_Rank_long s w h (by omega), fun w => impl_Rank_long s w h (by omega)⟩
  · exact ⟨_, _, fun w => spec_Rank_bad s w hs h, fun w => impl_Rank_bad s w hs h⟩
end Go.Proofs.Ytjelmiladekfjaa
