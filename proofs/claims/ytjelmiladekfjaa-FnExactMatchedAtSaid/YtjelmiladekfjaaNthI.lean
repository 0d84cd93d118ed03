/- MatchedAt of the program. -/
import Derived.Test.YtjelmiladekfjaaCountM
import Derived.Test.YtjelmiladekfjaaNthM
import Derived.Test.YtjelmiladekfjaaDeep
namespace Go.Proofs.Ytjelmiladekfjaa
open Go.RowKit
set_option linter.unusedVariables false

theorem wrap_nth {n : Int} (h : -1000 ≤ n ∧ n ≤ 4000000000000000000) : IntKind.i64.wrap n = n := by unfold IntKind.wrap IntKind.signed IntKind.bits; simp; omega
theorem deepT_dn' {d s : Nat} (hs : s ≤ 5) (h : s < 2 ∨ 4 ≤ s ∨ 1 ≤ d) : (d : Int) + deepT s = (dn d s : Int) := by
  obtain rfl | rfl | rfl | rfl | rfl | rfl : s = 0 ∨ s = 1 ∨ s = 2 ∨ s = 3 ∨ s = 4 ∨ s = 5 := by omega
  all_goals simp [deepT, dn]
  all_goals omega
/-- How far the text has come: what is done, and what is left. -/
structure NthAt (n k0 left d k : Nat) (done : List Nat) : Prop where
  le : left ≤ n
  len : done.length + left = n
  dl : d + left ≤ n
  kl : k < wy left d
  eq : nth n 0 k0 = done ++ nth left d k
theorem NthAt.start {n k : Nat} (h : k < wy n 0) : NthAt n k n 0 k [] := ⟨Nat.le_refl _, by simp, by simp, h, by simp⟩
theorem dn_le (d s : Nat) : dn d s ≤ d + 1 := by unfold dn; split <;> (try split) <;> omega
theorem NthAt.next {n k0 left d k x : Nat} {done : List Nat} (h : NthAt n k0 (left + 1) d k done) (hx : x ≤ 5) (h1 : cbs left d x ≤ k) (h2 : k - cbs left d x < cb left d x) : NthAt n k0 left (dn d x) (k - cbs left d x) (done ++ [x]) := by
  obtain ⟨a, b, c, e, f⟩ := h
  have := dn_le d x
  refine ⟨by omega, by simp; omega, by omega, by rw [← (cb_dn h2).1]; exact h2, ?_⟩
  rw [f, nth_hits hx h1 h2]
  simp

set_option maxHeartbeats 6400000 in
set_option maxRecDepth 100000 in
theorem impl_Nth_yes (n k0 : Nat) (w : World) (hn : n ≤ 20) (hk0 : k0 < wy n 0) :
    Calls Try.prog 13 #[.int .i64 (n : Int), .int .i64 (k0 : Int)] w (TupPost (.tuple #[.string (textN (nth n 0 k0)), .int .i64 0]) w) := by
  obtain ⟨hz, _⟩ := zero_of_info info_tab
  have Hs := Lib.hid tab_sizes
  obtain ⟨Z, hZ⟩ : ∃ Z : Array Value, Z = Array.replicate 462 (.int .i64 0) := ⟨_, rfl⟩
  rw [← hZ] at hz Hs
  clear hZ
  have Hstart := Lib.hid (NthAt.start hk0)
  go_enter Try.func13, Try.ntmps13
  go_upto_region 7 with (first
    | (go_at_call 9; refine (impl_Count_yes_ n _ hn).mono ?_; rintro e w1 ⟨rfl, hb1⟩)
    | (go_at_call 28; refine (impl_countEndings _).mono ?_; rintro e w3 ⟨rfl, hb3⟩)
    | (refine wpList_store_row rfl 50 _ _ rfl w3.heap.size (tabA 21 0 0) rfl rfl 50 Z (heap_alloc_last _ _) Hs.out.1 Hs.out.2 (tabA_one _ _ _) ?_))
  rw [World.setRow_alloc_new]
  have hb4 := (hb1.trans (hb3.mono hb1.size)).alloc (Nat.le_trans hb1.size hb3.size) (.cells (tabA 21 0 0) 50)
  have htab := tab_box w3
  obtain ⟨W, hW⟩ : ∃ W, W = w3.alloc (.cells (tabA 21 0 0) 50) := ⟨_, rfl⟩
  rw [← hW] at hb4 htab ⊢
  have HT := Lib.hid (And.intro htab hb4)
  clear hb1 hb3 hb4 hW htab hz
  have hwn : IntKind.i64.wrap ((n : Int) - 1) = (n : Int) - 1 := wrap_nth (by omega)
  go_wp2_with fail
  go_loop [1, 9, 10, 11] (fun k t o r => ∃ (left d kk : Nat) (done : List Nat), NthAt n k0 left d kk done ∧ r = .int .i64 ((left : Int) - 1) ∧ o = .int .i64 (d : Int) ∧ k = .int .i64 (kk : Int) ∧ t = .string (textN done)) (fun _ _ _ r => (intOf r + 1).toNat)
  case atStart => exact ⟨n, 0, k0, [], Hstart.out, rfl, rfl, rfl, rfl⟩
  case round =>
    clear Hstart
    obtain ⟨left, d, kk, done, hA, rfl, rfl, rfl, rfl⟩ := hrel
    have hts := textN_size done
    have hlen := hA.len
    cases left with
    | zero =>
      have e := hA.eq
      simp only [nth, List.append_nil] at e
      have E := Lib.hid e
      clear e hA
      go_wp2
      go_ret2
      exact ⟨by rw [E.out]; rfl, HT.out.2⟩
    | succ left =>
      rw [show ((left + 1 : Nat) : Int) - 1 = (left : Int) by omega]
      have hl20 : left ≤ 20 := by have := hA.le; omega
      have hd20 : d ≤ 20 := by have := hA.dl; omega
      have hdl : d + left + 1 ≤ 20 := by have := hA.dl; omega
      have hkt := wy_top (n := left + 1) (by have := hA.le; omega) d
      have hkk := hA.kl
      have HA := Lib.hid hA
      clear hA
      go_wp2_with fail
      go_loop [1, 12] (fun k s => ∃ x : Nat, x ≤ 5 ∧ cbs left d x ≤ kk ∧ s = .int .u8 (x : Int) ∧ k = .int .i64 ((kk - cbs left d x : Nat) : Int)) (fun _ s => 6 - (intOf s).toNat)
      case atStart => exact ⟨0, Nat.zero_le _, Nat.zero_le _, rfl, by simp [cbs]⟩
      case round =>
        obtain ⟨x, hx, hcx, rfl, rfl⟩ := hrel
        have Hb := Lib.hid (impl_behind (n := left) (d := d) (s := x) W HT.out.1 (by omega) hl20 hd20 hx)
        by_cases hit : kk - cbs left d x < cb left d x
        · have hN := HA.out.next hx hcx hit
          have hdc := (cb_dn hit).2
          have hdd := deepT_dn' hx hdc
          have hdn := dn_le d x
          have hwd : IntKind.i64.wrap ((d : Int) + deepT x) = (dn d x : Int) := by rw [hdd, wrap_nth (by omega)]
          have hsn := textN_snoc done x
          have HN := Lib.hid (And.intro hN (And.intro hdd hsn))
          have hc : ¬ ((cb left d x : Int) ≤ ((kk - cbs left d x : Nat) : Int)) := by omega
          clear hN hdd hsn hdc
          have hx5 : 0 ≤ (x : Int) ∧ (x : Int) ≤ 5 := by omega
          go_wp2_with (first
            | (go_at_call 34; refine Hb.out.mono ?_; rintro e w' ⟨rfl, rfl⟩)
            | (go_at_call 36; refine (impl_text _ _ hx5).mono ?_; rintro e w' ⟨rfl, rfl⟩)
            | (go_at_call 35; refine (impl_deepenT _ _ hx5).mono ?_; rintro e w' ⟨rfl, rfl⟩))
          go_round
          case rel => exact ⟨left, dn d x, _, done ++ [x], HN.out.1, rfl, by first | rfl | rw [HN.out.2.1], rfl, by first | rfl | rw [HN.out.2.2]⟩
          case measure => simp [intOf]
        · have hcx2 : cbs left d (x + 1) ≤ kk := by rw [cbs]; omega
          have hx2 := pick_more hkk hcx2
          have hsub : (((kk - cbs left d x : Nat) : Int) - (cb left d x : Int)) = ((kk - cbs left d (x + 1) : Nat) : Int) := by rw [cbs]; omega
          have hc : (cb left d x : Int) ≤ ((kk - cbs left d x : Nat) : Int) := by omega
          have hwk : IntKind.i64.wrap (((kk - cbs left d x : Nat) : Int) - (cb left d x : Int)) = ((kk - cbs left d (x + 1) : Nat) : Int) := by rw [hsub, wrap_nth (by omega)]
          have HS := Lib.hid hsub
          clear hsub
          go_wp2_with (go_at_call 34; refine Hb.out.mono ?_; rintro e w' ⟨rfl, rfl⟩)
          go_round
          case rel => exact ⟨x + 1, by omega, hcx2, by go_num, by first | rfl | rw [HS.out]⟩
          case measure => simp [intOf]; omega
end Go.Proofs.Ytjelmiladekfjaa
