/- RankMatched of the program. -/
import Derived.Test.YtjelmiladekfjaaCountM
import Derived.Test.YtjelmiladekfjaaRankM
import Derived.Test.YtjelmiladekfjaaDeep
namespace Go.Proofs.Ytjelmiladekfjaa
open Go.RowKit
set_option linter.unusedVariables false

theorem wrap_rank {n : Int} (h : -1000 ≤ n ∧ n ≤ 4000000000000000000) : IntKind.i64.wrap n = n := by unfold IntKind.wrap IntKind.signed IntKind.bits; simp; omega
theorem deepT_dn {d s : Nat} (hs : s ≤ 5) (h : s < 2 ∨ 4 ≤ s ∨ 1 ≤ d) : (d : Int) + deepT s = (dn d s : Int) := by
  obtain rfl | rfl | rfl | rfl | rfl | rfl : s = 0 ∨ s = 1 ∨ s = 2 ∨ s = 3 ∨ s = 4 ∨ s = 5 := by omega
  all_goals simp [deepT, dn]
  all_goals omega

set_option maxHeartbeats 6400000 in
set_option maxRecDepth 100000 in
theorem impl_Rank_yes (s : ByteArray) (w : World) (h : IsW s) (h20 : s.size ≤ 20) (hm : cR s.data.toList (prts (ksOf s.data.toList)) s.size + cC s.data.toList (prts (ksOf s.data.toList)) s.size = 0) :
    Calls Try.prog 11 #[.string s] w (TupPost (.tuple #[.int .i64 (rk s.data.toList s.size : Int), .int .i64 0]) w) := by
  obtain ⟨hz, _⟩ := zero_of_info info_tab
  have Hs := Lib.hid tab_sizes
  obtain ⟨Z, hZ⟩ : ∃ Z : Array Value, Z = Array.replicate 462 (.int .i64 0) := ⟨_, rfl⟩
  rw [← hZ] at hz Hs
  clear hZ
  have hp := fun w => impl_read_yes s w h.1 h.2
  have hmt := fun (w w1 : World) (M : Nat) hsy hps (w2 : World) hb => matched_read (w := w) (w1 := w1) (M := M) h hsy hps (w2 := w2) hb
  rw [decide_eq_true hm] at hmt
  have hall := h.2
  obtain ⟨l, hl⟩ : ∃ l, l = s.data.toList := ⟨_, rfl⟩
  have hlen : l.length = s.size := by rw [hl]; simp
  rw [← hl] at hp hmt hall hm ⊢
  have hnone := matched_none hall hlen.symm hm
  have Hp := Lib.hid hp
  have Hm := Lib.hid hmt
  have Hlen := Lib.hid hlen
  have Hall := Lib.hid hall
  have Hno := Lib.hid hnone
  clear h hp hmt hl hlen hall hm hnone
  go_enter Try.func11, Try.ntmps11
  go_upto_region 8 with (first
    | (go_at_call 32; refine (Hp.out _).mono ?_; rintro e w1 ⟨M, rfl, hsy, hps, hb⟩)
    | (go_at_call 33; refine (Hm.out _ _ _ hsy hps _ ((Below.refl _ _).alloc (Nat.le_refl _) _)).mono ?_; rintro e w2 ⟨rfl, hb2⟩))
  have x1 := (Bx.new w1 55 #[.slice (some ⟨w.heap.size + 1 + 1, 0, none⟩) s.size s.size, .slice (some ⟨M, 0, none⟩) s.size s.size]).later hb2
  have hB2 := (hb.alloc hb.size (.cells #[.slice (some ⟨w.heap.size + 1 + 1, 0, none⟩) s.size s.size, .slice (some ⟨M, 0, none⟩) s.size s.size] 55)).trans (hb2.mono (by have := hb.size; simp; omega))
  have hsy2 := row_below (hsy.alloc (.cells #[.slice (some ⟨w.heap.size + 1 + 1, 0, none⟩) s.size s.size, .slice (some ⟨M, 0, none⟩) s.size s.size] 55)) hb2
  clear hsy hps hb hb2
  go_upto_region 9 with (first
    | (go_at_call 28; refine (impl_countEndings _).mono ?_; rintro e w3 ⟨rfl, hb3⟩)
    | (refine wpList_store_row rfl 50 _ _ rfl w3.heap.size (tabA 21 0 0) rfl rfl 50 Z (heap_alloc_last _ _) Hs.out.1 Hs.out.2 (tabA_one _ _ _) ?_))
  rw [World.setRow_alloc_new]
  have hb4 := hb3.alloc hb3.size (.cells (tabA 21 0 0) 50)
  have htab := tab_box w3
  obtain ⟨W, hW⟩ : ∃ W, W = w3.alloc (.cells (tabA 21 0 0) 50) := ⟨_, rfl⟩
  rw [← hW] at hb4 htab ⊢
  have hsy4 := row_below hsy2 hb4
  obtain ⟨c0, c1, _⟩ := (x1.later hb4).all2
  have hBW := hB2.trans (hb4.mono hB2.size)
  have HT := Lib.hid (And.intro htab (And.intro hsy4 hBW))
  obtain ⟨n, hn⟩ : ∃ n, n = s.size := ⟨_, rfl⟩
  have Hn := Lib.hid hn
  clear hb3 hb4 hsy2 hsy4 x1 hB2 hW htab hBW hz
  go_wp2_with fail
  go_loop [7, 8, 33] (fun r o i => ∃ k : Nat, k ≤ s.size ∧ i = .int .i64 k ∧ r = .int .i64 (rk l k : Int) ∧ o = .int .i64 (dq (ksOf l) k : Int)) (fun _ _ i => s.size - (intOf i).toNat)
  case atStart => exact ⟨0, Nat.zero_le _, rfl, rfl, rfl⟩
  case round =>
    obtain ⟨k, hk, rfl, rfl, rfl⟩ := hrel
    by_cases hlt : k < s.size
    · obtain ⟨b, hlb⟩ : ∃ b, l[k]? = some b := ⟨_, List.getElem?_eq_getElem (by rw [Hlen.out]; exact hlt)⟩
      have hsb := Hall.out b (List.mem_of_getElem? hlb)
      obtain ⟨e1, e2⟩ := syN_of hlb hsb
      have hcs := syms_cell HT.out.2.1 k (symNo b.toNat) (by simp [symL, hlb])
      rw [← e1] at hcs
      obtain ⟨hdq, hok⟩ := dq_dn Hall.out Hno.out hlb
      have hdk := dq_le (ksOf l) k
      have hdk1 := dq_le (ksOf l) (k + 1)
      have hrk := rk_le (by rw [Hlen.out]; exact h20) Hall.out k (by rw [Hlen.out]; exact hk)
      have hrk1 : rk l (k + 1) = rk l k + cbs (s.size - 1 - k) (dq (ksOf l) k) (syN l k) := by rw [rk, Hlen.out]
      obtain ⟨S, hS⟩ : ∃ S, S = syN l k := ⟨_, rfl⟩
      rw [← hS] at hcs hdq hok e2 hrk1
      obtain ⟨d, hd⟩ : ∃ d, d = dq (ksOf l) k := ⟨_, rfl⟩
      rw [← hd] at hdq hok hdk hrk1 ⊢
      obtain ⟨R, hR⟩ : ∃ R, R = rk l k := ⟨_, rfl⟩
      rw [← hR] at hrk hrk1 ⊢
      have hdeep := deepT_dn e2 hok
      have HK := Lib.hid (And.intro hdq (And.intro hrk1 hdeep))
      have hdn : dn d S ≤ 21 := by omega
      clear hlb hsb e1 hS hd hR hdq hok hrk1 hdeep
      have hw1 : IntKind.i64.wrap ((s.size : Int) - 1) = ((s.size - 1 : Nat) : Int) := by rw [wrap_rank (by omega)]; omega
      have hw2 : IntKind.i64.wrap (((s.size - 1 : Nat) : Int) - (k : Int)) = ((s.size - 1 - k : Nat) : Int) := by rw [wrap_rank (by omega)]; omega
      go_wp2_with fail
      go_loop [7, 44] (fun r x => ∃ j : Nat, j ≤ S ∧ x = .int .u8 (j : Int) ∧ r = .int .i64 ((R : Int) + (cbs (s.size - 1 - k) d j : Int))) (fun _ x => S - (intOf x).toNat)
      case atStart => exact ⟨0, Nat.zero_le _, rfl, by simp [cbs]⟩
      case round =>
        obtain ⟨j, hj, rfl, rfl⟩ := hrel
        by_cases hjt : j < S
        · have Hb := Lib.hid (impl_behind (n := s.size - 1 - k) (d := d) (s := j) W HT.out.1 (by omega) (by omega) (by omega) (by omega))
          have t1 := cbs_top (n := s.size - 1 - k) (by omega) d (s := j) (by omega)
          have t2 := cb_top (n := s.size - 1 - k) (by omega) d j
          have hc : cbs (s.size - 1 - k) d (j + 1) = cbs (s.size - 1 - k) d j + cb (s.size - 1 - k) d j := rfl
          have Hc := Lib.hid hc
          clear hc
          go_wp2_with (go_at_call 34; refine Hb.out.mono ?_; rintro e w' ⟨rfl, rfl⟩)
          go_round
          case rel => exact ⟨j + 1, by omega, by go_num, by rw [Hc.out]; first | rfl | (simp; omega)⟩
          case measure => simp [intOf]; omega
        · obtain rfl : j = S := by omega
          have hwd : IntKind.i64.wrap ((d : Int) + deepT j) = (dn d j : Int) := by rw [HK.out.2.2, wrap_rank (by omega)]
          go_wp2_with (go_at_call 35; refine (impl_deepenT _ _ (by omega)).mono ?_; rintro e w' ⟨rfl, rfl⟩)
          go_round
          case rel => exact ⟨k + 1, by omega, by go_num, by rw [HK.out.2.1]; simp, by rw [HK.out.1, ← HK.out.2.2]⟩
          case measure => simp [intOf]; omega
    · obtain rfl : k = s.size := by omega
      go_wp2
      go_ret2
      exact ⟨rfl, HT.out.2.2⟩
end Go.Proofs.Ytjelmiladekfjaa
