/- DepthChecker's closure, and CountChecker's, of the program. -/
import Derived.Test.YtdehehdcjfaefabSame6
import Derived.Test.YtdehehdcjfaefabSym
namespace Go.Proofs.Ytdehehdcjfaefab
open Go.RowKit
set_option linter.unusedVariables false

theorem p_deepening (n : Int) (w : World) (h : 0 ≤ n ∧ n ≤ 5) :
    Calls Try.prog 66 #[.int .u8 n] w fun e w' => e = .returned (.int .i64 (if n < 2 then 1 else if n < 4 then -1 else 0)) ∧ w = w' := by
  rcases six n h with rfl | rfl | rfl | rfl | rfl | rfl
  all_goals
    go_enter Try.func66, Try.ntmps66
    go_wp2_with (first
      | (go_at_call 102; refine (impl_isCall _ _).mono ?_; rintro e w' ⟨rfl, rfl⟩)
      | (go_at_call 104; refine (impl_isReturn _ _ (by omega)).mono ?_; rintro e w' ⟨rfl, rfl⟩))
    go_ret
    exact ⟨rfl, rfl⟩

theorem depth_clo (m d : Nat) (s : Int) (M : Nat) (w : World) (hs : 0 ≤ s ∧ s ≤ 5) (hm : m ≤ 9) (hd : d ≤ m + 1) (h : w.cell? ⟨M, 0, none⟩ = some (.int .i64 (m : Int))) :
    Calls Try.prog 65 #[.int .i64 (d : Int), .int .u8 s, .pointer (some ⟨M, 0, none⟩)] w fun e w' => e = .returned (.int .i64 (depthTo m d s.toNat)) ∧ w = w' := by
  have Hd := Lib.hid (p_deepening s w hs)
  by_cases hlt : m < d
  · have e : depthTo m d s.toNat = (d : Int) := by rw [depthTo, if_pos hlt]
    rw [e]
    go_enter Try.func65, Try.ntmps65
    go_wp2
    go_ret
    exact ⟨rfl, rfl⟩
  · have e : depthTo m d s.toNat = max 0 ((d : Int) + (if s < 2 then 1 else if s < 4 then -1 else 0)) := by
      rw [depthTo, if_neg hlt]
      rcases six s hs with rfl | rfl | rfl | rfl | rfl | rfl <;> simp <;> omega
    rw [e]
    have hb : -1 ≤ (if s < 2 then (1 : Int) else if s < 4 then -1 else 0) ∧ (if s < 2 then (1 : Int) else if s < 4 then -1 else 0) ≤ 1 := by
      split
      · omega
      · split <;> omega
    obtain ⟨q, hq⟩ : ∃ q : Int, q = (if s < 2 then (1 : Int) else if s < 4 then -1 else 0) := ⟨_, rfl⟩
    rw [← hq] at Hd hb ⊢
    clear hq e
    by_cases hn : (d : Int) + q < 0
    · rw [show max 0 ((d : Int) + q) = 0 by omega]
      go_enter Try.func65, Try.ntmps65
      go_wp2_with fail
      refine Hd.out.mono ?_
      rintro e w' ⟨rfl, rfl⟩
      go_wp2
      go_ret
      exact ⟨rfl, rfl⟩
    · rw [show max 0 ((d : Int) + q) = (d : Int) + q by omega]
      go_enter Try.func65, Try.ntmps65
      go_wp2_with fail
      refine Hd.out.mono ?_
      rintro e w' ⟨rfl, rfl⟩
      go_wp2
      all_goals go_ret
      all_goals first
        | exact ⟨rfl, rfl⟩
        | (have e0 : (d : Int) + q = 0 := by omega
           rw [e0]
           exact ⟨rfl, rfl⟩)

theorem count_clo (k m d : Nat) (s : Int) (M K : Nat) (w : World) (hs : 0 ≤ s ∧ s ≤ 5) (hm : 1 ≤ m ∧ m ≤ 40) (hd : d < m) (h : w.cell? ⟨M, 0, none⟩ = some (.int .i64 (m : Int))) (hk : w.cell? ⟨K, 0, none⟩ = some (.int .u8 (k : Int))) :
    Calls Try.prog 110 #[.int .i64 (d : Int), .int .u8 s, .pointer (some ⟨K, 0, none⟩), .pointer (some ⟨M, 0, none⟩)] w fun e w' => e = .returned (.int .i64 (countTo k m d s.toNat)) ∧ w = w' := by
  by_cases he : s = (k : Int)
  · have e : countTo k m d s.toNat = ((d : Int) + 1).tmod (m : Int) := by
      rw [countTo, if_pos (by omega), Int.tmod_eq_emod_of_nonneg (by omega), Int.natCast_emod]
      rfl
    rw [e]
    subst he
    go_enter Try.func110, Try.ntmps110
    go_wp2
    go_ret
    exact ⟨rfl, rfl⟩
  · have e : countTo k m d s.toNat = (d : Int) := by rw [countTo, if_neg (by omega)]
    rw [e]
    go_enter Try.func110, Try.ntmps110
    go_wp2
    go_ret
    exact ⟨rfl, rfl⟩
end Go.Proofs.Ytdehehdcjfaefab
