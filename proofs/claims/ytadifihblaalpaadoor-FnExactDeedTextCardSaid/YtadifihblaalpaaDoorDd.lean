/- Deeds: what a valid one is, of the model and of the program. -/
import Derived.Test.YtadifihblaalpaaDoorIn
import Derived.Test.YtadifihblaalpaaDoorBox
import Derived.Deep.RegionWith
import Derived.Deep.QuietTactic
import Derived.BigQuiet
import Derived.Deep.DeepCutAuto
namespace Go.Proofs.YtadifihblaalpaaDoor
open Go.RowKit
set_option linter.unusedVariables false

/-- A valid deed. -/
def deedB (k a b : Int) : Bool := decide ((1 ≤ k ∧ k ≤ 6) ∧ (0 ≤ a ∧ a ≤ 999) ∧ (0 ≤ b ∧ b ≤ 999) ∧ (5 ≤ k → a = 0) ∧ (2 ≤ k → b = 0))
theorem dd_in (n a b : Int) (w : World) : Calls Tryd.prog 20 #[.int .i64 n, .int .i64 a, .int .i64 b] w fun e w' => e = .returned (.bool (decide (a ≤ n ∧ n ≤ b))) ∧ w = w' := by
  by_cases h : a ≤ n ∧ n ≤ b
  · rw [decide_eq_true h]
    exact (in_yes n a b w h.1 h.2).mono fun e w' ⟨h1, h2⟩ => ⟨h1, h2.symm⟩
  · rw [decide_eq_false h]
    exact (in_no n a b w (by omega)).mono fun e w' ⟨h1, h2⟩ => ⟨h1, h2.symm⟩

theorem l08Words_run (w : World) : Calls Tryd.prog 12 #[] w fun e w' => e = .returned (.tuple #[.slice (some ⟨w.heap.size, 0, none⟩) 7 7, .slice (some ⟨w.heap.size + 1, 0, none⟩) 7 7]) ∧
    w' = (w.alloc (.cells #[.string ⟨#[]⟩, .string ⟨#[115, 101, 110, 100]⟩, .string ⟨#[100, 101, 108, 105, 118, 101, 114]⟩, .string ⟨#[99, 111, 112, 121]⟩, .string ⟨#[100, 114, 111, 112]⟩, .string ⟨#[115, 97, 118, 101]⟩, .string ⟨#[99, 114, 97, 115, 104]⟩] 9)).alloc (.cells #[.int .i64 0, .int .i64 2, .int .i64 1, .int .i64 1, .int .i64 1, .int .i64 0, .int .i64 0] 3) := by
  go_enter Tryd.func12, Tryd.ntmps12
  go_wp2
  go_ret2
  exact ⟨rfl, rfl⟩
set_option maxHeartbeats 3200000 in
set_option maxRecDepth 100000 in
theorem spec_deed (k a b : Int) (w : World) :
    Calls Tryd.prog 11 #[.agg #[.int .i64 k, .int .i64 a, .int .i64 b]] w (TupPost (.bool (deedB k a b)) w) := by
  have hx := Bx.new w 25 #[.int .i64 k, .int .i64 a, .int .i64 b]
  have hB := (Below.refl w.heap.size w).alloc (Nat.le_refl _) (.cells #[.int .i64 k, .int .i64 a, .int .i64 b] 25)
  obtain ⟨c0, c1, c2, cl⟩ := id hx.all3
  have HX := Lib.hid (And.intro hx hB)
  have HK := Lib.hid fun W => dd_in k 1 6 W
  have HA := Lib.hid fun W => dd_in a 0 999 W
  have HC := Lib.hid fun W => dd_in b 0 999 W
  clear hx hB
  by_cases hk : 1 ≤ k ∧ k ≤ 6
  case neg =>
    have e : deedB k a b = false := decide_eq_false (fun h => hk h.1)
    rw [e]
    rw [decide_eq_false hk] at HK
    clear e hk
    go_enter Tryd.func11, Tryd.ntmps11
    go_wp2_with fail
    refine (HK.out _).mono ?_
    rintro e w1 ⟨rfl, rfl⟩
    go_wp2
    go_ret
    exact ⟨rfl, HX.out.2⟩
  by_cases ha : 0 ≤ a ∧ a ≤ 999
  case neg =>
    have e : deedB k a b = false := decide_eq_false (fun h => ha h.2.1)
    rw [e]
    rw [decide_eq_true hk] at HK
    rw [decide_eq_false ha] at HA
    clear e hk ha
    go_enter Tryd.func11, Tryd.ntmps11
    go_wp2_with fail
    refine (HK.out _).mono ?_
    rintro e w1 ⟨rfl, rfl⟩
    go_wp2_with fail
    refine (HA.out _).mono ?_
    rintro e w1 ⟨rfl, rfl⟩
    go_wp2
    go_ret
    exact ⟨rfl, HX.out.2⟩
  by_cases hc : 0 ≤ b ∧ b ≤ 999
  case neg =>
    have e : deedB k a b = false := decide_eq_false (fun h => hc h.2.2.1)
    rw [e]
    rw [decide_eq_true hk] at HK
    rw [decide_eq_true ha] at HA
    rw [decide_eq_false hc] at HC
    clear e hk ha hc
    go_enter Tryd.func11, Tryd.ntmps11
    go_wp2_with fail
    refine (HK.out _).mono ?_
    rintro e w1 ⟨rfl, rfl⟩
    go_wp2_with fail
    refine (HA.out _).mono ?_
    rintro e w1 ⟨rfl, rfl⟩
    go_wp2_with fail
    refine (HC.out _).mono ?_
    rintro e w1 ⟨rfl, rfl⟩
    go_wp2
    go_ret
    exact ⟨rfl, HX.out.2⟩
  rw [decide_eq_true hk] at HK
  rw [decide_eq_true ha] at HA
  rw [decide_eq_true hc] at HC
  have e : deedB k a b = (decide ((5 ≤ k → a = 0) ∧ (2 ≤ k → b = 0))) := by
    unfold deedB
    congr 1
    exact propext ⟨fun h => h.2.2.2, fun h => ⟨hk, ha, hc, h⟩⟩
  rw [e]
  clear e ha hc
  obtain rfl | rfl | rfl | rfl | rfl | rfl : k = 1 ∨ k = 2 ∨ k = 3 ∨ k = 4 ∨ k = 5 ∨ k = 6 := by omega
  all_goals
    clear hk
    by_cases ha0 : a = 0
    all_goals by_cases hb0 : b = 0
    all_goals
      have q1 := ha0
      have q2 := hb0
      first
        | rw [decide_eq_true (by omega)]
        | rw [decide_eq_false (by omega)]
      first | (have qa : (a == (0 : Int)) = true := by simpa using q1) | (have qa : (a == (0 : Int)) = false := by simpa using q1)
      first | (have qb : (b == (0 : Int)) = true := by simpa using q2) | (have qb : (b == (0 : Int)) = false := by simpa using q2)
      clear ha0 hb0 q1 q2
      go_enter Tryd.func11, Tryd.ntmps11
      go_wp2_with fail
      refine (HK.out _).mono ?_
      rintro e w1 ⟨rfl, rfl⟩
      go_wp2_with fail
      refine (HA.out _).mono ?_
      rintro e w1 ⟨rfl, rfl⟩
      go_wp2_with fail
      refine (HC.out _).mono ?_
      rintro e w1 ⟨rfl, rfl⟩
      go_wp2_with fail
      refine (l08Words_run _).mono ?_
      rintro e w1 ⟨rfl, rfl⟩
      have x1 := (HX.out.1.alloc (.cells #[.string ⟨#[]⟩, .string ⟨#[115, 101, 110, 100]⟩, .string ⟨#[100, 101, 108, 105, 118, 101, 114]⟩, .string ⟨#[99, 111, 112, 121]⟩, .string ⟨#[100, 114, 111, 112]⟩, .string ⟨#[115, 97, 118, 101]⟩, .string ⟨#[99, 114, 97, 115, 104]⟩] 9)).alloc (.cells #[.int .i64 0, .int .i64 2, .int .i64 1, .int .i64 1, .int .i64 1, .int .i64 0, .int .i64 0] 3)
      have HB2 := Lib.hid ((HX.out.2.alloc HX.out.2.size (.cells #[.string ⟨#[]⟩, .string ⟨#[115, 101, 110, 100]⟩, .string ⟨#[100, 101, 108, 105, 118, 101, 114]⟩, .string ⟨#[99, 111, 112, 121]⟩, .string ⟨#[100, 114, 111, 112]⟩, .string ⟨#[115, 97, 118, 101]⟩, .string ⟨#[99, 114, 97, 115, 104]⟩] 9)).alloc (by simp; omega) (.cells #[.int .i64 0, .int .i64 2, .int .i64 1, .int .i64 1, .int .i64 1, .int .i64 0, .int .i64 0] 3))
      clear c0 c1 c2 cl
      obtain ⟨c0, c1, c2, cl⟩ := id x1.all3
      clear x1
      go_wp2
      go_ret
      exact ⟨rfl, HB2.out⟩
end Go.Proofs.YtadifihblaalpaaDoor
