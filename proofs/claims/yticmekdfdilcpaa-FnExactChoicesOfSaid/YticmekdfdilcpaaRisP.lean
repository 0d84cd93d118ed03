/- Moves that rise: l03Pushes of the model; allPushes and isIncreasing of the program. -/
import Derived.Test.YticmekdfdilcpaaRis
import Derived.Test.YticmekdfdilcpaaMoves
import Derived.Test.YticmekdfdilcpaaProd
namespace Go.Proofs.Yticmekdfdilcpaa
open Go.RowKit
set_option linter.unusedVariables false

/-- A move comes ahead of another one. -/
def ltP (x y : Int × Int) : Bool := decide (x.1 < y.1) || (decide (x.1 = y.1) && decide (x.2 < y.2))
def upP2 (xs : List (Int × Int)) (i : Nat) : Bool := i == 0 || ltP (xs[i - 1]?.getD (0, 0)) (xs[i]?.getD (0, 0))
def upP (xs : List (Int × Int)) (k : Nat) : Bool := (List.range k).all fun i => upP2 xs i
def risP (xs : List (Int × Int)) (n m : Int) : Bool := xs.all (pB n m) && upP xs xs.length
theorem upP_succ (xs : List (Int × Int)) (k : Nat) : upP xs (k + 1) = (upP xs k && upP2 xs k) := by
  unfold upP
  rw [List.range_succ, List.all_append]
  simp
theorem upP_no {xs : List (Int × Int)} {k n : Nat} (hk : k < n) (h : upP2 xs k = false) : upP xs n = false := by
  unfold upP
  rw [List.all_eq_false]
  exact ⟨k, List.mem_range.2 hk, by simp [h]⟩
theorem upP2_at {xs : List (Int × Int)} {k : Nat} {x y : Int × Int} (hx : xs[k]? = some x) (hy : xs[k + 1]? = some y) : upP2 xs (k + 1) = ltP x y := by
  simp [upP2, hx, hy]
theorem risP_in {xs : List (Int × Int)} {n m : Int} {k : Nat} {x : Int × Int} (hx : xs[k]? = some x) (h : pB n m x = false) : risP xs n m = false := by rw [risP, all_no hx h, Bool.false_and]
theorem risP_up {xs : List (Int × Int)} {n m : Int} {k : Nat} (hk : k < xs.length) (h : upP2 xs k = false) : risP xs n m = false := by rw [risP, upP_no hk h, Bool.and_false]

/-- How two moves compare. -/
def cmpP (x y : Int × Int) : Int := if cmpI x.1 y.1 != 0 then cmpI x.1 y.1 else cmpI x.2 y.2
theorem cmpP_lt (x y : Int × Int) : decide (0 ≤ cmpP x y) = !ltP x y := by
  unfold cmpP ltP cmpI
  rcases Int.lt_trichotomy x.1 y.1 with h | h | h
  · have h1 : ¬ y.1 < x.1 := by omega
    simp [h]
  · rw [h]
    rcases Int.lt_trichotomy x.2 y.2 with g | g | g
    · simp [g]
    · rw [g]; simp
    · have g1 : ¬ x.2 < y.2 := by omega
      simp [g, g1]
  · have h1 : ¬ x.1 < y.1 := by omega
    have h2 : ¬ x.1 = y.1 := by omega
    simp [h, h1, h2]
set_option maxHeartbeats 3200000 in
set_option maxRecDepth 100000 in
theorem impl_or (a b : Int) (g : Nat) (w : World) (hB : Bx w g 3 #[.int .i64 a, .int .i64 b]) :
    Calls Try.prog 140 #[.slice (some ⟨g, 0, none⟩) 2 2] w fun e w' => e = .returned (.int .i64 (if a != 0 then a else b)) ∧ w = w' := by
  obtain ⟨c0, c1, cl⟩ := hB.all2
  have HC := Lib.hid (And.intro c0 c1)
  obtain ⟨res, hres⟩ : ∃ r, r = if a != 0 then a else b := ⟨_, rfl⟩
  rw [← hres]
  have Hres := Lib.hid hres
  clear hB c0 c1 hres
  go_enter Try.func140, Try.ntmps140
  go_wp2
  go_loop [8] (fun i => ∃ k : Nat, k ≤ 2 ∧ i = .int .i64 k ∧ (1 ≤ k → a = 0) ∧ (2 ≤ k → b = 0)) (fun i => 2 - (intOf i).toNat)
  case atStart => exact ⟨0, by omega, rfl, by omega, by omega⟩
  case round =>
    obtain ⟨k, hk, rfl, h1, h2⟩ := hrel
    match k, hk, h1, h2 with
    | 0, _, _, _ =>
      have c0 := HC.out.1
      by_cases ha : a = 0
      · subst ha
        go_wp2
        go_round
        case rel => exact ⟨1, by omega, rfl, by simp, by omega⟩
        case measure => simp [intOf]
      · have e1 : (a != 0) = true := by simpa using ha
        have hr := Lib.hid (show res = a by rw [Hres.out, if_pos e1])
        go_wp2
        go_ret
        exact ⟨by rw [hr.out]; rfl, rfl⟩
    | 1, _, h1, _ =>
      have c1 := HC.out.2
      have ha := h1 (by omega)
      subst ha
      have hr := Lib.hid (show res = b by rw [Hres.out, if_neg (by simp)])
      by_cases hb : b = 0
      · subst hb
        go_wp2
        go_round
        case rel => exact ⟨2, by omega, rfl, by simp, by simp⟩
        case measure => simp [intOf]
      · have e1 : (b != 0) = true := by simpa using hb
        go_wp2
        go_ret
        exact ⟨by rw [hr.out]; rfl, rfl⟩
    | 2, _, h1, h2 =>
      have ha := h1 (by omega)
      have hb := h2 (by omega)
      subst ha hb
      have hr := Lib.hid (show res = 0 by rw [Hres.out]; simp)
      go_wp2
      go_ret
      exact ⟨by rw [hr.out]; rfl, rfl⟩
end Go.Proofs.Yticmekdfdilcpaa
