/- Small questions of numbers: l00In, l02List of the model; isBelow, allBelow of the program. -/
import Derived.Test.YticmekdfdilcpaaLit
import Derived.Test.YticmekdfdilcpaaIn
import Derived.Test.YticmekdfdilcpaaConv
namespace Go.Proofs.Yticmekdfdilcpaa
open Go.RowKit
set_option linter.unusedVariables false

/-- Whether a number is one of n numbers from 0 on. -/
def inB (x n : Int) : Bool := decide (0 ≤ x ∧ x < n)
theorem inB_yes {x n : Int} (h : inB x n = true) : 0 ≤ x ∧ x < n := by simpa [inB] using h
theorem inB_no {x n : Int} (h : inB x n = false) : x < 0 ∨ n ≤ x := by
  simp only [inB, decide_eq_false_iff_not] at h
  omega
def allB (xs : List Int) (n : Int) : Bool := xs.all fun x => inB x n
def listB (xs : List Int) (len n : Int) : Bool := decide ((xs.length : Int) = len) && allB xs n
theorem allB_no {xs : List Int} {n : Int} {k : Nat} {x : Int} (hx : xs[k]? = some x) (h : inB x n = false) : allB xs n = false := by
  rw [allB, List.all_eq_false]
  exact ⟨x, List.mem_of_getElem? hx, by simp [h]⟩
theorem allB_snoc {xs : List Int} {n : Int} {k : Nat} {x : Int} (hx : xs[k]? = some x) (h : inB x n = true) (hk : allB (xs.take k) n = true) : allB (xs.take (k + 1)) n = true := by
  rw [List.take_add_one, hx]
  simp only [allB, Option.toList_some, List.all_append, List.all_cons, List.all_nil, Bool.and_true] at hk ⊢
  rw [hk, h]; rfl

theorem spec_in {x n : Int} (w : World) : Calls Try.prog 86 #[.int .i64 x, .int .i64 0, .int .i64 (n - 1)] w fun e w' => e = .returned (.bool (inB x n)) ∧ w = w' := by
  cases h : inB x n with
  | true =>
    have := inB_yes h
    refine (in_yes x 0 (n - 1) w this.1 (by omega)).mono ?_
    rintro e w' ⟨rfl, rfl⟩
    exact ⟨rfl, rfl⟩
  | false =>
    have := inB_no h
    refine (in_no x 0 (n - 1) w (by omega)).mono ?_
    rintro e w' ⟨rfl, rfl⟩
    exact ⟨rfl, rfl⟩
theorem impl_below {x n : Int} (w : World) : Calls Try.prog 99 #[.int .i64 x, .int .i64 n] w fun e w' => e = .returned (.bool (inB x n)) ∧ w = w' := by
  by_cases h0 : 0 ≤ x
  · by_cases h1 : x < n
    · have hB : inB x n = true := by simp [inB, h0, h1]
      rw [hB]
      clear hB
      go_enter Try.func99, Try.ntmps99
      go_wp2
      go_ret
      exact ⟨rfl, rfl⟩
    · have hB : inB x n = false := by simp [inB, h1]
      have h1' : n ≤ x := by omega
      rw [hB]
      clear hB h1
      go_enter Try.func99, Try.ntmps99
      go_wp2
      go_ret
      exact ⟨by simp; omega, rfl⟩
  · have hB : inB x n = false := by simp [inB, h0]
    have h0' : x < 0 := by omega
    rw [hB]
    clear hB h0
    go_enter Try.func99, Try.ntmps99
    go_wp2
    go_ret
    exact ⟨rfl, rfl⟩

set_option maxHeartbeats 1600000 in
theorem impl_all {base : Nat} {v : Value} {xs : List Int} {bs : List Nat} (m : Int) (w : World) (hn : Bd1 xs) (ha : IntsE base w v xs bs) :
    Calls Try.prog 89 #[v, .int .i64 m] w fun e w' => e = .returned (.bool (allB xs m)) ∧ w = w' := by
  obtain ⟨A, ca, rfl⟩ := RowE.slice ha
  unfold Bd1 at hn
  obtain ⟨n, hn'⟩ : ∃ n, n = xs.length := ⟨_, rfl⟩
  have Hn := Lib.hid hn'
  rw [← hn'] at ha hn ⊢
  clear hn'
  go_enter Try.func89, Try.ntmps89
  go_wp2
  go_loop [9] (fun i => ∃ k : Nat, k ≤ n ∧ i = .int .i64 k ∧ Hid (allB (xs.take k) m = true)) (fun i => n - (intOf i).toNat)
  case atStart => exact ⟨0, Nat.zero_le _, rfl, rfl⟩
  case round =>
    obtain ⟨k, hk, rfl, hA⟩ := hrel
    by_cases hlt : k < n
    · have hkx : k < xs.length := by rw [← Hn.out]; exact hlt
      obtain ⟨x, hx⟩ : ∃ x, xs[k]? = some x := ⟨_, List.getElem?_eq_getElem hkx⟩
      obtain ⟨g, rfl, hg, _⟩ := RowE.head ha hkx
      have hc := IntsE.cell' ha hx
      cases hb : inB x m with
      | true =>
        have hnx := Lib.hid (allB_snoc hx hb hA.out)
        clear hkx hx
        go_wp2_with (go_at_call 99; refine (impl_below _).mono ?_; rintro e w' ⟨rfl, rfl⟩; rw [hb])
        go_round
        case rel => exact ⟨k + 1, by omega, by go_num, hnx⟩
        case measure => simp [intOf]; omega
      | false =>
        have hno := Lib.hid (allB_no hx hb)
        clear hkx hx
        go_wp2_with (go_at_call 99; refine (impl_below _).mono ?_; rintro e w' ⟨rfl, rfl⟩; rw [hb])
        go_ret
        exact ⟨by rw [hno.out]; rfl, rfl⟩
    · have e : k = n := by omega
      subst e
      have hall : Hid (allB xs m = true) := by
        have h1 := hA.out
        rwa [Hn.out, List.take_length] at h1
      clear hA
      go_wp2
      go_ret
      exact ⟨by rw [hall.out]; rfl, rfl⟩

set_option maxHeartbeats 1600000 in
theorem spec_list {base : Nat} {v : Value} {xs : List Int} {bs : List Nat} (len m : Int) (w : World) (hn : Bd1 xs) (hm : -1000 ≤ m ∧ m ≤ 1048576) (ha : IntsE base w v xs bs) :
    Calls Try.prog 97 #[v, .int .i64 len, .int .i64 m] w fun e w' => e = .returned (.bool (listB xs len m)) ∧ w = w' := by
  obtain ⟨A, ca, rfl⟩ := RowE.slice ha
  unfold Bd1 at hn
  obtain ⟨hm1, hm2⟩ := hm
  by_cases hlen : (xs.length : Int) = len
  · subst hlen
    have hlb : listB xs (xs.length : Int) m = allB xs m := by simp [listB]
    rw [hlb]
    obtain ⟨n, hn'⟩ : ∃ n, n = xs.length := ⟨_, rfl⟩
    have Hn := Lib.hid hn'
    rw [← hn'] at ha hn ⊢
    clear hn' hlb
    go_enter Try.func97, Try.ntmps97
    go_wp2
    go_loop [7] (fun i => ∃ k : Nat, k ≤ n ∧ i = .int .i64 k ∧ Hid (allB (xs.take k) m = true)) (fun i => n - (intOf i).toNat)
    case atStart => exact ⟨0, Nat.zero_le _, rfl, rfl⟩
    case round =>
      obtain ⟨k, hk, rfl, hA⟩ := hrel
      by_cases hlt : k < n
      · have hkx : k < xs.length := by rw [← Hn.out]; exact hlt
        obtain ⟨x, hx⟩ : ∃ x, xs[k]? = some x := ⟨_, List.getElem?_eq_getElem hkx⟩
        obtain ⟨g, rfl, hg, _⟩ := RowE.head ha hkx
        have hc := IntsE.cell' ha hx
        cases hb : inB x m with
        | true =>
          have hnx := Lib.hid (allB_snoc hx hb hA.out)
          clear hkx hx
          go_wp2_with (go_at_call 86; refine (spec_in _).mono ?_; rintro e w' ⟨rfl, rfl⟩; rw [hb])
          go_round
          case rel => exact ⟨k + 1, by omega, by go_num, hnx⟩
          case measure => simp [intOf]; omega
        | false =>
          have hno := Lib.hid (allB_no hx hb)
          clear hkx hx
          go_wp2_with (go_at_call 86; refine (spec_in _).mono ?_; rintro e w' ⟨rfl, rfl⟩; rw [hb])
          go_ret
          exact ⟨by rw [hno.out]; rfl, rfl⟩
      · have e : k = n := by omega
        subst e
        have hall : Hid (allB xs m = true) := by
          have h1 := hA.out
          rwa [Hn.out, List.take_length] at h1
        clear hA
        go_wp2
        go_ret
        exact ⟨by rw [hall.out]; rfl, rfl⟩
  · have hlb : listB xs len m = false := by simp [listB, hlen]
    have hne : ((xs.length : Int) != len) = true := by simpa using hlen
    rw [hlb]
    generalize xs.length = n at hne hn ⊢
    clear hlb hlen ha
    go_enter Try.func97, Try.ntmps97
    go_wp2
    go_ret
    exact ⟨rfl, rfl⟩

/-- Whether a number lies between two. -/
def rngB (x a b : Int) : Bool := decide (a ≤ x ∧ x ≤ b)
theorem rngB_yes {x a b : Int} (h : rngB x a b = true) : a ≤ x ∧ x ≤ b := by simpa [rngB] using h
theorem spec_rng {x a b : Int} (w : World) : Calls Try.prog 86 #[.int .i64 x, .int .i64 a, .int .i64 b] w fun e w' => e = .returned (.bool (rngB x a b)) ∧ w = w' := by
  by_cases h : a ≤ x ∧ x ≤ b
  · refine (in_yes x a b w h.1 h.2).mono ?_
    rintro e w' ⟨rfl, rfl⟩
    exact ⟨by simp [rngB, h], rfl⟩
  · refine (in_no x a b w (by omega)).mono ?_
    rintro e w' ⟨rfl, rfl⟩
    exact ⟨by rw [show rngB x a b = false from decide_eq_false h], rfl⟩
end Go.Proofs.Yticmekdfdilcpaa
