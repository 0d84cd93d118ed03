/- slices.Equal and slices.EqualFunc, where the program calls them. -/
import Derived.Test.YtdehehdcjfaefacSame
namespace Go.Proofs.Ytdehehdcjfaefac
open Go.RowKit
set_option linter.unusedVariables false

set_option maxHeartbeats 1600000 in
set_option maxRecDepth 100000 in
theorem equal_ints {base base' : Nat} {v v' : Value} {xs ys : List Int} {bs bs' : List Nat} (w : World) (hn : Bd1 xs) (_ : Bd1 ys) (ha : IntsE base w v xs bs) (hb : IntsE base' w v' ys bs') :
    Calls Try.prog 53 #[v, v'] w fun e w' => e = .returned (.bool (decide (xs = ys))) ∧ ∃ m, w' = w.drewN m := by
  obtain ⟨A, ca, rfl⟩ := RowE.slice ha
  obtain ⟨B, cb, rfl⟩ := RowE.slice hb
  unfold Bd1 at hn
  by_cases hl : xs.length = ys.length
  case neg =>
    have hne : decide (xs = ys) = false := decide_eq_false fun e => hl (by rw [e])
    have e4 : ((xs.length : Int) != (ys.length : Int)) = true := by simp; omega
    have e5 : (xs.length != ys.length) = true := by simpa using hl
    rw [hne]
    clear hne hl ha hb
    generalize xs.length = n at *
    generalize ys.length = m at *
    go_enter Try.func53, Try.ntmps53
    go_wp2
    go_ret
    exact ⟨rfl, 0, rfl⟩
  have Hl := Lib.hid hl
  rw [← hl] at hb ⊢
  clear hl
  obtain ⟨n, hn'⟩ : ∃ n, n = xs.length := ⟨_, rfl⟩
  have Hn := Lib.hid hn'
  rw [← hn'] at ha hb hn ⊢
  clear hn'
  go_enter Try.func53, Try.ntmps53
  go_wp2
  go_loopw [13] (fun i wr => ∃ k m : Nat, k ≤ n ∧ i = .int .i64 k ∧ wr = w.drewN m ∧ Hid (xs.take k = ys.take k)) (fun i _ => n - (intOf i).toNat)
  case atStart => exact ⟨0, 0, Nat.zero_le _, rfl, rfl, rfl⟩
  case round =>
    obtain ⟨k, m, hk, rfl, rfl, hA⟩ := hrel
    by_cases hlt : k < n
    · have hkx : k < xs.length := by rw [← Hn.out]; exact hlt
      have hky : k < ys.length := by rw [← Hl.out]; exact hkx
      obtain ⟨x, hx⟩ : ∃ x, xs[k]? = some x := ⟨_, List.getElem?_eq_getElem hkx⟩
      obtain ⟨y, hy⟩ : ∃ y, ys[k]? = some y := ⟨_, List.getElem?_eq_getElem hky⟩
      obtain ⟨g, rfl, hg, _⟩ := RowE.head ha hkx
      obtain ⟨g', rfl, hg', _⟩ := RowE.head hb hky
      have hc : w.cell? ⟨g, k, none⟩ = _ := IntsE.cell' ha hx
      have hc' : w.cell? ⟨g', k, none⟩ = _ := IntsE.cell' hb hy
      by_cases hxy : x = y
      · subst hxy
        have hnx := Lib.hid (same_take hx hy hA.out)
        clear hkx hky hx hy hA
        go_wp2_with fail
        go_quiet (fail)
        go_wp2
        go_roundw
        case rel => exact ⟨k + 1, _, by omega, by go_num, by first | rfl | rw [World.drewN_drewN], hnx⟩
        case measure => simp [intOf]; omega
      · have hno : Hid (decide (xs = ys) = false) := decide_eq_false (not_same hx hy hxy)
        have e4 : (x != y) = true := by simpa using hxy
        clear hkx hky hx hy hA
        go_wp2_with fail
        go_quiet (fail)
        go_wp2
        go_ret
        exact ⟨by rw [hno.out]; rfl, _, by first | rfl | rw [World.drewN_drewN]⟩
    · have e : k = n := by omega
      subst e
      have hall : Hid (decide (xs = ys) = true) := by
        have h1 := hA.out
        have h2 := Hl.out
        rw [Hn.out, List.take_length, h2, List.take_length] at h1
        exact decide_eq_true h1
      clear hA
      go_wp2
      go_ret
      exact ⟨by rw [hall.out]; rfl, m, rfl⟩


set_option maxHeartbeats 1600000 in
set_option maxRecDepth 100000 in
theorem eqf_ints2 {base base' : Nat} {v v' : Value} {xs ys : List (List Int)} {bs bs' : List Nat} (w : World) (hn : Bd2 xs) (hm : Bd2 ys) (ha : Ints2E base w v xs bs) (hb : Ints2E base' w v' ys bs') :
    Calls Try.prog 85 #[v, v', .func (.func 53) #[] #[]] w fun e w' => e = .returned (.bool (decide (xs = ys))) ∧ ∃ m, w' = w.drewN m := by
  obtain ⟨A, ca, rfl⟩ := ManyE.slice ha
  obtain ⟨B, cb, rfl⟩ := ManyE.slice hb
  obtain ⟨hn, hn2⟩ := hn
  obtain ⟨hm, hm2⟩ := hm
  by_cases hl : xs.length = ys.length
  case neg =>
    have hne : decide (xs = ys) = false := decide_eq_false fun e => hl (by rw [e])
    have e4 : ((xs.length : Int) != (ys.length : Int)) = true := by simp; omega
    have e5 : (xs.length != ys.length) = true := by simpa using hl
    rw [hne]
    clear hne hl ha hb hn2 hm2
    generalize xs.length = n at *
    generalize ys.length = m at *
    go_enter Try.func85, Try.ntmps85
    go_wp2
    go_ret
    exact ⟨rfl, 0, rfl⟩
  have Hl := Lib.hid hl
  have Hn2 := Lib.hid hn2
  have Hm2 := Lib.hid hm2
  have Ha := Lib.hid ha
  have Hb := Lib.hid hb
  rw [← hl] at hb ⊢
  clear hm hl hn2 hm2
  obtain ⟨n, hn'⟩ : ∃ n, n = xs.length := ⟨_, rfl⟩
  have Hn := Lib.hid hn'
  rw [← hn'] at ha hb hn ⊢
  clear hn'
  go_enter Try.func85, Try.ntmps85
  go_wp2
  go_loopw [17] (fun i wr => ∃ k m : Nat, k ≤ n ∧ i = .int .i64 k ∧ wr = w.drewN m ∧ Hid (xs.take k = ys.take k)) (fun i _ => n - (intOf i).toNat)
  case atStart => exact ⟨0, 0, Nat.zero_le _, rfl, rfl, rfl⟩
  case round =>
    obtain ⟨k, m, hk, rfl, rfl, hA⟩ := hrel
    by_cases hlt : k < n
    · have hkx : k < xs.length := by rw [← Hn.out]; exact hlt
      have hky : k < ys.length := by rw [← Hl.out]; exact hkx
      obtain ⟨x, hx⟩ : ∃ x, xs[k]? = some x := ⟨_, List.getElem?_eq_getElem hkx⟩
      obtain ⟨y, hy⟩ : ∃ y, ys[k]? = some y := ⟨_, List.getElem?_eq_getElem hky⟩
      obtain ⟨g, us, u, d, hv, hc, hE, hg, _⟩ := ha.at_ (ints_ok _) hx
      obtain ⟨g', us', u', d', hv', hc', hE', hg', _⟩ := hb.at_ (ints_ok _) hy
      simp only [Value.slice.injEq] at hv hv'
      obtain ⟨rfl, e2, rfl⟩ := hv
      obtain ⟨rfl, e3, rfl⟩ := hv'
      clear e2 e3
      have bx := Hn2.out x (List.mem_of_getElem? hx)
      have bly := Hm2.out y (List.mem_of_getElem? hy)
      have q := Lib.hid fun j => equal_ints (w.drewN j) bx bly ((ints_ok _).drewN hE j) ((ints_ok _).drewN hE' j)
      obtain ⟨A2, k2, rfl⟩ := RowE.slice hE
      obtain ⟨A3, k3, rfl⟩ := RowE.slice hE'
      by_cases hxy : x = y
      · have hq := q.out
        rw [decide_eq_true hxy] at hq
        have Q := Lib.hid hq
        have hnx := Lib.hid (same_take hx (by rw [hxy]; exact hy) hA.out)
        clear hkx hky hx hy hA q hq hxy hE hE' bx bly
        go_wp2_with fail
        refine (Q.out _).mono ?_
        rintro e w' ⟨rfl, j, rfl⟩
        go_wp2
        go_roundw
        case rel => exact ⟨k + 1, _, by omega, by go_num, by first | rfl | rw [World.drewN_drewN], hnx⟩
        case measure => simp [intOf]; omega
      · have hq := q.out
        rw [decide_eq_false hxy] at hq
        have Q := Lib.hid hq
        have hno : Hid (decide (xs = ys) = false) := decide_eq_false (not_same hx hy hxy)
        clear hkx hky hx hy hA q hq hxy hE hE' bx bly
        go_wp2_with fail
        refine (Q.out _).mono ?_
        rintro e w' ⟨rfl, j, rfl⟩
        go_wp2
        go_ret
        exact ⟨by rw [hno.out]; rfl, _, by first | rfl | rw [World.drewN_drewN]⟩
    · have e : k = n := by omega
      subst e
      have hall : Hid (decide (xs = ys) = true) := by
        have h1 := hA.out
        have h2 := Hl.out
        rw [Hn.out, List.take_length, h2, List.take_length] at h1
        exact decide_eq_true h1
      clear hA
      go_wp2
      go_ret
      exact ⟨by rw [hall.out]; rfl, m, rfl⟩


set_option maxHeartbeats 1600000 in
theorem same_returns {base base' : Nat} {v v' : Value} {xs ys : List (List Int)} {bs bs' : List Nat} (w : World) (hn : Bd2 xs) (hm : Bd2 ys) (ha : Ints2E base w v xs bs) (hb : Ints2E base' w v' ys bs') :
    Calls Try.prog 54 #[v, v'] w fun e w' => e = .returned (.bool (decide (xs = ys))) ∧ ∃ m, w' = w.drewN m := by
  have H := Lib.hid (eqf_ints2 w hn hm ha hb)
  clear hn hm ha hb
  go_enter Try.func54, Try.ntmps54
  go_wp2_with fail
  refine H.out.mono ?_
  rintro e w' ⟨rfl, m, rfl⟩
  go_wp2
  go_ret
  exact ⟨rfl, m, rfl⟩

end Go.Proofs.Ytdehehdcjfaefac
