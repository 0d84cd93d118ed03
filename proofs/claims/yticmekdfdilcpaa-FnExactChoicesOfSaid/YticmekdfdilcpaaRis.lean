/- Numbers that rise: l00Rises of the model, isNumberList of the program. -/
import Derived.Test.YticmekdfdilcpaaBelow
import Derived.BigQuiet
import Derived.Deep.QuietTactic
import Derived.IntWalk
namespace Go.Proofs.Yticmekdfdilcpaa
open Go.RowKit
set_option linter.unusedVariables false

/-- The first k elements rise. -/
def risB2 (xs : List Int) (i : Nat) : Bool := i == 0 || decide (xs[i - 1]?.getD 0 < xs[i]?.getD 0)
def risT (xs : List Int) (k : Nat) : Bool := (List.range k).all fun i => risB2 xs i
def risB (xs : List Int) (n : Int) : Bool := allB xs n && risT xs xs.length
theorem risT_succ (xs : List Int) (k : Nat) : risT xs (k + 1) = (risT xs k && risB2 xs k) := by
  unfold risT
  rw [List.range_succ, List.all_append]
  simp
theorem risT_no {xs : List Int} {k n : Nat} (hk : k < n) (h : risB2 xs k = false) : risT xs n = false := by
  unfold risT
  rw [List.all_eq_false]
  exact ⟨k, List.mem_range.2 hk, by simp [h]⟩
theorem risB2_zero (xs : List Int) : risB2 xs 0 = true := rfl
theorem risB2_yes {xs : List Int} {k : Nat} {x y : Int} (hx : xs[k]? = some x) (hy : xs[k + 1]? = some y) (h : x < y) : risB2 xs (k + 1) = true := by
  simp [risB2, hx, hy, h]
theorem risB2_not {xs : List Int} {k : Nat} {x y : Int} (hx : xs[k]? = some x) (hy : xs[k + 1]? = some y) (h : ¬ x < y) : risB2 xs (k + 1) = false := by
  simp only [risB2, Nat.add_sub_cancel, hx, hy, Option.getD_some, h, decide_false, Bool.or_false]
  simp
theorem risB_in {xs : List Int} {n : Int} {k : Nat} {x : Int} (hx : xs[k]? = some x) (h : inB x n = false) : risB xs n = false := by rw [risB, allB_no hx h, Bool.false_and]
theorem risB_up {xs : List Int} {n : Int} {k : Nat} (hk : k < xs.length) (h : risB2 xs k = false) : risB xs n = false := by rw [risB, risT_no hk h, Bool.and_false]

set_option maxHeartbeats 3200000 in
set_option maxRecDepth 100000 in
theorem spec_rises {base : Nat} {v : Value} {xs : List Int} {bs : List Nat} (m : Int) (w : World) (hn : Bd1 xs) (ha : IntsE base w v xs bs) :
    Calls Try.prog 87 #[v, .int .i64 0, .int .i64 (m - 1)] w fun e w' => e = .returned (.bool (risB xs m)) ∧ ∃ q, w' = w.drewN q := by
  obtain ⟨A, ca, rfl⟩ := RowE.slice ha
  unfold Bd1 at hn
  obtain ⟨n, hn'⟩ : ∃ n, n = xs.length := ⟨_, rfl⟩
  have Hn := Lib.hid hn'
  have hal : ∀ (W : World), W.heap = w.heap → IntsE base W (.slice A xs.length ca) xs bs := fun W h => (ints_ok _).kept ha fun _ _ => by rw [h]
  rw [← hn'] at ha hn hal ⊢
  have Hal := Lib.hid hal
  clear hn' hal
  go_enter Try.func87, Try.ntmps87
  go_wp2
  go_loopw [7] (fun i wr => ∃ k q : Nat, k ≤ n ∧ i = .int .i64 k ∧ wr = w.drewN q ∧ Hid (allB (xs.take k) m = true ∧ risT xs k = true)) (fun i _ => n - (intOf i).toNat)
  case atStart => exact ⟨0, 0, Nat.zero_le _, rfl, rfl, rfl, rfl⟩
  case round =>
    obtain ⟨k, q, hk, rfl, rfl, hA⟩ := hrel
    by_cases hlt : k < n
    · have hkx : k < xs.length := by rw [← Hn.out]; exact hlt
      obtain ⟨x, hx⟩ : ∃ x, xs[k]? = some x := ⟨_, List.getElem?_eq_getElem hkx⟩
      obtain ⟨g, rfl, hg, _⟩ := RowE.head ha hkx
      have hc : (w.drewN q).cell? ⟨g, k, none⟩ = _ := IntsE.cell' ha hx
      have hc' : w.cell? ⟨g, k, none⟩ = _ := IntsE.cell' ha hx
      cases hb : inB x m with
      | false =>
        have hno := Lib.hid (risB_in (n := m) hx hb)
        have hq : ∀ W, Calls Try.prog 86 #[.int .i64 x, .int .i64 0, .int .i64 (m - 1)] W fun e w' => e = .returned (.bool false) ∧ W = w' := fun W => by have h := spec_in (x := x) (n := m) W; rw [hb] at h; exact h
        have Hq := Lib.hid hq
        clear hkx hx hA hb hq
        go_wp2_with fail
        go_quiet (exact (Hq.out _).mono fun e w' h => ⟨h.1, _, h.2.symm⟩)
        go_wp2
        go_ret
        exact ⟨by rw [hno.out]; rfl, _, by first | rfl | rw [World.drewN_drewN]⟩
      | true =>
        have hq : ∀ W, Calls Try.prog 86 #[.int .i64 x, .int .i64 0, .int .i64 (m - 1)] W fun e w' => e = .returned (.bool true) ∧ W = w' := fun W => by have h := spec_in (x := x) (n := m) W; rw [hb] at h; exact h
        have Hq := Lib.hid hq
        have hsn := Lib.hid (allB_snoc hx hb hA.out.1)
        cases k with
        | zero =>
          have hnx : Hid (allB (xs.take (0 + 1)) m = true ∧ risT xs (0 + 1) = true) := ⟨hsn.out, by rw [risT_succ, hA.out.2, risB2_zero]; rfl⟩
          clear hkx hx hA hb hq hsn
          go_wp2_with fail
          go_quiet (exact (Hq.out _).mono fun e w' h => ⟨h.1, _, h.2.symm⟩)
          go_wp2
          go_roundw
          case rel => exact ⟨0 + 1, _, by omega, by go_num, by first | rfl | rw [World.drewN_drewN], hnx⟩
          case measure => simp [intOf]; omega
        | succ j =>
          obtain ⟨y, hy⟩ : ∃ y, xs[j]? = some y := ⟨_, List.getElem?_eq_getElem (by omega)⟩
          have hd : (w.drewN q).cell? ⟨g, j, none⟩ = _ := IntsE.cell' ha hy
          have hd' : w.cell? ⟨g, j, none⟩ = _ := IntsE.cell' ha hy
          have e1 : IntKind.i64.wrap (((j + 1 : Nat) : Int) - 1) = (j : Int) := by rw [IntWalk.i64_in _ (by omega)]; omega
          by_cases hyx : y < x
          · have hnx : Hid (allB (xs.take (j + 1 + 1)) m = true ∧ risT xs (j + 1 + 1) = true) := ⟨hsn.out, by rw [risT_succ, hA.out.2, risB2_yes hy hx hyx]; rfl⟩
            have hge : ¬ (x ≤ y) := by omega
            clear hkx hx hy hA hb hq hsn
            go_wp2_with fail
            go_quiet (exact (Hq.out _).mono fun e w' h => ⟨h.1, _, h.2.symm⟩)
            go_wp2
            go_roundw
            case rel => exact ⟨j + 1 + 1, _, by omega, by go_num, by first | rfl | rw [World.drewN_drewN], hnx⟩
            case measure => simp [intOf]; omega
          · have hno := Lib.hid (risB_up (n := m) hkx (risB2_not hy hx hyx))
            have hge : x ≤ y := by omega
            clear hkx hx hy hA hb hq hsn hyx
            go_wp2_with fail
            go_quiet (exact (Hq.out _).mono fun e w' h => ⟨h.1, _, h.2.symm⟩)
            go_wp2
            go_ret
            exact ⟨by rw [hno.out]; rfl, _, by first | rfl | rw [World.drewN_drewN]⟩
    · have e : k = n := by omega
      subst e
      have hall : Hid (risB xs m = true) := by
        have h1 := hA.out
        rw [Hn.out, List.take_length] at h1
        show _ = _
        rw [risB, h1.1, h1.2]; rfl
      clear hA
      go_wp2
      go_ret
      exact ⟨by rw [hall.out]; rfl, q, rfl⟩

/-- How two numbers compare. -/
def cmpI (a b : Int) : Int := if a < b then -1 else if b < a then 1 else 0
theorem cmpI_ge {a b : Int} : (0 ≤ cmpI a b) ↔ ¬ a < b := by
  unfold cmpI
  split
  · omega
  · split <;> omega
theorem impl_isNaN (x : Int) (w : World) : Calls Try.prog 139 #[.int .i64 x] w fun e w' => e = .returned (.bool false) ∧ w = w' := by
  go_enter Try.func139, Try.ntmps139
  go_wp2
  go_ret
  exact ⟨by simp, rfl⟩
theorem impl_compare (a b : Int) (w : World) : Calls Try.prog 91 #[.int .i64 a, .int .i64 b] w fun e w' => e = .returned (.int .i64 (cmpI a b)) ∧ w = w' := by
  have hN := Lib.hid impl_isNaN
  by_cases h1 : a < b
  · have e : cmpI a b = -1 := by unfold cmpI; rw [if_pos h1]
    rw [e]
    clear e
    go_enter Try.func91, Try.ntmps91
    go_wp2_with (go_at_call 139; refine (hN.out _ _).mono ?_; rintro e w' ⟨rfl, rfl⟩)
    go_ret
    exact ⟨rfl, rfl⟩
  · by_cases h2 : b < a
    · have e : cmpI a b = 1 := by unfold cmpI; rw [if_neg h1, if_pos h2]
      rw [e]
      clear e
      go_enter Try.func91, Try.ntmps91
      go_wp2_with (go_at_call 139; refine (hN.out _ _).mono ?_; rintro e w' ⟨rfl, rfl⟩)
      go_ret
      exact ⟨rfl, rfl⟩
    · have e : cmpI a b = 0 := by unfold cmpI; rw [if_neg h1, if_neg h2]
      rw [e]
      clear e
      go_enter Try.func91, Try.ntmps91
      go_wp2_with (go_at_call 139; refine (hN.out _ _).mono ?_; rintro e w' ⟨rfl, rfl⟩)
      go_ret
      exact ⟨rfl, rfl⟩

theorem entersR {P : Program} {f : FuncId} {fn : Func} {c : Code} (hf : P.funcs[f]? = some fn) (hname : (fn.name == "runtime.NumGoroutine") = false) (hb : fn.body = some c) (args : Array Value) (w : World) :
    (callFunc f args).run P w = .ok (.enter f args) w := by
  have h1 : fn.name ≠ "runtime.NumGoroutine" := by simpa using hname
  simp [callFunc, hf, h1, hb]
set_option maxHeartbeats 3200000 in
set_option maxRecDepth 100000 in
theorem impl_incr {base : Nat} {v : Value} {xs : List Int} {bs : List Nat} (w : World) (hn : Bd1 xs) (ha : IntsE base w v xs bs) :
    Calls Try.prog 90 #[v, .func (.func 91) #[] #[]] w fun e w' => e = .returned (.bool (risT xs xs.length)) ∧ ∃ q, w' = w.drewN q := by
  obtain ⟨A, ca, rfl⟩ := RowE.slice ha
  unfold Bd1 at hn
  obtain ⟨n, hn'⟩ : ∃ n, n = xs.length := ⟨_, rfl⟩
  have Hn := Lib.hid hn'
  rw [← hn'] at ha hn ⊢
  clear hn'
  have hcf : ∀ args w, (callFunc 91 args).run Try.prog w = .ok (.enter 91 args) w := fun args w => entersR (fn := Try.f91) (by kernel_rfl) (by kernel_rfl) rfl args w
  have Hcf := Lib.hid hcf
  clear hcf
  have Hc := Lib.hid impl_compare
  go_enter Try.func90, Try.ntmps90
  go_wp2_with fail
  go_loopw [5] (fun i wr => ∃ k q : Nat, (k + 1 ≤ n ∨ k = 0) ∧ i = .int .i64 ((k + 1 : Nat) : Int) ∧ wr = w.drewN q ∧ Hid (risT xs (k + 1) = true)) (fun i _ => n + 1 - (intOf i).toNat)
  case atStart => exact ⟨0, 0, .inr rfl, rfl, rfl, rfl⟩
  case round =>
    obtain ⟨k, q, hk, rfl, rfl, hA⟩ := hrel
    by_cases hlt : k + 1 < n
    · have hkx : k + 1 < xs.length := by rw [← Hn.out]; exact hlt
      obtain ⟨x, hx⟩ : ∃ x, xs[k]? = some x := ⟨_, List.getElem?_eq_getElem (by omega)⟩
      obtain ⟨y, hy⟩ : ∃ y, xs[k + 1]? = some y := ⟨_, List.getElem?_eq_getElem hkx⟩
      obtain ⟨g, rfl, hg, _⟩ := RowE.head ha hkx
      have hc : (w.drewN q).cell? ⟨g, k, none⟩ = _ := IntsE.cell' ha hx
      have hc' : w.cell? ⟨g, k, none⟩ = _ := IntsE.cell' ha hx
      have hd : (w.drewN q).cell? ⟨g, k + 1, none⟩ = _ := IntsE.cell' ha hy
      have hd' : w.cell? ⟨g, k + 1, none⟩ = _ := IntsE.cell' ha hy
      have e1 : IntKind.i64.wrap (((k + 1 : Nat) : Int) - 1) = (k : Int) := by rw [IntWalk.i64_in _ (by omega)]; omega
      have hcm := Lib.hid (fun W => impl_compare x y W)
      have hge := cmpI_ge (a := x) (b := y)
      obtain ⟨z, hz⟩ : ∃ z, z = cmpI x y := ⟨_, rfl⟩
      rw [← hz] at hge hcm
      clear hz
      by_cases hxy : x < y
      · have hnx : Hid (risT xs (k + 1 + 1) = true) := by show _ = _; rw [risT_succ, hA.out, risB2_yes hx hy hxy]; rfl
        have hz0 : ¬ (0 ≤ z) := by rw [hge]; simpa using hxy
        clear hkx hx hy hA hge hxy
        have hcf := Hcf.out
        go_wp2_with fail
        go_quiet (exact (hcm.out _).mono fun e w' h => ⟨h.1, _, h.2.symm⟩)
        clear hcf
        go_wp2
        go_roundw
        case rel => exact ⟨k + 1, _, by omega, by go_num, by first | rfl | rw [World.drewN_drewN], hnx⟩
        case measure => simp [intOf]; omega
      · have hno : Hid (risT xs n = false) := by rw [Hn.out]; exact risT_no hkx (risB2_not hx hy hxy)
        have hz0 : 0 ≤ z := by rw [hge]; exact hxy
        clear hkx hx hy hA hge hxy
        have hcf := Hcf.out
        go_wp2_with fail
        go_quiet (exact (hcm.out _).mono fun e w' h => ⟨h.1, _, h.2.symm⟩)
        clear hcf
        go_wp2
        go_ret
        exact ⟨by rw [hno.out]; rfl, _, by first | rfl | rw [World.drewN_drewN]⟩
    · have hall : Hid (risT xs n = true) := by
        rcases Nat.lt_or_ge k n with h | h
        · have e : n = k + 1 := by omega
          rw [e]; exact hA.out
        · have e : n = 0 := by omega
          rw [e]; rfl
      clear hA
      go_wp2
      go_ret
      exact ⟨by rw [hall.out]; rfl, q, rfl⟩

set_option maxHeartbeats 1600000 in
set_option maxRecDepth 100000 in
theorem impl_numbers {base : Nat} {v : Value} {xs : List Int} {bs : List Nat} (m : Int) (w : World) (hn : Bd1 xs) (ha : IntsE base w v xs bs) :
    Calls Try.prog 38 #[v, .int .i64 m] w fun e w' => e = .returned (.bool (risB xs m)) ∧ ∃ q, w' = w.drewN q := by
  have h1 := impl_all m w hn ha
  have h2 := impl_incr w hn ha
  obtain ⟨A, ca, rfl⟩ := RowE.slice ha
  have H1 := Lib.hid h1
  have H2 := Lib.hid h2
  have hr : risB xs m = (allB xs m && risT xs xs.length) := rfl
  rw [hr]
  clear h1 h2 hr ha
  generalize allB xs m = a at *
  generalize risT xs xs.length = b at *
  cases a with
  | false =>
    go_enter Try.func38, Try.ntmps38
    go_wp2_with (go_at_call 89; refine H1.out.mono ?_; rintro e w' ⟨rfl, rfl⟩)
    go_ret
    exact ⟨rfl, 0, rfl⟩
  | true =>
    go_enter Try.func38, Try.ntmps38
    go_wp2_with fail
    refine H1.out.mono ?_
    rintro e w' ⟨rfl, rfl⟩
    go_wp2_with fail
    refine H2.out.mono ?_
    rintro e w' ⟨rfl, q, rfl⟩
    go_wp2
    go_ret
    exact ⟨rfl, q, rfl⟩
end Go.Proofs.Yticmekdfdilcpaa
