/- SameQuery, of the model and of the program. -/
import Derived.Test.YtdehehdcjfaefacQr
import Derived.Test.YtdehehdcjfaefacSame
namespace Go.Proofs.Ytdehehdcjfaefac
open Go.RowKit
set_option linter.unusedVariables false

theorem toList_ne {x y : ByteArray} (h : x ≠ y) : (x.toList == y.toList) = false := by
  rw [ByteArray.toList_eq, ByteArray.toList_eq]
  refine beq_eq_false_iff_ne.2 fun e => h ?_
  obtain ⟨⟨l⟩⟩ := x
  obtain ⟨⟨m⟩⟩ := y
  simp at e
  rw [e]
set_option maxHeartbeats 1600000 in
set_option maxRecDepth 100000 in
theorem equal_steps {base base' : Nat} {v v' : Value} {xs ys : List (Bool × ByteArray)} {bs bs' : List Nat} (w : World) (hn : Bd1 xs) (hm : Bd1 ys) (ha : StepE base w v xs bs) (hb : StepE base' w v' ys bs') :
    Calls Try.prog 41 #[v, v'] w fun e w' => e = .returned (.bool (decide (xs = ys))) ∧ ∃ m, w' = w.drewN m := by
  obtain ⟨A, ca, rfl⟩ := RowE.slice ha
  obtain ⟨B, cb, rfl⟩ := RowE.slice hb
  unfold Bd1 at hn hm
  by_cases hl : xs.length = ys.length
  case neg =>
    have hne : decide (xs = ys) = false := decide_eq_false fun e => hl (by rw [e])
    have e4 : ((xs.length : Int) != (ys.length : Int)) = true := by simp; omega
    have e5 : (xs.length != ys.length) = true := by simpa using hl
    rw [hne]
    clear hne hl ha hb
    generalize xs.length = n at *
    generalize ys.length = m at *
    go_enter Try.func41, Try.ntmps41
    go_wp2
    go_ret
    exact ⟨rfl, 0, rfl⟩
  have Hl := Lib.hid hl
  rw [← hl] at hb ⊢
  clear hl hm
  obtain ⟨n, hn'⟩ : ∃ n, n = xs.length := ⟨_, rfl⟩
  have Hn := Lib.hid hn'
  rw [← hn'] at ha hb hn ⊢
  clear hn'
  go_enter Try.func41, Try.ntmps41
  go_wp2
  go_loopw [13] (fun i wr => ∃ k m : Nat, k ≤ n ∧ i = .int .i64 k ∧ wr = w.drewN m ∧ Hid (xs.take k = ys.take k)) (fun i _ => n - (intOf i).toNat)
  case atStart => exact ⟨0, 0, Nat.zero_le _, rfl, rfl, rfl⟩
  case round =>
    obtain ⟨k, m, hk, rfl, rfl, hA⟩ := hrel
    by_cases hlt : k < n
    · have hkx : k < xs.length := by rw [← Hn.out]; exact hlt
      have hky : k < ys.length := by rw [← Hl.out]; exact hkx
      obtain ⟨x, hx⟩ : ∃ x, xs[k]? = some x := ⟨_, List.getElem?_eq_getElem hkx⟩
      obtain ⟨y, hy⟩ : ∃ y, ys[k]? = some y := ⟨_, List.getElem?_eq_getElem hky⟩
      obtain ⟨g, rfl, hg, _⟩ := RowE.head ha hkx
      obtain ⟨g', rfl, hg', _⟩ := RowE.head hb hky
      obtain ⟨x0, x1⟩ := x
      obtain ⟨y0, y1⟩ := y
      have hc0 : w.cell? ⟨g, k * 2, none⟩ = _ := (StepE.cell' ha hx).1
      have hc1 : w.cell? ⟨g, k * 2 + 1, none⟩ = _ := (StepE.cell' ha hx).2
      have hc0' : w.cell? ⟨g', k * 2, none⟩ = _ := (StepE.cell' hb hy).1
      have hc1' : w.cell? ⟨g', k * 2 + 1, none⟩ = _ := (StepE.cell' hb hy).2
      dsimp only at hc0 hc1 hc0' hc1'
      by_cases hxy : (x0, x1) = (y0, y1)
      · simp only [Prod.mk.injEq] at hxy
        obtain ⟨rfl, rfl⟩ := hxy
        have hnx := Lib.hid (same_take hx hy hA.out)
        clear hkx hky hx hy hA
        go_wp2_with fail
        go_quiet (fail)
        go_wp2
        go_roundw
        case rel => exact ⟨k + 1, _, by omega, by go_num, by first | rfl | rw [World.drewN_drewN], hnx⟩
        case measure => simp [intOf]; omega
      · have hno : Hid (decide (xs = ys) = false) := decide_eq_false (not_same hx hy hxy)
        have e4 : ¬ (x0 = y0 ∧ x1 = y1) := by simpa using hxy
        clear hkx hky hx hy hA
        by_cases h0 : x0 = y0
        · subst h0
          have h1 : ¬ x1 = y1 := fun e => e4 ⟨rfl, e⟩
          have e5 := toList_ne h1
          clear e4 hxy h1
          go_wp2_with fail
          go_quiet (fail)
          go_wp2
          go_ret
          exact ⟨by rw [hno.out]; rfl, _, by first | rfl | rw [World.drewN_drewN]⟩
        · have e5 : (x0 == y0) = false := by simpa using h0
          have e6 : (x0 != y0) = true := by simpa using h0
          clear e4 hxy
          go_wp2_with fail
          go_quiet (fail)
          go_wp2
          go_ret
          exact ⟨by rw [hno.out]; rfl, _, by first | rfl | rw [World.drewN_drewN]⟩
    · have e : k = n := by omega
      subst e
      have hall : Hid (decide (xs = ys) = true) := by
        have h1 := hA.out
        have h2 := Hl.out
        rw [Hn.out, List.take_length, h2, List.take_length] at h1
        exact decide_eq_true h1
      clear hA
      go_wp2
      go_ret
      exact ⟨by rw [hall.out]; rfl, m, rfl⟩

set_option maxHeartbeats 1600000 in
set_option maxRecDepth 100000 in
theorem spec_steps {base base' B C : Nat} {v v' : Value} {xs ys : List (Bool × ByteArray)} {bs bs' : List Nat} (w : World) (hn : Bd1 xs) (hm : Bd1 ys) (hB : w.cell? ⟨B, 0, none⟩ = some v) (hC : w.cell? ⟨C, 0, none⟩ = some v') (ha : StepE base w v xs bs) (hb : StepE base' w v' ys bs') :
    Calls Try.prog 40 #[.pointer (some ⟨B, 0, none⟩), .pointer (some ⟨C, 0, none⟩)] w fun e w' => e = .returned (.bool (decide (xs = ys))) ∧ ∃ m, w' = w.drewN m := by
  obtain ⟨A, ca, rfl⟩ := RowE.slice ha
  obtain ⟨D, cb, rfl⟩ := RowE.slice hb
  unfold Bd1 at hn hm
  by_cases hl : xs.length = ys.length
  case neg =>
    have hne : decide (xs = ys) = false := decide_eq_false fun e => hl (by rw [e])
    have e4 : ((xs.length : Int) != (ys.length : Int)) = true := by simp; omega
    have e5 : (xs.length != ys.length) = true := by simpa using hl
    rw [hne]
    clear hne hl ha hb
    generalize xs.length = n at *
    generalize ys.length = m at *
    go_enter Try.func40, Try.ntmps40
    go_wp2_with fail
    go_quiet (fail)
    go_wp2
    go_ret
    exact ⟨rfl, _, rfl⟩
  have Hl := Lib.hid hl
  rw [← hl] at hb hC
  clear hl hm
  obtain ⟨n, hn'⟩ : ∃ n, n = xs.length := ⟨_, rfl⟩
  have Hn := Lib.hid hn'
  rw [← hn'] at ha hb hn hB hC
  clear hn'
  go_enter Try.func40, Try.ntmps40
  go_wp2_with fail
  go_quiet (fail)
  go_wp2_with fail
  go_loopw [5] (fun i wr => ∃ k m : Nat, k ≤ n ∧ i = .int .i64 k ∧ wr = w.drewN m ∧ Hid (xs.take k = ys.take k)) (fun i _ => n - (intOf i).toNat)
  case atStart => exact ⟨0, _, Nat.zero_le _, rfl, rfl, rfl⟩
  case round =>
    obtain ⟨k, m, hk, rfl, rfl, hA⟩ := hrel
    by_cases hlt : k < n
    · have hkx : k < xs.length := by rw [← Hn.out]; exact hlt
      have hky : k < ys.length := by rw [← Hl.out]; exact hkx
      obtain ⟨x, hx⟩ : ∃ x, xs[k]? = some x := ⟨_, List.getElem?_eq_getElem hkx⟩
      obtain ⟨y, hy⟩ : ∃ y, ys[k]? = some y := ⟨_, List.getElem?_eq_getElem hky⟩
      obtain ⟨g, rfl, hg, _⟩ := RowE.head ha hkx
      obtain ⟨g', rfl, hg', _⟩ := RowE.head hb hky
      obtain ⟨x0, x1⟩ := x
      obtain ⟨y0, y1⟩ := y
      have hc0 : w.cell? ⟨g, k * 2, none⟩ = _ := (StepE.cell' ha hx).1
      have hc1 : w.cell? ⟨g, k * 2 + 1, none⟩ = _ := (StepE.cell' ha hx).2
      have hc0' : w.cell? ⟨g', k * 2, none⟩ = _ := (StepE.cell' hb hy).1
      have hc1' : w.cell? ⟨g', k * 2 + 1, none⟩ = _ := (StepE.cell' hb hy).2
      dsimp only at hc0 hc1 hc0' hc1'
      by_cases hxy : (x0, x1) = (y0, y1)
      · simp only [Prod.mk.injEq] at hxy
        obtain ⟨rfl, rfl⟩ := hxy
        have hnx := Lib.hid (same_take hx hy hA.out)
        clear hkx hky hx hy hA
        go_wp2_with fail
        go_quiet (fail)
        go_wp2
        go_roundw
        case rel => exact ⟨k + 1, _, by omega, by go_num, by first | rfl | rw [World.drewN_drewN], hnx⟩
        case measure => simp [intOf]; omega
      · have hno : Hid (decide (xs = ys) = false) := decide_eq_false (not_same hx hy hxy)
        have e4 : ¬ (x0 = y0 ∧ x1 = y1) := by simpa using hxy
        clear hkx hky hx hy hA
        by_cases h0 : x0 = y0
        · subst h0
          have h1 : ¬ x1 = y1 := fun e => e4 ⟨rfl, e⟩
          have e5 := toList_ne h1
          clear e4 hxy h1
          go_wp2_with fail
          go_quiet (fail)
          go_wp2
          go_ret
          exact ⟨by rw [hno.out]; rfl, _, by first | rfl | rw [World.drewN_drewN]⟩
        · have e5 : (x0 == y0) = false := by simpa using h0
          have e6 : (x0 != y0) = true := by simpa using h0
          clear e4 hxy
          go_wp2_with fail
          go_quiet (fail)
          go_wp2
          go_ret
          exact ⟨by rw [hno.out]; rfl, _, by first | rfl | rw [World.drewN_drewN]⟩
    · have e : k = n := by omega
      subst e
      have hall : Hid (decide (xs = ys) = true) := by
        have h1 := hA.out
        have h2 := Hl.out
        rw [Hn.out, List.take_length, h2, List.take_length] at h1
        exact decide_eq_true h1
      clear hA
      go_wp2
      go_ret
      exact ⟨by rw [hall.out]; rfl, m, rfl⟩

set_option maxHeartbeats 1600000 in
theorem spec_SameQuery {base base' : Nat} {v v' : Value} {c d : Qr} {bs bs' : List Nat} (w : World) (hc : BdQ c) (hd : BdQ d) (ha : QrE base w v c bs) (hb : QrE base' w v' d bs') :
    Calls Try.prog 15 #[v, v'] w (SeenPost (.bool (decide (c.steps = d.steps))) w) := by
  obtain ⟨v0, rfl, h0⟩ := ha
  obtain ⟨u0, rfl, g0⟩ := hb
  have hB : Below w.heap.size w ((w.alloc (.cells #[v0] 29)).alloc (.cells #[u0] 29)) := ((Below.refl _ _).alloc (Nat.le_refl _) _).alloc (by simp) _
  have x1 := (Bx.new w 29 #[v0]).alloc (.cells #[u0] 29)
  have x2 := Bx.new (w.alloc (.cells #[v0] 29)) 29 #[u0]
  rw [World.size_alloc] at x2
  have Q := Lib.hid (spec_steps _ hc.steps hd.steps (x1.cell 0 _ rfl) (x2.cell 0 _ rfl) ((step_ok _).later h0 hB) ((step_ok _).later g0 hB))
  clear h0 g0 x1 x2 hc hd
  go_enter Try.func15, Try.ntmps15
  go_wp2_with fail
  refine Q.out.mono ?_
  rintro e w1 ⟨rfl, m, rfl⟩
  go_wp2
  go_ret
  exact ⟨rfl, below_drewN hB m⟩
set_option maxHeartbeats 1600000 in
theorem impl_SameQuery {base base' : Nat} {v v' : Value} {c d : Qr} {bs bs' : List Nat} (w : World) (hc : BdQ c) (hd : BdQ d) (ha : QrE base w v c bs) (hb : QrE base' w v' d bs') :
    Calls Try.prog 16 #[v, v'] w (SeenPost (.bool (decide (c.steps = d.steps))) w) := by
  obtain ⟨v0, rfl, h0⟩ := ha
  obtain ⟨u0, rfl, g0⟩ := hb
  have hB : Below w.heap.size w ((w.alloc (.cells #[v0] 29)).alloc (.cells #[u0] 29)) := ((Below.refl _ _).alloc (Nat.le_refl _) _).alloc (by simp) _
  have x1 := (Bx.new w 29 #[v0]).alloc (.cells #[u0] 29)
  have x2 := Bx.new (w.alloc (.cells #[v0] 29)) 29 #[u0]
  rw [World.size_alloc] at x2
  have c1 := x1.cell 0 _ rfl
  have c2 := x2.cell 0 _ rfl
  have Q := Lib.hid (equal_steps _ hc.steps hd.steps ((step_ok _).later h0 hB) ((step_ok _).later g0 hB))
  clear h0 g0 x1 x2 hc hd
  go_enter Try.func16, Try.ntmps16
  go_wp2_with fail
  refine Q.out.mono ?_
  rintro e w1 ⟨rfl, m, rfl⟩
  go_wp2
  go_ret
  exact ⟨rfl, below_drewN hB m⟩
theorem both_SameQuery (c d : Qr) : ∃ (r0 : Bool),
    (∀ base0 v0 bs0 base1 v1 bs1 w, BdQ c → BdQ d → QrE base0 w v0 c bs0 → QrE base1 w v1 d bs1 → Calls Try.prog 15 #[v0, v1] w (TupPost (.bool r0) w)) ∧
    (∀ base0 v0 bs0 base1 v1 bs1 w, BdQ c → BdQ d → QrE base0 w v0 c bs0 → QrE base1 w v1 d bs1 → Calls Try.prog 16 #[v0, v1] w (TupPost (.bool r0) w)) :=
  ⟨_, fun _ _ _ _ _ _ w hc hd ha hb => spec_SameQuery w hc hd ha hb, fun _ _ _ _ _ _ w hc hd ha hb => impl_SameQuery w hc hd ha hb⟩
end Go.Proofs.Ytdehehdcjfaefac
