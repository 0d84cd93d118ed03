/- Rows of moves that write: slices.Equal and slices.EqualFunc of the program, the model's comparison. -/
import Derived.Test.YtkpajompmmfkjaaSame
import Derived.Test.YtkpajompmmfkjaaOmm
namespace Go.Proofs.Ytkpajompmmfkjaa
open Go.RowKit
set_option linter.unusedVariables false

theorem toList_ne {x y : ByteArray} (h : x ≠ y) : (x.toList == y.toList) = false := by
  rw [ByteArray.toList_eq, ByteArray.toList_eq]
  refine beq_eq_false_iff_ne.2 fun e => h ?_
  obtain ⟨⟨l⟩⟩ := x
  obtain ⟨⟨m⟩⟩ := y
  simp at e
  rw [e]
set_option maxHeartbeats 1600000 in
set_option maxRecDepth 100000 in
theorem equal_oms {base base' : Nat} {v v' : Value} {xs ys : List (Int × ByteArray)} {bs bs' : List Nat} (w : World) (hn : Bd1 xs) (hm : Bd1 ys) (ha : OmE base w v xs bs) (hb : OmE base' w v' ys bs') :
    Calls Try.prog 69 #[v, v'] w fun e w' => e = .returned (.bool (decide (xs = ys))) ∧ ∃ m, w' = w.drewN m := by
  obtain ⟨A, ca, rfl⟩ := RowE.slice ha
  obtain ⟨B, cb, rfl⟩ := RowE.slice hb
  unfold Bd1 at hn hm
  by_cases hl : xs.length = ys.length
  case neg =>
    have hne : decide (xs = ys) = false := decide_eq_false fun e => hl (by rw [e])
    have e4 : ((xs.length : Int) != (ys.length : Int)) = true := by simp; omega
    have e5 : (xs.length != ys.length) = true := by simpa using hl
    rw [hne]
    clear hne hl ha hb
    generalize xs.length = n at *
    generalize ys.length = m at *
    go_enter Try.func69, Try.ntmps69
    go_wp2
    go_ret
    exact ⟨rfl, 0, rfl⟩
  have Hl := Lib.hid hl
  rw [← hl] at hb ⊢
  clear hl hm
  obtain ⟨n, hn'⟩ : ∃ n, n = xs.length := ⟨_, rfl⟩
  have Hn := Lib.hid hn'
  rw [← hn'] at ha hb hn ⊢
  clear hn'
  go_enter Try.func69, Try.ntmps69
  go_wp2
  go_loopw [13] (fun i wr => ∃ k m : Nat, k ≤ n ∧ i = .int .i64 k ∧ wr = w.drewN m ∧ Hid (xs.take k = ys.take k)) (fun i _ => n - (intOf i).toNat)
  case atStart => exact ⟨0, 0, Nat.zero_le _, rfl, rfl, rfl⟩
  case round =>
    obtain ⟨k, m, hk, rfl, rfl, hA⟩ := hrel
    by_cases hlt : k < n
    · have hkx : k < xs.length := by rw [← Hn.out]; exact hlt
      have hky : k < ys.length := by rw [← Hl.out]; exact hkx
      obtain ⟨x, hx⟩ : ∃ x, xs[k]? = some x := ⟨_, List.getElem?_eq_getElem hkx⟩
      obtain ⟨y, hy⟩ : ∃ y, ys[k]? = some y := ⟨_, List.getElem?_eq_getElem hky⟩
      obtain ⟨g, rfl, hg, _⟩ := RowE.head ha hkx
      obtain ⟨g', rfl, hg', _⟩ := RowE.head hb hky
      obtain ⟨x0, x1⟩ := x
      obtain ⟨y0, y1⟩ := y
      have hc0 : w.cell? ⟨g, k * 2, none⟩ = _ := (OmE.cell' ha hx).1
      have hc1 : w.cell? ⟨g, k * 2 + 1, none⟩ = _ := (OmE.cell' ha hx).2
      have hc0' : w.cell? ⟨g', k * 2, none⟩ = _ := (OmE.cell' hb hy).1
      have hc1' : w.cell? ⟨g', k * 2 + 1, none⟩ = _ := (OmE.cell' hb hy).2
      dsimp only at hc0 hc1 hc0' hc1'
      by_cases hxy : (x0, x1) = (y0, y1)
      · simp only [Prod.mk.injEq] at hxy
        obtain ⟨rfl, rfl⟩ := hxy
        have hnx := Lib.hid (same_take hx hy hA.out)
        clear hkx hky hx hy hA
        go_wp2_with fail
        go_quiet (fail)
        go_wp2
        go_roundw
        case rel => exact ⟨k + 1, _, by omega, by go_num, by first | rfl | rw [World.drewN_drewN], hnx⟩
        case measure => simp [intOf]; omega
      · have hno : Hid (decide (xs = ys) = false) := decide_eq_false (not_same hx hy hxy)
        have e4 : ¬ (x0 = y0 ∧ x1 = y1) := by simpa using hxy
        clear hkx hky hx hy hA
        by_cases h0 : x0 = y0
        · subst h0
          have h1 : ¬ x1 = y1 := fun e => e4 ⟨rfl, e⟩
          have e5 := toList_ne h1
          clear e4 hxy h1
          go_wp2_with fail
          go_quiet (fail)
          go_wp2
          go_ret
          exact ⟨by rw [hno.out]; rfl, _, by first | rfl | rw [World.drewN_drewN]⟩
        · have e5 : (x0 == y0) = false := by simpa using h0
          have e6 : (x0 != y0) = true := by simpa using h0
          clear e4 hxy
          go_wp2_with fail
          go_quiet (fail)
          go_wp2
          go_ret
          exact ⟨by rw [hno.out]; rfl, _, by first | rfl | rw [World.drewN_drewN]⟩
    · have e : k = n := by omega
      subst e
      have hall : Hid (decide (xs = ys) = true) := by
        have h1 := hA.out
        have h2 := Hl.out
        rw [Hn.out, List.take_length, h2, List.take_length] at h1
        exact decide_eq_true h1
      clear hA
      go_wp2
      go_ret
      exact ⟨by rw [hall.out]; rfl, m, rfl⟩


set_option maxHeartbeats 1600000 in
set_option maxRecDepth 100000 in
theorem spec_moves {base base' : Nat} {v v' : Value} {xs ys : List (Int × ByteArray)} {bs bs' : List Nat} (w : World) (hn : Bd1 xs) (hm : Bd1 ys) (ha : OmE base w v xs bs) (hb : OmE base' w v' ys bs') :
    Calls Try.prog 32 #[v, v'] w fun e w' => e = .returned (.bool (decide (xs = ys))) ∧ ∃ m, w' = w.drewN m := by
  obtain ⟨A, ca, rfl⟩ := RowE.slice ha
  obtain ⟨B, cb, rfl⟩ := RowE.slice hb
  unfold Bd1 at hn hm
  by_cases hl : xs.length = ys.length
  case neg =>
    have hne : decide (xs = ys) = false := decide_eq_false fun e => hl (by rw [e])
    have e4 : ((xs.length : Int) != (ys.length : Int)) = true := by simp; omega
    have e5 : (xs.length != ys.length) = true := by simpa using hl
    rw [hne]
    clear hne hl ha hb
    generalize xs.length = n at *
    generalize ys.length = m at *
    go_enter Try.func32, Try.ntmps32
    go_wp2
    go_ret
    exact ⟨rfl, 0, rfl⟩
  have Hl := Lib.hid hl
  rw [← hl] at hb ⊢
  clear hl hm
  obtain ⟨n, hn'⟩ : ∃ n, n = xs.length := ⟨_, rfl⟩
  have Hn := Lib.hid hn'
  rw [← hn'] at ha hb hn ⊢
  clear hn'
  go_enter Try.func32, Try.ntmps32
  go_wp2
  go_loopw [5] (fun i wr => ∃ k m : Nat, k ≤ n ∧ i = .int .i64 k ∧ wr = w.drewN m ∧ Hid (xs.take k = ys.take k)) (fun i _ => n - (intOf i).toNat)
  case atStart => exact ⟨0, 0, Nat.zero_le _, rfl, rfl, rfl⟩
  case round =>
    obtain ⟨k, m, hk, rfl, rfl, hA⟩ := hrel
    by_cases hlt : k < n
    · have hkx : k < xs.length := by rw [← Hn.out]; exact hlt
      have hky : k < ys.length := by rw [← Hl.out]; exact hkx
      obtain ⟨x, hx⟩ : ∃ x, xs[k]? = some x := ⟨_, List.getElem?_eq_getElem hkx⟩
      obtain ⟨y, hy⟩ : ∃ y, ys[k]? = some y := ⟨_, List.getElem?_eq_getElem hky⟩
      obtain ⟨g, rfl, hg, _⟩ := RowE.head ha hkx
      obtain ⟨g', rfl, hg', _⟩ := RowE.head hb hky
      obtain ⟨x0, x1⟩ := x
      obtain ⟨y0, y1⟩ := y
      have hc0 : w.cell? ⟨g, k * 2, none⟩ = _ := (OmE.cell' ha hx).1
      have hc1 : w.cell? ⟨g, k * 2 + 1, none⟩ = _ := (OmE.cell' ha hx).2
      have hc0' : w.cell? ⟨g', k * 2, none⟩ = _ := (OmE.cell' hb hy).1
      have hc1' : w.cell? ⟨g', k * 2 + 1, none⟩ = _ := (OmE.cell' hb hy).2
      dsimp only at hc0 hc1 hc0' hc1'
      by_cases hxy : (x0, x1) = (y0, y1)
      · simp only [Prod.mk.injEq] at hxy
        obtain ⟨rfl, rfl⟩ := hxy
        have hnx := Lib.hid (same_take hx hy hA.out)
        clear hkx hky hx hy hA
        go_wp2_with fail
        go_quiet (fail)
        go_wp2
        go_roundw
        case rel => exact ⟨k + 1, _, by omega, by go_num, by first | rfl | rw [World.drewN_drewN], hnx⟩
        case measure => simp [intOf]; omega
      · have hno : Hid (decide (xs = ys) = false) := decide_eq_false (not_same hx hy hxy)
        have e4 : ¬ (x0 = y0 ∧ x1 = y1) := by simpa using hxy
        clear hkx hky hx hy hA
        by_cases h0 : x0 = y0
        · subst h0
          have h1 : ¬ x1 = y1 := fun e => e4 ⟨rfl, e⟩
          have e5 := toList_ne h1
          clear e4 hxy h1
          go_wp2_with fail
          go_quiet (fail)
          go_wp2
          go_ret
          exact ⟨by rw [hno.out]; rfl, _, by first | rfl | rw [World.drewN_drewN]⟩
        · have e5 : (x0 == y0) = false := by simpa using h0
          have e6 : (x0 != y0) = true := by simpa using h0
          clear e4 hxy
          go_wp2_with fail
          go_quiet (fail)
          go_wp2
          go_ret
          exact ⟨by rw [hno.out]; rfl, _, by first | rfl | rw [World.drewN_drewN]⟩
    · have e : k = n := by omega
      subst e
      have hall : Hid (decide (xs = ys) = true) := by
        have h1 := hA.out
        have h2 := Hl.out
        rw [Hn.out, List.take_length, h2, List.take_length] at h1
        exact decide_eq_true h1
      clear hA
      go_wp2
      go_ret
      exact ⟨by rw [hall.out]; rfl, m, rfl⟩


set_option maxHeartbeats 1600000 in
set_option maxRecDepth 100000 in
theorem equal_ops {base base' : Nat} {v v' : Value} {xs ys : List (Int × Int × ByteArray)} {bs bs' : List Nat} (w : World) (hn : Bd1 xs) (hm : Bd1 ys) (ha : OpE base w v xs bs) (hb : OpE base' w v' ys bs') :
    Calls Try.prog 67 #[v, v'] w fun e w' => e = .returned (.bool (decide (xs = ys))) ∧ ∃ m, w' = w.drewN m := by
  obtain ⟨A, ca, rfl⟩ := RowE.slice ha
  obtain ⟨B, cb, rfl⟩ := RowE.slice hb
  unfold Bd1 at hn hm
  by_cases hl : xs.length = ys.length
  case neg =>
    have hne : decide (xs = ys) = false := decide_eq_false fun e => hl (by rw [e])
    have e4 : ((xs.length : Int) != (ys.length : Int)) = true := by simp; omega
    have e5 : (xs.length != ys.length) = true := by simpa using hl
    rw [hne]
    clear hne hl ha hb
    generalize xs.length = n at *
    generalize ys.length = m at *
    go_enter Try.func67, Try.ntmps67
    go_wp2
    go_ret
    exact ⟨rfl, 0, rfl⟩
  have Hl := Lib.hid hl
  rw [← hl] at hb ⊢
  clear hl hm
  obtain ⟨n, hn'⟩ : ∃ n, n = xs.length := ⟨_, rfl⟩
  have Hn := Lib.hid hn'
  rw [← hn'] at ha hb hn ⊢
  clear hn'
  go_enter Try.func67, Try.ntmps67
  go_wp2
  go_loopw [13] (fun i wr => ∃ k m : Nat, k ≤ n ∧ i = .int .i64 k ∧ wr = w.drewN m ∧ Hid (xs.take k = ys.take k)) (fun i _ => n - (intOf i).toNat)
  case atStart => exact ⟨0, 0, Nat.zero_le _, rfl, rfl, rfl⟩
  case round =>
    obtain ⟨k, m, hk, rfl, rfl, hA⟩ := hrel
    by_cases hlt : k < n
    · have hkx : k < xs.length := by rw [← Hn.out]; exact hlt
      have hky : k < ys.length := by rw [← Hl.out]; exact hkx
      obtain ⟨x, hx⟩ : ∃ x, xs[k]? = some x := ⟨_, List.getElem?_eq_getElem hkx⟩
      obtain ⟨y, hy⟩ : ∃ y, ys[k]? = some y := ⟨_, List.getElem?_eq_getElem hky⟩
      obtain ⟨g, rfl, hg, _⟩ := RowE.head ha hkx
      obtain ⟨g', rfl, hg', _⟩ := RowE.head hb hky
      obtain ⟨x0, x2, x1⟩ := x
      obtain ⟨y0, y2, y1⟩ := y
      have hc0 : w.cell? ⟨g, k * 3, none⟩ = _ := (OpE.cell' ha hx).1
      have hc1 : w.cell? ⟨g, k * 3 + 1, none⟩ = _ := (OpE.cell' ha hx).2.1
      have hc2 : w.cell? ⟨g, k * 3 + 2, none⟩ = _ := (OpE.cell' ha hx).2.2
      have hc0' : w.cell? ⟨g', k * 3, none⟩ = _ := (OpE.cell' hb hy).1
      have hc1' : w.cell? ⟨g', k * 3 + 1, none⟩ = _ := (OpE.cell' hb hy).2.1
      have hc2' : w.cell? ⟨g', k * 3 + 2, none⟩ = _ := (OpE.cell' hb hy).2.2
      dsimp only at hc0 hc1 hc2 hc0' hc1' hc2'
      by_cases hxy : (x0, x2, x1) = (y0, y2, y1)
      · simp only [Prod.mk.injEq] at hxy
        obtain ⟨rfl, rfl, rfl⟩ := hxy
        have hnx := Lib.hid (same_take hx hy hA.out)
        clear hkx hky hx hy hA
        go_wp2_with fail
        go_quiet (fail)
        go_wp2
        go_roundw
        case rel => exact ⟨k + 1, _, by omega, by go_num, by first | rfl | rw [World.drewN_drewN], hnx⟩
        case measure => simp [intOf]; omega
      · have hno : Hid (decide (xs = ys) = false) := decide_eq_false (not_same hx hy hxy)
        have e4 : ¬ (x0 = y0 ∧ x2 = y2 ∧ x1 = y1) := by simpa using hxy
        clear hkx hky hx hy hA
        by_cases h0 : x0 = y0
        · subst h0
          by_cases h2 : x2 = y2
          · subst h2
            have h1 : ¬ x1 = y1 := fun e => e4 ⟨rfl, rfl, e⟩
            have e5 := toList_ne h1
            clear e4 hxy h1
            go_wp2_with fail
            go_quiet (fail)
            go_wp2
            go_ret
            exact ⟨by rw [hno.out]; rfl, _, by first | rfl | rw [World.drewN_drewN]⟩
          · have e5 : (x2 == y2) = false := by simpa using h2
            have e6 : (x2 != y2) = true := by simpa using h2
            clear e4 hxy
            go_wp2_with fail
            go_quiet (fail)
            go_wp2
            go_ret
            exact ⟨by rw [hno.out]; rfl, _, by first | rfl | rw [World.drewN_drewN]⟩
        · have e5 : (x0 == y0) = false := by simpa using h0
          have e6 : (x0 != y0) = true := by simpa using h0
          clear e4 hxy
          go_wp2_with fail
          go_quiet (fail)
          go_wp2
          go_ret
          exact ⟨by rw [hno.out]; rfl, _, by first | rfl | rw [World.drewN_drewN]⟩
    · have e : k = n := by omega
      subst e
      have hall : Hid (decide (xs = ys) = true) := by
        have h1 := hA.out
        have h2 := Hl.out
        rw [Hn.out, List.take_length, h2, List.take_length] at h1
        exact decide_eq_true h1
      clear hA
      go_wp2
      go_ret
      exact ⟨by rw [hall.out]; rfl, m, rfl⟩


set_option maxHeartbeats 1600000 in
set_option maxRecDepth 100000 in
theorem eqf_oms2 {base base' : Nat} {v v' : Value} {xs ys : List (List (Int × ByteArray))} {bs bs' : List Nat} (w : World) (hn : Bd2 xs) (hm : Bd2 ys) (ha : Om2E base w v xs bs) (hb : Om2E base' w v' ys bs') :
    Calls Try.prog 68 #[v, v', .func (.func 69) #[] #[]] w fun e w' => e = .returned (.bool (decide (xs = ys))) ∧ ∃ m, w' = w.drewN m := by
  obtain ⟨A, ca, rfl⟩ := ManyE.slice ha
  obtain ⟨B, cb, rfl⟩ := ManyE.slice hb
  obtain ⟨hn, hn2⟩ := hn
  obtain ⟨hm, hm2⟩ := hm
  by_cases hl : xs.length = ys.length
  case neg =>
    have hne : decide (xs = ys) = false := decide_eq_false fun e => hl (by rw [e])
    have e4 : ((xs.length : Int) != (ys.length : Int)) = true := by simp; omega
    have e5 : (xs.length != ys.length) = true := by simpa using hl
    rw [hne]
    clear hne hl ha hb hn2 hm2
    generalize xs.length = n at *
    generalize ys.length = m at *
    go_enter Try.func68, Try.ntmps68
    go_wp2
    go_ret
    exact ⟨rfl, 0, rfl⟩
  have Hl := Lib.hid hl
  have Hn2 := Lib.hid hn2
  have Hm2 := Lib.hid hm2
  have Ha := Lib.hid ha
  have Hb := Lib.hid hb
  rw [← hl] at hb ⊢
  clear hm hl hn2 hm2
  obtain ⟨n, hn'⟩ : ∃ n, n = xs.length := ⟨_, rfl⟩
  have Hn := Lib.hid hn'
  rw [← hn'] at ha hb hn ⊢
  clear hn'
  go_enter Try.func68, Try.ntmps68
  go_wp2
  go_loopw [17] (fun i wr => ∃ k m : Nat, k ≤ n ∧ i = .int .i64 k ∧ wr = w.drewN m ∧ Hid (xs.take k = ys.take k)) (fun i _ => n - (intOf i).toNat)
  case atStart => exact ⟨0, 0, Nat.zero_le _, rfl, rfl, rfl⟩
  case round =>
    obtain ⟨k, m, hk, rfl, rfl, hA⟩ := hrel
    by_cases hlt : k < n
    · have hkx : k < xs.length := by rw [← Hn.out]; exact hlt
      have hky : k < ys.length := by rw [← Hl.out]; exact hkx
      obtain ⟨x, hx⟩ : ∃ x, xs[k]? = some x := ⟨_, List.getElem?_eq_getElem hkx⟩
      obtain ⟨y, hy⟩ : ∃ y, ys[k]? = some y := ⟨_, List.getElem?_eq_getElem hky⟩
      obtain ⟨g, us, u, d, hv, hc, hE, hg, _⟩ := ha.at_ (om_ok _) hx
      obtain ⟨g', us', u', d', hv', hc', hE', hg', _⟩ := hb.at_ (om_ok _) hy
      simp only [Value.slice.injEq] at hv hv'
      obtain ⟨rfl, e2, rfl⟩ := hv
      obtain ⟨rfl, e3, rfl⟩ := hv'
      clear e2 e3
      have bx := Hn2.out x (List.mem_of_getElem? hx)
      have bly := Hm2.out y (List.mem_of_getElem? hy)
      have q := Lib.hid fun j => equal_oms (w.drewN j) bx bly ((om_ok _).drewN hE j) ((om_ok _).drewN hE' j)
      obtain ⟨A2, k2, rfl⟩ := RowE.slice hE
      obtain ⟨A3, k3, rfl⟩ := RowE.slice hE'
      by_cases hxy : x = y
      · have hq := q.out
        rw [decide_eq_true hxy] at hq
        have Q := Lib.hid hq
        have hnx := Lib.hid (same_take hx (by rw [hxy]; exact hy) hA.out)
        clear hkx hky hx hy hA q hq hxy hE hE' bx bly
        go_wp2_with fail
        refine (Q.out _).mono ?_
        rintro e w' ⟨rfl, j, rfl⟩
        go_wp2
        go_roundw
        case rel => exact ⟨k + 1, _, by omega, by go_num, by first | rfl | rw [World.drewN_drewN], hnx⟩
        case measure => simp [intOf]; omega
      · have hq := q.out
        rw [decide_eq_false hxy] at hq
        have Q := Lib.hid hq
        have hno : Hid (decide (xs = ys) = false) := decide_eq_false (not_same hx hy hxy)
        clear hkx hky hx hy hA q hq hxy hE hE' bx bly
        go_wp2_with fail
        refine (Q.out _).mono ?_
        rintro e w' ⟨rfl, j, rfl⟩
        go_wp2
        go_ret
        exact ⟨by rw [hno.out]; rfl, _, by first | rfl | rw [World.drewN_drewN]⟩
    · have e : k = n := by omega
      subst e
      have hall : Hid (decide (xs = ys) = true) := by
        have h1 := hA.out
        have h2 := Hl.out
        rw [Hn.out, List.take_length, h2, List.take_length] at h1
        exact decide_eq_true h1
      clear hA
      go_wp2
      go_ret
      exact ⟨by rw [hall.out]; rfl, m, rfl⟩


set_option maxHeartbeats 1600000 in
theorem same_omsl {base base' : Nat} {v v' : Value} {xs ys : List (List (Int × ByteArray))} {bs bs' : List Nat} (w : World) (hn : Bd2 xs) (hm : Bd2 ys) (ha : Om2E base w v xs bs) (hb : Om2E base' w v' ys bs') :
    Calls Try.prog 38 #[v, v'] w fun e w' => e = .returned (.bool (decide (xs = ys))) ∧ ∃ m, w' = w.drewN m := by
  have H := Lib.hid (eqf_oms2 w hn hm ha hb)
  clear hn hm ha hb
  go_enter Try.func38, Try.ntmps38
  go_wp2_with fail
  refine H.out.mono ?_
  rintro e w' ⟨rfl, m, rfl⟩
  go_wp2
  go_ret
  exact ⟨rfl, m, rfl⟩

set_option maxHeartbeats 1600000 in
set_option maxRecDepth 100000 in
theorem eqf_ops2 {base base' : Nat} {v v' : Value} {xs ys : List (List (Int × Int × ByteArray))} {bs bs' : List Nat} (w : World) (hn : Bd2 xs) (hm : Bd2 ys) (ha : Op2E base w v xs bs) (hb : Op2E base' w v' ys bs') :
    Calls Try.prog 66 #[v, v', .func (.func 67) #[] #[]] w fun e w' => e = .returned (.bool (decide (xs = ys))) ∧ ∃ m, w' = w.drewN m := by
  obtain ⟨A, ca, rfl⟩ := ManyE.slice ha
  obtain ⟨B, cb, rfl⟩ := ManyE.slice hb
  obtain ⟨hn, hn2⟩ := hn
  obtain ⟨hm, hm2⟩ := hm
  by_cases hl : xs.length = ys.length
  case neg =>
    have hne : decide (xs = ys) = false := decide_eq_false fun e => hl (by rw [e])
    have e4 : ((xs.length : Int) != (ys.length : Int)) = true := by simp; omega
    have e5 : (xs.length != ys.length) = true := by simpa using hl
    rw [hne]
    clear hne hl ha hb hn2 hm2
    generalize xs.length = n at *
    generalize ys.length = m at *
    go_enter Try.func66, Try.ntmps66
    go_wp2
    go_ret
    exact ⟨rfl, 0, rfl⟩
  have Hl := Lib.hid hl
  have Hn2 := Lib.hid hn2
  have Hm2 := Lib.hid hm2
  have Ha := Lib.hid ha
  have Hb := Lib.hid hb
  rw [← hl] at hb ⊢
  clear hm hl hn2 hm2
  obtain ⟨n, hn'⟩ : ∃ n, n = xs.length := ⟨_, rfl⟩
  have Hn := Lib.hid hn'
  rw [← hn'] at ha hb hn ⊢
  clear hn'
  go_enter Try.func66, Try.ntmps66
  go_wp2
  go_loopw [17] (fun i wr => ∃ k m : Nat, k ≤ n ∧ i = .int .i64 k ∧ wr = w.drewN m ∧ Hid (xs.take k = ys.take k)) (fun i _ => n - (intOf i).toNat)
  case atStart => exact ⟨0, 0, Nat.zero_le _, rfl, rfl, rfl⟩
  case round =>
    obtain ⟨k, m, hk, rfl, rfl, hA⟩ := hrel
    by_cases hlt : k < n
    · have hkx : k < xs.length := by rw [← Hn.out]; exact hlt
      have hky : k < ys.length := by rw [← Hl.out]; exact hkx
      obtain ⟨x, hx⟩ : ∃ x, xs[k]? = some x := ⟨_, List.getElem?_eq_getElem hkx⟩
      obtain ⟨y, hy⟩ : ∃ y, ys[k]? = some y := ⟨_, List.getElem?_eq_getElem hky⟩
      obtain ⟨g, us, u, d, hv, hc, hE, hg, _⟩ := ha.at_ (op_ok _) hx
      obtain ⟨g', us', u', d', hv', hc', hE', hg', _⟩ := hb.at_ (op_ok _) hy
      simp only [Value.slice.injEq] at hv hv'
      obtain ⟨rfl, e2, rfl⟩ := hv
      obtain ⟨rfl, e3, rfl⟩ := hv'
      clear e2 e3
      have bx := Hn2.out x (List.mem_of_getElem? hx)
      have bly := Hm2.out y (List.mem_of_getElem? hy)
      have q := Lib.hid fun j => equal_ops (w.drewN j) bx bly ((op_ok _).drewN hE j) ((op_ok _).drewN hE' j)
      obtain ⟨A2, k2, rfl⟩ := RowE.slice hE
      obtain ⟨A3, k3, rfl⟩ := RowE.slice hE'
      by_cases hxy : x = y
      · have hq := q.out
        rw [decide_eq_true hxy] at hq
        have Q := Lib.hid hq
        have hnx := Lib.hid (same_take hx (by rw [hxy]; exact hy) hA.out)
        clear hkx hky hx hy hA q hq hxy hE hE' bx bly
        go_wp2_with fail
        refine (Q.out _).mono ?_
        rintro e w' ⟨rfl, j, rfl⟩
        go_wp2
        go_roundw
        case rel => exact ⟨k + 1, _, by omega, by go_num, by first | rfl | rw [World.drewN_drewN], hnx⟩
        case measure => simp [intOf]; omega
      · have hq := q.out
        rw [decide_eq_false hxy] at hq
        have Q := Lib.hid hq
        have hno : Hid (decide (xs = ys) = false) := decide_eq_false (not_same hx hy hxy)
        clear hkx hky hx hy hA q hq hxy hE hE' bx bly
        go_wp2_with fail
        refine (Q.out _).mono ?_
        rintro e w' ⟨rfl, j, rfl⟩
        go_wp2
        go_ret
        exact ⟨by rw [hno.out]; rfl, _, by first | rfl | rw [World.drewN_drewN]⟩
    · have e : k = n := by omega
      subst e
      have hall : Hid (decide (xs = ys) = true) := by
        have h1 := hA.out
        have h2 := Hl.out
        rw [Hn.out, List.take_length, h2, List.take_length] at h1
        exact decide_eq_true h1
      clear hA
      go_wp2
      go_ret
      exact ⟨by rw [hall.out]; rfl, m, rfl⟩


set_option maxHeartbeats 1600000 in
theorem same_opsl {base base' : Nat} {v v' : Value} {xs ys : List (List (Int × Int × ByteArray))} {bs bs' : List Nat} (w : World) (hn : Bd2 xs) (hm : Bd2 ys) (ha : Op2E base w v xs bs) (hb : Op2E base' w v' ys bs') :
    Calls Try.prog 36 #[v, v'] w fun e w' => e = .returned (.bool (decide (xs = ys))) ∧ ∃ m, w' = w.drewN m := by
  have H := Lib.hid (eqf_ops2 w hn hm ha hb)
  clear hn hm ha hb
  go_enter Try.func36, Try.ntmps36
  go_wp2_with fail
  refine H.out.mono ?_
  rintro e w' ⟨rfl, m, rfl⟩
  go_wp2
  go_ret
  exact ⟨rfl, m, rfl⟩

set_option maxHeartbeats 1600000 in
set_option maxRecDepth 100000 in
theorem eqf_oms3 {base base' : Nat} {v v' : Value} {xs ys : List (List (List (Int × ByteArray)))} {bs bs' : List Nat} (w : World) (hn : Bd3 xs) (hm : Bd3 ys) (ha : Om3E base w v xs bs) (hb : Om3E base' w v' ys bs') :
    Calls Try.prog 37 #[v, v', .func (.func 38) #[] #[]] w fun e w' => e = .returned (.bool (decide (xs = ys))) ∧ ∃ m, w' = w.drewN m := by
  obtain ⟨A, ca, rfl⟩ := ManyE.slice ha
  obtain ⟨B, cb, rfl⟩ := ManyE.slice hb
  obtain ⟨hn, hn2⟩ := hn
  obtain ⟨hm, hm2⟩ := hm
  by_cases hl : xs.length = ys.length
  case neg =>
    have hne : decide (xs = ys) = false := decide_eq_false fun e => hl (by rw [e])
    have e4 : ((xs.length : Int) != (ys.length : Int)) = true := by simp; omega
    have e5 : (xs.length != ys.length) = true := by simpa using hl
    rw [hne]
    clear hne hl ha hb hn2 hm2
    generalize xs.length = n at *
    generalize ys.length = m at *
    go_enter Try.func37, Try.ntmps37
    go_wp2
    go_ret
    exact ⟨rfl, 0, rfl⟩
  have Hl := Lib.hid hl
  have Hn2 := Lib.hid hn2
  have Hm2 := Lib.hid hm2
  have Ha := Lib.hid ha
  have Hb := Lib.hid hb
  rw [← hl] at hb ⊢
  clear hm hl hn2 hm2
  obtain ⟨n, hn'⟩ : ∃ n, n = xs.length := ⟨_, rfl⟩
  have Hn := Lib.hid hn'
  rw [← hn'] at ha hb hn ⊢
  clear hn'
  go_enter Try.func37, Try.ntmps37
  go_wp2
  go_loopw [17] (fun i wr => ∃ k m : Nat, k ≤ n ∧ i = .int .i64 k ∧ wr = w.drewN m ∧ Hid (xs.take k = ys.take k)) (fun i _ => n - (intOf i).toNat)
  case atStart => exact ⟨0, 0, Nat.zero_le _, rfl, rfl, rfl⟩
  case round =>
    obtain ⟨k, m, hk, rfl, rfl, hA⟩ := hrel
    by_cases hlt : k < n
    · have hkx : k < xs.length := by rw [← Hn.out]; exact hlt
      have hky : k < ys.length := by rw [← Hl.out]; exact hkx
      obtain ⟨x, hx⟩ : ∃ x, xs[k]? = some x := ⟨_, List.getElem?_eq_getElem hkx⟩
      obtain ⟨y, hy⟩ : ∃ y, ys[k]? = some y := ⟨_, List.getElem?_eq_getElem hky⟩
      obtain ⟨g, us, u, d, hv, hc, hE, hg, _⟩ := ha.at_ (om2_ok _) hx
      obtain ⟨g', us', u', d', hv', hc', hE', hg', _⟩ := hb.at_ (om2_ok _) hy
      simp only [Value.slice.injEq] at hv hv'
      obtain ⟨rfl, e2, rfl⟩ := hv
      obtain ⟨rfl, e3, rfl⟩ := hv'
      clear e2 e3
      have bx := Hn2.out x (List.mem_of_getElem? hx)
      have bly := Hm2.out y (List.mem_of_getElem? hy)
      have q := Lib.hid fun j => same_omsl (w.drewN j) bx bly ((om2_ok _).drewN hE j) ((om2_ok _).drewN hE' j)
      obtain ⟨A2, k2, rfl⟩ := ManyE.slice hE
      obtain ⟨A3, k3, rfl⟩ := ManyE.slice hE'
      by_cases hxy : x = y
      · have hq := q.out
        rw [decide_eq_true hxy] at hq
        have Q := Lib.hid hq
        have hnx := Lib.hid (same_take hx (by rw [hxy]; exact hy) hA.out)
        clear hkx hky hx hy hA q hq hxy hE hE' bx bly
        go_wp2_with fail
        refine (Q.out _).mono ?_
        rintro e w' ⟨rfl, j, rfl⟩
        go_wp2
        go_roundw
        case rel => exact ⟨k + 1, _, by omega, by go_num, by first | rfl | rw [World.drewN_drewN], hnx⟩
        case measure => simp [intOf]; omega
      · have hq := q.out
        rw [decide_eq_false hxy] at hq
        have Q := Lib.hid hq
        have hno : Hid (decide (xs = ys) = false) := decide_eq_false (not_same hx hy hxy)
        clear hkx hky hx hy hA q hq hxy hE hE' bx bly
        go_wp2_with fail
        refine (Q.out _).mono ?_
        rintro e w' ⟨rfl, j, rfl⟩
        go_wp2
        go_ret
        exact ⟨by rw [hno.out]; rfl, _, by first | rfl | rw [World.drewN_drewN]⟩
    · have e : k = n := by omega
      subst e
      have hall : Hid (decide (xs = ys) = true) := by
        have h1 := hA.out
        have h2 := Hl.out
        rw [Hn.out, List.take_length, h2, List.take_length] at h1
        exact decide_eq_true h1
      clear hA
      go_wp2
      go_ret
      exact ⟨by rw [hall.out]; rfl, m, rfl⟩


end Go.Proofs.Ytkpajompmmfkjaa
