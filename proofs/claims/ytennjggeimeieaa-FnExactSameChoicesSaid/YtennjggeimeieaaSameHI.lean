/- SameChoices of the program. -/
import Derived.Test.YtennjggeimeieaaEq
import Derived.Test.YtennjggeimeieaaCh
import Derived.Test.YtennjggeimeieaaPosts
namespace Go.Proofs.Ytennjggeimeieaa
open Go.RowKit
set_option linter.unusedVariables false

def sameH (c d : Ch) : Bool := decide (c.stack = d.stack ∧ c.starts = d.starts ∧ c.accept = d.accept ∧ c.call = d.call ∧ c.ret = d.ret ∧ c.inner = d.inner)
theorem Calls.drewFromH {f : FuncId} {args : Array Value} {W : World} {j : Nat} {r : Value} (h : Calls Try.prog f args (W.drewN j) fun e w' => e = .returned r ∧ ∃ m, w' = (W.drewN j).drewN m) : Calls Try.prog f args (W.drewN j) fun e w' => e = .returned r ∧ ∃ m, w' = W.drewN m :=
  h.mono fun e w' ⟨h1, m, h2⟩ => ⟨h1, j + m, by rw [h2, World.drewN_drewN]⟩

set_option maxHeartbeats 1600000 in
set_option maxRecDepth 100000 in
theorem eqf_pushes3 {base base' : Nat} {v v' : Value} {xs ys : List (List (List (Int × Int)))} {bs bs' : List Nat} (w : World) (hn : Bd3 xs) (hm : Bd3 ys) (ha : Push3E base w v xs bs) (hb : Push3E base' w v' ys bs') :
    Calls Try.prog 61 #[v, v', .func (.func 62) #[] #[]] w fun e w' => e = .returned (.bool (decide (xs = ys))) ∧ ∃ m, w' = w.drewN m := by
  obtain ⟨A, ca, rfl⟩ := ManyE.slice ha
  obtain ⟨B, cb, rfl⟩ := ManyE.slice hb
  obtain ⟨hn, hn2⟩ := hn
  obtain ⟨hm, hm2⟩ := hm
  by_cases hl : xs.length = ys.length
  case neg =>
    have hne : decide (xs = ys) = false := decide_eq_false fun e => hl (by rw [e])
    have e4 : ((xs.length : Int) != (ys.length : Int)) = true := by simp; omega
    have e5 : (xs.length != ys.length) = true := by simpa using hl
    rw [hne]
    clear hne hl ha hb hn2 hm2
    generalize xs.length = n at *
    generalize ys.length = m at *
    go_enter Try.func61, Try.ntmps61
    go_wp2
    go_ret
    exact ⟨rfl, 0, rfl⟩
  have Hl := Lib.hid hl
  have Hn2 := Lib.hid hn2
  have Hm2 := Lib.hid hm2
  have Ha := Lib.hid ha
  have Hb := Lib.hid hb
  rw [← hl] at hb ⊢
  clear hm hl hn2 hm2
  obtain ⟨n, hn'⟩ : ∃ n, n = xs.length := ⟨_, rfl⟩
  have Hn := Lib.hid hn'
  rw [← hn'] at ha hb hn ⊢
  clear hn'
  go_enter Try.func61, Try.ntmps61
  go_wp2
  go_loopw [17] (fun i wr => ∃ k m : Nat, k ≤ n ∧ i = .int .i64 k ∧ wr = w.drewN m ∧ Hid (xs.take k = ys.take k)) (fun i _ => n - (intOf i).toNat)
  case atStart => exact ⟨0, 0, Nat.zero_le _, rfl, rfl, rfl⟩
  case round =>
    obtain ⟨k, m, hk, rfl, rfl, hA⟩ := hrel
    by_cases hlt : k < n
    · have hkx : k < xs.length := by rw [← Hn.out]; exact hlt
      have hky : k < ys.length := by rw [← Hl.out]; exact hkx
      obtain ⟨x, hx⟩ : ∃ x, xs[k]? = some x := ⟨_, List.getElem?_eq_getElem hkx⟩
      obtain ⟨y, hy⟩ : ∃ y, ys[k]? = some y := ⟨_, List.getElem?_eq_getElem hky⟩
      obtain ⟨g, us, u, d, hv, hc, hE, hg, _⟩ := ha.at_ (push2_ok _) hx
      obtain ⟨g', us', u', d', hv', hc', hE', hg', _⟩ := hb.at_ (push2_ok _) hy
      simp only [Value.slice.injEq] at hv hv'
      obtain ⟨rfl, e2, rfl⟩ := hv
      obtain ⟨rfl, e3, rfl⟩ := hv'
      clear e2 e3
      have bx := Hn2.out x (List.mem_of_getElem? hx)
      have bly := Hm2.out y (List.mem_of_getElem? hy)
      have q := Lib.hid fun j => same_pushes (w.drewN j) bx bly ((push2_ok _).drewN hE j) ((push2_ok _).drewN hE' j)
      obtain ⟨A2, k2, rfl⟩ := ManyE.slice hE
      obtain ⟨A3, k3, rfl⟩ := ManyE.slice hE'
      by_cases hxy : x = y
      · have hq := q.out
        rw [decide_eq_true hxy] at hq
        have Q := Lib.hid hq
        have hnx := Lib.hid (same_take hx (by rw [hxy]; exact hy) hA.out)
        clear hkx hky hx hy hA q hq hxy hE hE' bx bly
        go_wp2_with fail
        refine (Q.out _).mono ?_
        rintro e w' ⟨rfl, j, rfl⟩
        go_wp2
        go_roundw
        case rel => exact ⟨k + 1, _, by omega, by go_num, by first | rfl | rw [World.drewN_drewN], hnx⟩
        case measure => simp [intOf]; omega
      · have hq := q.out
        rw [decide_eq_false hxy] at hq
        have Q := Lib.hid hq
        have hno : Hid (decide (xs = ys) = false) := decide_eq_false (not_same hx hy hxy)
        clear hkx hky hx hy hA q hq hxy hE hE' bx bly
        go_wp2_with fail
        refine (Q.out _).mono ?_
        rintro e w' ⟨rfl, j, rfl⟩
        go_wp2
        go_ret
        exact ⟨by rw [hno.out]; rfl, _, by first | rfl | rw [World.drewN_drewN]⟩
    · have e : k = n := by omega
      subst e
      have hall : Hid (decide (xs = ys) = true) := by
        have h1 := hA.out
        have h2 := Hl.out
        rw [Hn.out, List.take_length, h2, List.take_length] at h1
        exact decide_eq_true h1
      clear hA
      go_wp2
      go_ret
      exact ⟨by rw [hall.out]; rfl, m, rfl⟩


set_option maxHeartbeats 1600000 in
theorem same_c1 {base base' : Nat} {v v' : Value} {xs ys : List (List (List Int))} {bs bs' : List Nat} (w : World) (hn : Bd3 xs) (hm : Bd3 ys) (ha : Ints3E base w v xs bs) (hb : Ints3E base' w v' ys bs') :
    Calls Try.prog 59 #[v, v'] w fun e w' => e = .returned (.bool (decide (xs = ys))) ∧ ∃ m, w' = w.drewN m := by
  have H := Lib.hid (eqf_ints3 w hn hm ha hb)
  clear hn hm ha hb
  go_enter Try.func59, Try.ntmps59
  go_wp2_with fail
  refine H.out.mono ?_
  rintro e w' ⟨rfl, m, rfl⟩
  go_wp2
  go_ret
  exact ⟨rfl, m, rfl⟩

set_option maxHeartbeats 1600000 in
set_option maxRecDepth 100000 in
theorem eqf_ints4 {base base' : Nat} {v v' : Value} {xs ys : List (List (List (List Int)))} {bs bs' : List Nat} (w : World) (hn : Bd4 xs) (hm : Bd4 ys) (ha : Ints4E base w v xs bs) (hb : Ints4E base' w v' ys bs') :
    Calls Try.prog 63 #[v, v', .func (.func 59) #[] #[]] w fun e w' => e = .returned (.bool (decide (xs = ys))) ∧ ∃ m, w' = w.drewN m := by
  obtain ⟨A, ca, rfl⟩ := ManyE.slice ha
  obtain ⟨B, cb, rfl⟩ := ManyE.slice hb
  obtain ⟨hn, hn2⟩ := hn
  obtain ⟨hm, hm2⟩ := hm
  by_cases hl : xs.length = ys.length
  case neg =>
    have hne : decide (xs = ys) = false := decide_eq_false fun e => hl (by rw [e])
    have e4 : ((xs.length : Int) != (ys.length : Int)) = true := by simp; omega
    have e5 : (xs.length != ys.length) = true := by simpa using hl
    rw [hne]
    clear hne hl ha hb hn2 hm2
    generalize xs.length = n at *
    generalize ys.length = m at *
    go_enter Try.func63, Try.ntmps63
    go_wp2
    go_ret
    exact ⟨rfl, 0, rfl⟩
  have Hl := Lib.hid hl
  have Hn2 := Lib.hid hn2
  have Hm2 := Lib.hid hm2
  have Ha := Lib.hid ha
  have Hb := Lib.hid hb
  rw [← hl] at hb ⊢
  clear hm hl hn2 hm2
  obtain ⟨n, hn'⟩ : ∃ n, n = xs.length := ⟨_, rfl⟩
  have Hn := Lib.hid hn'
  rw [← hn'] at ha hb hn ⊢
  clear hn'
  go_enter Try.func63, Try.ntmps63
  go_wp2
  go_loopw [17] (fun i wr => ∃ k m : Nat, k ≤ n ∧ i = .int .i64 k ∧ wr = w.drewN m ∧ Hid (xs.take k = ys.take k)) (fun i _ => n - (intOf i).toNat)
  case atStart => exact ⟨0, 0, Nat.zero_le _, rfl, rfl, rfl⟩
  case round =>
    obtain ⟨k, m, hk, rfl, rfl, hA⟩ := hrel
    by_cases hlt : k < n
    · have hkx : k < xs.length := by rw [← Hn.out]; exact hlt
      have hky : k < ys.length := by rw [← Hl.out]; exact hkx
      obtain ⟨x, hx⟩ : ∃ x, xs[k]? = some x := ⟨_, List.getElem?_eq_getElem hkx⟩
      obtain ⟨y, hy⟩ : ∃ y, ys[k]? = some y := ⟨_, List.getElem?_eq_getElem hky⟩
      obtain ⟨g, us, u, d, hv, hc, hE, hg, _⟩ := ha.at_ (ints3_ok _) hx
      obtain ⟨g', us', u', d', hv', hc', hE', hg', _⟩ := hb.at_ (ints3_ok _) hy
      simp only [Value.slice.injEq] at hv hv'
      obtain ⟨rfl, e2, rfl⟩ := hv
      obtain ⟨rfl, e3, rfl⟩ := hv'
      clear e2 e3
      have bx := Hn2.out x (List.mem_of_getElem? hx)
      have bly := Hm2.out y (List.mem_of_getElem? hy)
      have q := Lib.hid fun j => same_c1 (w.drewN j) bx bly ((ints3_ok _).drewN hE j) ((ints3_ok _).drewN hE' j)
      obtain ⟨A2, k2, rfl⟩ := ManyE.slice hE
      obtain ⟨A3, k3, rfl⟩ := ManyE.slice hE'
      by_cases hxy : x = y
      · have hq := q.out
        rw [decide_eq_true hxy] at hq
        have Q := Lib.hid hq
        have hnx := Lib.hid (same_take hx (by rw [hxy]; exact hy) hA.out)
        clear hkx hky hx hy hA q hq hxy hE hE' bx bly
        go_wp2_with fail
        refine (Q.out _).mono ?_
        rintro e w' ⟨rfl, j, rfl⟩
        go_wp2
        go_roundw
        case rel => exact ⟨k + 1, _, by omega, by go_num, by first | rfl | rw [World.drewN_drewN], hnx⟩
        case measure => simp [intOf]; omega
      · have hq := q.out
        rw [decide_eq_false hxy] at hq
        have Q := Lib.hid hq
        have hno : Hid (decide (xs = ys) = false) := decide_eq_false (not_same hx hy hxy)
        clear hkx hky hx hy hA q hq hxy hE hE' bx bly
        go_wp2_with fail
        refine (Q.out _).mono ?_
        rintro e w' ⟨rfl, j, rfl⟩
        go_wp2
        go_ret
        exact ⟨by rw [hno.out]; rfl, _, by first | rfl | rw [World.drewN_drewN]⟩
    · have e : k = n := by omega
      subst e
      have hall : Hid (decide (xs = ys) = true) := by
        have h1 := hA.out
        have h2 := Hl.out
        rw [Hn.out, List.take_length, h2, List.take_length] at h1
        exact decide_eq_true h1
      clear hA
      go_wp2
      go_ret
      exact ⟨by rw [hall.out]; rfl, m, rfl⟩


set_option maxHeartbeats 25600000 in
set_option maxRecDepth 100000 in
theorem impl_SameChoices {base base' : Nat} {v v' : Value} {c d : Ch} {bs bs' : List Nat} (w : World) (hc : BdH c) (hd : BdH d) (h : ChE base w v c bs) (h' : ChE base' w v' d bs') :
    Calls Try.prog 21 #[v, v'] w (SeenPost (.bool (sameH c d)) w) := by
  obtain ⟨v0, v1, v2, v3, v4, b0, b1, b2, b3, b4, rfl, h0, h1, h2, h3, h4, _, _⟩ := h
  obtain ⟨u0, u1, u2, u3, u4, c0, c1, c2, c3, c4, rfl, g0, g1, g2, g3, g4, _, _⟩ := h'
  obtain ⟨A0, ka0, rfl⟩ := RowE.slice h0
  obtain ⟨B0, kb0, rfl⟩ := RowE.slice g0
  obtain ⟨A1, ka1, rfl⟩ := RowE.slice h1
  obtain ⟨B1, kb1, rfl⟩ := RowE.slice g1
  obtain ⟨A2, ka2, rfl⟩ := ManyE.slice h2
  obtain ⟨B2, kb2, rfl⟩ := ManyE.slice g2
  obtain ⟨A3, ka3, rfl⟩ := ManyE.slice h3
  obtain ⟨B3, kb3, rfl⟩ := ManyE.slice g3
  obtain ⟨A4, ka4, rfl⟩ := ManyE.slice h4
  obtain ⟨B4, kb4, rfl⟩ := ManyE.slice g4
  obtain ⟨s0, x0, x1, x2, x3, x4⟩ := c
  obtain ⟨t0, y0, y1, y2, y3, y4⟩ := d
  dsimp only at h0 h1 h2 h3 h4 g0 g1 g2 g3 g4 ⊢
  have l0 := hc.starts; have l1 := hc.accept; have l2 := hc.call; have l3 := hc.ret; have l4 := hc.inner
  have m0 := hd.starts; have m1 := hd.accept; have m2 := hd.call; have m3 := hd.ret; have m4 := hd.inner
  dsimp only at l0 l1 l2 l3 l4 m0 m1 m2 m3 m4
  obtain ⟨W, hW⟩ : ∃ W, W = (w.alloc (.cells #[.int .i64 s0, .slice A0 x0.length ka0, .slice A1 x1.length ka1, .slice A2 x2.length ka2, .slice A3 x3.length ka3, .slice A4 x4.length ka4] 53)).alloc (.cells #[.int .i64 t0, .slice B0 y0.length kb0, .slice B1 y1.length kb1, .slice B2 y2.length kb2, .slice B3 y3.length kb3, .slice B4 y4.length kb4] 53) := ⟨_, rfl⟩
  have hB : Below w.heap.size w W := by rw [hW]; exact ((Below.refl _ _).alloc (Nat.le_refl _) _).alloc (by simp) _
  have z1 := (Bx.new w 53 #[.int .i64 s0, .slice A0 x0.length ka0, .slice A1 x1.length ka1, .slice A2 x2.length ka2, .slice A3 x3.length ka3, .slice A4 x4.length ka4]).alloc (.cells #[.int .i64 t0, .slice B0 y0.length kb0, .slice B1 y1.length kb1, .slice B2 y2.length kb2, .slice B3 y3.length kb3, .slice B4 y4.length kb4] 53)
  have z2 := Bx.new (w.alloc (.cells #[.int .i64 s0, .slice A0 x0.length ka0, .slice A1 x1.length ka1, .slice A2 x2.length ka2, .slice A3 x3.length ka3, .slice A4 x4.length ka4] 53)) 53 #[.int .i64 t0, .slice B0 y0.length kb0, .slice B1 y1.length kb1, .slice B2 y2.length kb2, .slice B3 y3.length kb3, .slice B4 y4.length kb4]
  rw [World.size_alloc] at z2
  rw [← hW] at z1 z2
  have E0 := fun j => Calls.drewFromH (equal_ints (W.drewN j) l0 m0 ((ints_ok _).drewN ((ints_ok _).later h0 hB) j) ((ints_ok _).drewN ((ints_ok _).later g0 hB) j))
  have E1 := fun j => Calls.drewFromH (equal_bools (W.drewN j) l1 m1 ((bools_ok _).drewN ((bools_ok _).later h1 hB) j) ((bools_ok _).drewN ((bools_ok _).later g1 hB) j))
  have E2 := fun j => Calls.drewFromH (eqf_pushes3 (W.drewN j) l2 m2 ((push3_ok _).drewN ((push3_ok _).later h2 hB) j) ((push3_ok _).drewN ((push3_ok _).later g2 hB) j))
  have E3 := fun j => Calls.drewFromH (eqf_ints4 (W.drewN j) l3 m3 ((ints4_ok _).drewN ((ints4_ok _).later h3 hB) j) ((ints4_ok _).drewN ((ints4_ok _).later g3 hB) j))
  have E4 := fun j => Calls.drewFromH (eqf_ints3 (W.drewN j) l4 m4 ((ints3_ok _).drewN ((ints3_ok _).later h4 hB) j) ((ints3_ok _).drewN ((ints3_ok _).later g4 hB) j))
  have HW := Lib.hid hW
  clear hW h0 h1 h2 h3 h4 g0 g1 g2 g3 g4 l0 l1 l2 l3 l4 m0 m1 m2 m3 m4 hc hd
  have X1 := Lib.hid z1
  have X2 := Lib.hid z2
  clear z1 z2
  by_cases kk : s0 = t0
  case neg =>
    have hf : sameH ⟨s0, x0, x1, x2, x3, x4⟩ ⟨t0, y0, y1, y2, y3, y4⟩ = false := decide_eq_false fun e => kk e.1
    rw [hf]
    have e5 : (s0 == t0) = false := by simpa using kk
    have e6 : (s0 != t0) = true := by simpa using kk
    clear E0 E1 E2 E3 E4 hf kk
    go_enter Try.func21, Try.ntmps21
    go_wp2
    go_ret
    exact ⟨rfl, by rw [← HW.out]; exact hB⟩
  subst kk
  by_cases k0 : x0 = y0
  case neg =>
    have hf : sameH ⟨s0, x0, x1, x2, x3, x4⟩ ⟨s0, y0, y1, y2, y3, y4⟩ = false := decide_eq_false fun e => k0 e.2.1
    rw [hf]
    simp only [decide_eq_false k0] at E0
    have Q0 := Lib.hid E0
    clear E0 E1 E2 E3 E4 hf k0
    go_enter Try.func21, Try.ntmps21
    go_wp2_with fail
    rw [← HW.out]
    refine (Q0.out 0).mono ?_
    rintro e w' ⟨rfl, m0, rfl⟩
    obtain ⟨c0, c1, c2, c3, c4, c5, cl⟩ := id (Bx.all6 (X1.out.same (W' := W.drewN m0) rfl))
    obtain ⟨d0, d1, d2, d3, d4, d5, dl⟩ := id (Bx.all6 (X2.out.same (W' := W.drewN m0) rfl))
    go_wp2
    go_ret
    exact ⟨rfl, below_drewN hB _⟩
  simp only [decide_eq_true k0] at E0
  by_cases k1 : x1 = y1
  case neg =>
    have hf : sameH ⟨s0, x0, x1, x2, x3, x4⟩ ⟨s0, y0, y1, y2, y3, y4⟩ = false := decide_eq_false fun e => k1 e.2.2.1
    rw [hf]
    simp only [decide_eq_false k1] at E1
    have Q0 := Lib.hid E0
    have Q1 := Lib.hid E1
    clear E0 E1 E2 E3 E4 hf k0 k1
    go_enter Try.func21, Try.ntmps21
    go_wp2_with fail
    rw [← HW.out]
    refine (Q0.out 0).mono ?_
    rintro e w' ⟨rfl, m0, rfl⟩
    obtain ⟨c0, c1, c2, c3, c4, c5, cl⟩ := id (Bx.all6 (X1.out.same (W' := W.drewN m0) rfl))
    obtain ⟨d0, d1, d2, d3, d4, d5, dl⟩ := id (Bx.all6 (X2.out.same (W' := W.drewN m0) rfl))
    go_wp2_with fail
    refine (Q1.out _).mono ?_
    rintro e w' ⟨rfl, m1, rfl⟩
    clear c0 c1 c2 c3 c4 c5 cl d0 d1 d2 d3 d4 d5 dl
    obtain ⟨c0, c1, c2, c3, c4, c5, cl⟩ := id (Bx.all6 (X1.out.same (W' := W.drewN m1) rfl))
    obtain ⟨d0, d1, d2, d3, d4, d5, dl⟩ := id (Bx.all6 (X2.out.same (W' := W.drewN m1) rfl))
    go_wp2
    go_ret
    exact ⟨rfl, below_drewN hB _⟩
  simp only [decide_eq_true k1] at E1
  by_cases k2 : x2 = y2
  case neg =>
    have hf : sameH ⟨s0, x0, x1, x2, x3, x4⟩ ⟨s0, y0, y1, y2, y3, y4⟩ = false := decide_eq_false fun e => k2 e.2.2.2.1
    rw [hf]
    simp only [decide_eq_false k2] at E2
    have Q0 := Lib.hid E0
    have Q1 := Lib.hid E1
    have Q2 := Lib.hid E2
    clear E0 E1 E2 E3 E4 hf k0 k1 k2
    go_enter Try.func21, Try.ntmps21
    go_wp2_with fail
    rw [← HW.out]
    refine (Q0.out 0).mono ?_
    rintro e w' ⟨rfl, m0, rfl⟩
    obtain ⟨c0, c1, c2, c3, c4, c5, cl⟩ := id (Bx.all6 (X1.out.same (W' := W.drewN m0) rfl))
    obtain ⟨d0, d1, d2, d3, d4, d5, dl⟩ := id (Bx.all6 (X2.out.same (W' := W.drewN m0) rfl))
    go_wp2_with fail
    refine (Q1.out _).mono ?_
    rintro e w' ⟨rfl, m1, rfl⟩
    clear c0 c1 c2 c3 c4 c5 cl d0 d1 d2 d3 d4 d5 dl
    obtain ⟨c0, c1, c2, c3, c4, c5, cl⟩ := id (Bx.all6 (X1.out.same (W' := W.drewN m1) rfl))
    obtain ⟨d0, d1, d2, d3, d4, d5, dl⟩ := id (Bx.all6 (X2.out.same (W' := W.drewN m1) rfl))
    go_wp2_with fail
    refine (Q2.out _).mono ?_
    rintro e w' ⟨rfl, m2, rfl⟩
    clear c0 c1 c2 c3 c4 c5 cl d0 d1 d2 d3 d4 d5 dl
    obtain ⟨c0, c1, c2, c3, c4, c5, cl⟩ := id (Bx.all6 (X1.out.same (W' := W.drewN m2) rfl))
    obtain ⟨d0, d1, d2, d3, d4, d5, dl⟩ := id (Bx.all6 (X2.out.same (W' := W.drewN m2) rfl))
    go_wp2
    go_ret
    exact ⟨rfl, below_drewN hB _⟩
  simp only [decide_eq_true k2] at E2
  by_cases k3 : x3 = y3
  case neg =>
    have hf : sameH ⟨s0, x0, x1, x2, x3, x4⟩ ⟨s0, y0, y1, y2, y3, y4⟩ = false := decide_eq_false fun e => k3 e.2.2.2.2.1
    rw [hf]
    simp only [decide_eq_false k3] at E3
    have Q0 := Lib.hid E0
    have Q1 := Lib.hid E1
    have Q2 := Lib.hid E2
    have Q3 := Lib.hid E3
    clear E0 E1 E2 E3 E4 hf k0 k1 k2 k3
    go_enter Try.func21, Try.ntmps21
    go_wp2_with fail
    rw [← HW.out]
    refine (Q0.out 0).mono ?_
    rintro e w' ⟨rfl, m0, rfl⟩
    obtain ⟨c0, c1, c2, c3, c4, c5, cl⟩ := id (Bx.all6 (X1.out.same (W' := W.drewN m0) rfl))
    obtain ⟨d0, d1, d2, d3, d4, d5, dl⟩ := id (Bx.all6 (X2.out.same (W' := W.drewN m0) rfl))
    go_wp2_with fail
    refine (Q1.out _).mono ?_
    rintro e w' ⟨rfl, m1, rfl⟩
    clear c0 c1 c2 c3 c4 c5 cl d0 d1 d2 d3 d4 d5 dl
    obtain ⟨c0, c1, c2, c3, c4, c5, cl⟩ := id (Bx.all6 (X1.out.same (W' := W.drewN m1) rfl))
    obtain ⟨d0, d1, d2, d3, d4, d5, dl⟩ := id (Bx.all6 (X2.out.same (W' := W.drewN m1) rfl))
    go_wp2_with fail
    refine (Q2.out _).mono ?_
    rintro e w' ⟨rfl, m2, rfl⟩
    clear c0 c1 c2 c3 c4 c5 cl d0 d1 d2 d3 d4 d5 dl
    obtain ⟨c0, c1, c2, c3, c4, c5, cl⟩ := id (Bx.all6 (X1.out.same (W' := W.drewN m2) rfl))
    obtain ⟨d0, d1, d2, d3, d4, d5, dl⟩ := id (Bx.all6 (X2.out.same (W' := W.drewN m2) rfl))
    go_wp2_with fail
    refine (Q3.out _).mono ?_
    rintro e w' ⟨rfl, m3, rfl⟩
    clear c0 c1 c2 c3 c4 c5 cl d0 d1 d2 d3 d4 d5 dl
    obtain ⟨c0, c1, c2, c3, c4, c5, cl⟩ := id (Bx.all6 (X1.out.same (W' := W.drewN m3) rfl))
    obtain ⟨d0, d1, d2, d3, d4, d5, dl⟩ := id (Bx.all6 (X2.out.same (W' := W.drewN m3) rfl))
    go_wp2
    go_ret
    exact ⟨rfl, below_drewN hB _⟩
  simp only [decide_eq_true k3] at E3
  by_cases k4 : x4 = y4
  case neg =>
    have hf : sameH ⟨s0, x0, x1, x2, x3, x4⟩ ⟨s0, y0, y1, y2, y3, y4⟩ = false := decide_eq_false fun e => k4 e.2.2.2.2.2
    rw [hf]
    simp only [decide_eq_false k4] at E4
    have Q0 := Lib.hid E0
    have Q1 := Lib.hid E1
    have Q2 := Lib.hid E2
    have Q3 := Lib.hid E3
    have Q4 := Lib.hid E4
    clear E0 E1 E2 E3 E4 hf k0 k1 k2 k3 k4
    go_enter Try.func21, Try.ntmps21
    go_wp2_with fail
    rw [← HW.out]
    refine (Q0.out 0).mono ?_
    rintro e w' ⟨rfl, m0, rfl⟩
    obtain ⟨c0, c1, c2, c3, c4, c5, cl⟩ := id (Bx.all6 (X1.out.same (W' := W.drewN m0) rfl))
    obtain ⟨d0, d1, d2, d3, d4, d5, dl⟩ := id (Bx.all6 (X2.out.same (W' := W.drewN m0) rfl))
    go_wp2_with fail
    refine (Q1.out _).mono ?_
    rintro e w' ⟨rfl, m1, rfl⟩
    clear c0 c1 c2 c3 c4 c5 cl d0 d1 d2 d3 d4 d5 dl
    obtain ⟨c0, c1, c2, c3, c4, c5, cl⟩ := id (Bx.all6 (X1.out.same (W' := W.drewN m1) rfl))
    obtain ⟨d0, d1, d2, d3, d4, d5, dl⟩ := id (Bx.all6 (X2.out.same (W' := W.drewN m1) rfl))
    go_wp2_with fail
    refine (Q2.out _).mono ?_
    rintro e w' ⟨rfl, m2, rfl⟩
    clear c0 c1 c2 c3 c4 c5 cl d0 d1 d2 d3 d4 d5 dl
    obtain ⟨c0, c1, c2, c3, c4, c5, cl⟩ := id (Bx.all6 (X1.out.same (W' := W.drewN m2) rfl))
    obtain ⟨d0, d1, d2, d3, d4, d5, dl⟩ := id (Bx.all6 (X2.out.same (W' := W.drewN m2) rfl))
    go_wp2_with fail
    refine (Q3.out _).mono ?_
    rintro e w' ⟨rfl, m3, rfl⟩
    clear c0 c1 c2 c3 c4 c5 cl d0 d1 d2 d3 d4 d5 dl
    obtain ⟨c0, c1, c2, c3, c4, c5, cl⟩ := id (Bx.all6 (X1.out.same (W' := W.drewN m3) rfl))
    obtain ⟨d0, d1, d2, d3, d4, d5, dl⟩ := id (Bx.all6 (X2.out.same (W' := W.drewN m3) rfl))
    go_wp2_with fail
    refine (Q4.out _).mono ?_
    rintro e w' ⟨rfl, m4, rfl⟩
    clear c0 c1 c2 c3 c4 c5 cl d0 d1 d2 d3 d4 d5 dl
    obtain ⟨c0, c1, c2, c3, c4, c5, cl⟩ := id (Bx.all6 (X1.out.same (W' := W.drewN m4) rfl))
    obtain ⟨d0, d1, d2, d3, d4, d5, dl⟩ := id (Bx.all6 (X2.out.same (W' := W.drewN m4) rfl))
    go_wp2
    go_ret
    exact ⟨rfl, below_drewN hB _⟩
  simp only [decide_eq_true k4] at E4
  have hf : sameH ⟨s0, x0, x1, x2, x3, x4⟩ ⟨s0, y0, y1, y2, y3, y4⟩ = true := decide_eq_true ⟨rfl, k0, k1, k2, k3, k4⟩
  rw [hf]
  have Q0 := Lib.hid E0
  have Q1 := Lib.hid E1
  have Q2 := Lib.hid E2
  have Q3 := Lib.hid E3
  have Q4 := Lib.hid E4
  clear E0 E1 E2 E3 E4 hf k0 k1 k2 k3 k4
  go_enter Try.func21, Try.ntmps21
  go_wp2_with fail
  rw [← HW.out]
  refine (Q0.out 0).mono ?_
  rintro e w' ⟨rfl, m0, rfl⟩
  obtain ⟨c0, c1, c2, c3, c4, c5, cl⟩ := id (Bx.all6 (X1.out.same (W' := W.drewN m0) rfl))
  obtain ⟨d0, d1, d2, d3, d4, d5, dl⟩ := id (Bx.all6 (X2.out.same (W' := W.drewN m0) rfl))
  go_wp2_with fail
  refine (Q1.out _).mono ?_
  rintro e w' ⟨rfl, m1, rfl⟩
  clear c0 c1 c2 c3 c4 c5 cl d0 d1 d2 d3 d4 d5 dl
  obtain ⟨c0, c1, c2, c3, c4, c5, cl⟩ := id (Bx.all6 (X1.out.same (W' := W.drewN m1) rfl))
  obtain ⟨d0, d1, d2, d3, d4, d5, dl⟩ := id (Bx.all6 (X2.out.same (W' := W.drewN m1) rfl))
  go_wp2_with fail
  refine (Q2.out _).mono ?_
  rintro e w' ⟨rfl, m2, rfl⟩
  clear c0 c1 c2 c3 c4 c5 cl d0 d1 d2 d3 d4 d5 dl
  obtain ⟨c0, c1, c2, c3, c4, c5, cl⟩ := id (Bx.all6 (X1.out.same (W' := W.drewN m2) rfl))
  obtain ⟨d0, d1, d2, d3, d4, d5, dl⟩ := id (Bx.all6 (X2.out.same (W' := W.drewN m2) rfl))
  go_wp2_with fail
  refine (Q3.out _).mono ?_
  rintro e w' ⟨rfl, m3, rfl⟩
  clear c0 c1 c2 c3 c4 c5 cl d0 d1 d2 d3 d4 d5 dl
  obtain ⟨c0, c1, c2, c3, c4, c5, cl⟩ := id (Bx.all6 (X1.out.same (W' := W.drewN m3) rfl))
  obtain ⟨d0, d1, d2, d3, d4, d5, dl⟩ := id (Bx.all6 (X2.out.same (W' := W.drewN m3) rfl))
  go_wp2_with fail
  refine (Q4.out _).mono ?_
  rintro e w' ⟨rfl, m4, rfl⟩
  clear c0 c1 c2 c3 c4 c5 cl d0 d1 d2 d3 d4 d5 dl
  obtain ⟨c0, c1, c2, c3, c4, c5, cl⟩ := id (Bx.all6 (X1.out.same (W' := W.drewN m4) rfl))
  obtain ⟨d0, d1, d2, d3, d4, d5, dl⟩ := id (Bx.all6 (X2.out.same (W' := W.drewN m4) rfl))
  go_wp2
  go_ret
  exact ⟨rfl, below_drewN hB _⟩
end Go.Proofs.Ytennjggeimeieaa
