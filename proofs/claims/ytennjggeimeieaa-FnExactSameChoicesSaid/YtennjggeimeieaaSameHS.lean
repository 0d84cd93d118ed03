/- SameChoices of the model. -/
import Derived.Test.YtennjggeimeieaaSameHI
namespace Go.Proofs.Ytennjggeimeieaa
open Go.RowKit
set_option linter.unusedVariables false

set_option maxHeartbeats 6400000 in
set_option maxRecDepth 100000 in
theorem spec_samep {base base' : Nat} {v v' : Value} {xs ys : List (List (Int × Int))} {bs bs' : List Nat} (w : World) (hn : Bd2 xs) (hm : Bd2 ys) (ha : Push2E base w v xs bs) (hb : Push2E base' w v' ys bs') :
    Calls Try.prog 56 #[v, v'] w fun e w' => e = .returned (.bool (decide (xs = ys))) ∧ ∃ m, w' = w.drewN m := by
  obtain ⟨A, ca, rfl⟩ := ManyE.slice ha
  obtain ⟨B, cb, rfl⟩ := ManyE.slice hb
  obtain ⟨hn, hn2⟩ := hn
  obtain ⟨hm, hm2⟩ := hm
  by_cases hl : xs.length = ys.length
  case neg =>
    have hne : decide (xs = ys) = false := decide_eq_false fun e => hl (by rw [e])
    have e4 : ((xs.length : Int) != (ys.length : Int)) = true := by simp; omega
    have e5 : (xs.length != ys.length) = true := by simpa using hl
    rw [hne]
    clear hne hl ha hb hn2 hm2
    generalize xs.length = n at *
    generalize ys.length = m at *
    go_enter Try.func56, Try.ntmps56
    go_wp2
    go_ret
    exact ⟨rfl, 0, rfl⟩
  have Hl := Lib.hid hl
  have Hn2 := Lib.hid hn2
  have Hm2 := Lib.hid hm2
  rw [← hl] at hb ⊢
  clear hm hl hn2 hm2
  obtain ⟨n, hn'⟩ : ∃ n, n = xs.length := ⟨_, rfl⟩
  have Hn := Lib.hid hn'
  rw [← hn'] at ha hb hn ⊢
  clear hn'
  have Ha := Lib.hid ha
  have Hb := Lib.hid hb
  clear ha hb
  go_enter Try.func56, Try.ntmps56
  go_wp2
  go_loopw [5] (fun i wr => ∃ s m : Nat, s ≤ n ∧ i = .int .i64 s ∧ wr = w.drewN m ∧ Hid (xs.take s = ys.take s)) (fun i _ => n - (intOf i).toNat)
  case atStart => exact ⟨0, 0, Nat.zero_le _, rfl, rfl, rfl⟩
  case round =>
    obtain ⟨s, m, hs, rfl, rfl, hA⟩ := hrel
    by_cases hlt : s < n
    · obtain ⟨cs, hcs⟩ : ∃ x, xs[s]? = some x := ⟨_, List.getElem?_eq_getElem (by rw [← Hn.out]; exact hlt)⟩
      obtain ⟨ds, hds⟩ : ∃ x, ys[s]? = some x := ⟨_, List.getElem?_eq_getElem (by rw [← Hl.out, ← Hn.out]; exact hlt)⟩
      obtain ⟨g2, _, u2, y2, hv2, hc2, hE2, hg2, _⟩ := Ha.out.at_ (push_ok _) hcs
      obtain ⟨g3, _, u3, y3, hv3, hc3, hE3, hg3, _⟩ := Hb.out.at_ (push_ok _) hds
      simp only [Value.slice.injEq] at hv2 hv3
      obtain ⟨rfl, q2, rfl⟩ := hv2
      obtain ⟨rfl, q3, rfl⟩ := hv3
      clear q2 q3
      have bcs : cs.length ≤ 1048576 := Hn2.out cs (List.mem_of_getElem? hcs)
      have bds : ds.length ≤ 1048576 := Hm2.out ds (List.mem_of_getElem? hds)
      obtain ⟨A2, k2, rfl⟩ := RowE.slice hE2
      obtain ⟨A3, k3, rfl⟩ := RowE.slice hE3
      have hst : cs = ds → Hid (xs.take (s + 1) = ys.take (s + 1)) := fun e => same_take hcs (by rw [hds, e]) hA.out
      have hno : cs ≠ ds → Hid (decide (xs = ys) = false) := fun e => by show _ = _; exact decide_eq_false (not_same hcs hds e)
      have Hst := Lib.hid hst
      have Hno := Lib.hid hno
      have HE2 := Lib.hid hE2
      have HE3 := Lib.hid hE3
      clear hcs hds hst hno hE2 hE3
      by_cases hl : cs.length = ds.length
      case neg =>
        have hf := Lib.hid (Hno.out fun e => hl (by rw [e])).out
        have z5 : ((cs.length : Int) != (ds.length : Int)) = true := by simp; omega
        have z6 : (cs.length != ds.length) = true := by simpa using hl
        clear hl Hst Hno HE2 HE3 hA
        generalize cs.length = p at *
        generalize ds.length = q at *
        go_wp2_with fail
        go_quiet (fail)
        go_wp2
        go_ret
        exact ⟨by rw [hf.out]; rfl, _, by first | rfl | rw [World.drewN_drewN]⟩
      have hE2 := HE2.out
      have hE3 := HE3.out
      have Hl2 := Lib.hid hl
      obtain ⟨p, hp⟩ : ∃ p, p = cs.length := ⟨_, rfl⟩
      rw [← hp] at hE2 hc2 bcs hl
      rw [← hl] at hE3 hc3
      have Hp := Lib.hid hp
      clear hp hl bds HE2 HE3
      go_wp2_with fail
      go_quiet (fail)
      go_wp2
      go_loopw [6] (fun i wr => ∃ k m' : Nat, k ≤ p ∧ i = .int .i64 k ∧ wr = w.drewN m' ∧ Hid (cs.take k = ds.take k)) (fun i _ => p - (intOf i).toNat)
      case atStart => exact ⟨0, _, Nat.zero_le _, rfl, by first | rfl | rw [World.drewN_drewN], rfl⟩
      case round =>
        obtain ⟨k, m', hk, rfl, rfl, hT⟩ := hrel
        have v2 : (w.drewN m').cell? ⟨g2, s, none⟩ = _ := hc2
        have v3 : (w.drewN m').cell? ⟨g3, s, none⟩ = _ := hc3
        by_cases hlk : k < p
        · have hkx : k < cs.length := by rw [← Hp.out]; exact hlk
          have hky : k < ds.length := by rw [← Hl2.out]; exact hkx
          obtain ⟨x, hx⟩ : ∃ x, cs[k]? = some x := ⟨_, List.getElem?_eq_getElem hkx⟩
          obtain ⟨y, hy⟩ : ∃ y, ds[k]? = some y := ⟨_, List.getElem?_eq_getElem hky⟩
          obtain ⟨ga, rfl, hga, _⟩ := RowE.head hE2 hkx
          obtain ⟨gb, rfl, hgb, _⟩ := RowE.head hE3 hky
          obtain ⟨X0, X1⟩ := x
          obtain ⟨Y0, Y1⟩ := y
          have hc0 : w.cell? ⟨ga, k * 2, none⟩ = _ := (PushE.cell' hE2 hx).1
          have hc1 : w.cell? ⟨ga, k * 2 + 1, none⟩ = _ := (PushE.cell' hE2 hx).2
          have hc0' : w.cell? ⟨gb, k * 2, none⟩ = _ := (PushE.cell' hE3 hy).1
          have hc1' : w.cell? ⟨gb, k * 2 + 1, none⟩ = _ := (PushE.cell' hE3 hy).2
          dsimp only at hc0 hc1 hc0' hc1'
          by_cases hxy : (X0, X1) = (Y0, Y1)
          · simp only [Prod.mk.injEq] at hxy
            obtain ⟨rfl, rfl⟩ := hxy
            have hnx := Lib.hid (same_take hx hy hT.out)
            clear hkx hky hx hy hT Hst Hno
            go_wp2_with fail
            go_quiet (fail)
            go_wp2
            go_roundw
            case rel => exact ⟨k + 1, _, by omega, by go_num, by first | rfl | rw [World.drewN_drewN], hnx⟩
            case measure => simp [intOf]; omega
          · have hf := Lib.hid (Hno.out fun e => not_same hx hy hxy e).out
            have z4 : ¬ (X0 = Y0 ∧ X1 = Y1) := by simpa using hxy
            clear hkx hky hx hy hT Hst Hno hxy
            by_cases h0 : X0 = Y0
            · subst h0
              have h1 : ¬ X1 = Y1 := fun e => z4 ⟨rfl, e⟩
              have z5 : (X1 == Y1) = false := by simpa using h1
              have z6 : (X1 != Y1) = true := by simpa using h1
              clear z4
              go_wp2_with fail
              go_quiet (fail)
              go_wp2
              go_ret
              exact ⟨by rw [hf.out]; rfl, _, by first | rfl | rw [World.drewN_drewN]⟩
            · have z5 : (X0 == Y0) = false := by simpa using h0
              have z6 : (X0 != Y0) = true := by simpa using h0
              clear z4
              go_wp2_with fail
              go_quiet (fail)
              go_wp2
              go_ret
              exact ⟨by rw [hf.out]; rfl, _, by first | rfl | rw [World.drewN_drewN]⟩
        · have e : k = p := by omega
          subst e
          have hnx := Lib.hid (Hst.out (by
            have h1 := hT.out
            have h2 := Hl2.out
            rwa [Hp.out, List.take_length, h2, List.take_length] at h1)).out
          clear hT Hst Hno
          go_wp2
          go_roundw
          case rel => exact ⟨s + 1, _, by omega, by go_num, rfl, hnx⟩
          case measure => simp [intOf]; omega
    · have e : s = n := by omega
      subst e
      have hall := Lib.hid (show decide (xs = ys) = true by
        have h1 := hA.out
        have h2 := Hl.out
        rw [Hn.out, List.take_length, h2, List.take_length] at h1
        exact decide_eq_true h1)
      clear hA
      go_wp2
      go_ret
      exact ⟨by rw [hall.out]; rfl, m, rfl⟩

set_option maxHeartbeats 25600000 in
set_option maxRecDepth 100000 in
theorem spec_SameChoices {base base' : Nat} {v v' : Value} {c d : Ch} {bs bs' : List Nat} (w : World) (hc : BdH c) (hd : BdH d) (h : ChE base w v c bs) (h' : ChE base' w v' d bs') :
    Calls Try.prog 19 #[v, v'] w (SeenPost (.bool (sameH c d)) w) := by
  obtain ⟨v0, v1, v2, v3, v4, b0, b1, b2, b3, b4, rfl, h0, h1, h2, h3, h4, _, _⟩ := h
  obtain ⟨u0, u1, u2, u3, u4, c0, c1, c2, c3, c4, rfl, g0, g1, g2, g3, g4, _, _⟩ := h'
  obtain ⟨A0, ka0, rfl⟩ := RowE.slice h0
  obtain ⟨B0, kb0, rfl⟩ := RowE.slice g0
  obtain ⟨A1, ka1, rfl⟩ := RowE.slice h1
  obtain ⟨B1, kb1, rfl⟩ := RowE.slice g1
  obtain ⟨A2, ka2, rfl⟩ := ManyE.slice h2
  obtain ⟨B2, kb2, rfl⟩ := ManyE.slice g2
  obtain ⟨A3, ka3, rfl⟩ := ManyE.slice h3
  obtain ⟨B3, kb3, rfl⟩ := ManyE.slice g3
  obtain ⟨A4, ka4, rfl⟩ := ManyE.slice h4
  obtain ⟨B4, kb4, rfl⟩ := ManyE.slice g4
  obtain ⟨s0, x0, x1, x2, x3, x4⟩ := c
  obtain ⟨t0, y0, y1, y2, y3, y4⟩ := d
  dsimp only at h0 h1 h2 h3 h4 g0 g1 g2 g3 g4 ⊢
  have l0 := hc.starts; have l1 := hc.accept; have l2 := hc.call; have l3 := hc.ret; have l4 := hc.inner
  have m0 := hd.starts; have m1 := hd.accept; have m2 := hd.call; have m3 := hd.ret; have m4 := hd.inner
  dsimp only at l0 l1 l2 l3 l4 m0 m1 m2 m3 m4
  obtain ⟨n2, hn2⟩ : ∃ n, n = x2.length := ⟨_, rfl⟩
  obtain ⟨p2, hp2⟩ : ∃ n, n = y2.length := ⟨_, rfl⟩
  rw [← hn2] at h2 ⊢
  rw [← hp2] at g2 ⊢
  obtain ⟨n3, hn3⟩ : ∃ n, n = x3.length := ⟨_, rfl⟩
  obtain ⟨p3, hp3⟩ : ∃ n, n = y3.length := ⟨_, rfl⟩
  rw [← hn3] at h3 ⊢
  rw [← hp3] at g3 ⊢
  obtain ⟨n4, hn4⟩ : ∃ n, n = x4.length := ⟨_, rfl⟩
  obtain ⟨p4, hp4⟩ : ∃ n, n = y4.length := ⟨_, rfl⟩
  rw [← hn4] at h4 ⊢
  rw [← hp4] at g4 ⊢
  obtain ⟨W, hW⟩ : ∃ W, W = (w.alloc (.cells #[.int .i64 s0, .slice A0 x0.length ka0, .slice A1 x1.length ka1, .slice A2 n2 ka2, .slice A3 n3 ka3, .slice A4 n4 ka4] 53)).alloc (.cells #[.int .i64 t0, .slice B0 y0.length kb0, .slice B1 y1.length kb1, .slice B2 p2 kb2, .slice B3 p3 kb3, .slice B4 p4 kb4] 53) := ⟨_, rfl⟩
  have hB : Below w.heap.size w W := by rw [hW]; exact ((Below.refl _ _).alloc (Nat.le_refl _) _).alloc (by simp) _
  have z1 := (Bx.new w 53 #[.int .i64 s0, .slice A0 x0.length ka0, .slice A1 x1.length ka1, .slice A2 n2 ka2, .slice A3 n3 ka3, .slice A4 n4 ka4]).alloc (.cells #[.int .i64 t0, .slice B0 y0.length kb0, .slice B1 y1.length kb1, .slice B2 p2 kb2, .slice B3 p3 kb3, .slice B4 p4 kb4] 53)
  have z2 := Bx.new (w.alloc (.cells #[.int .i64 s0, .slice A0 x0.length ka0, .slice A1 x1.length ka1, .slice A2 n2 ka2, .slice A3 n3 ka3, .slice A4 n4 ka4] 53)) 53 #[.int .i64 t0, .slice B0 y0.length kb0, .slice B1 y1.length kb1, .slice B2 p2 kb2, .slice B3 p3 kb3, .slice B4 p4 kb4]
  rw [World.size_alloc] at z2
  rw [← hW] at z1 z2
  have E0 := fun j => Calls.drewFromH (spec_same (W.drewN j) l0 m0 ((ints_ok _).drewN ((ints_ok _).later h0 hB) j) ((ints_ok _).drewN ((ints_ok _).later g0 hB) j))
  have E1 := fun j => Calls.drewFromH (spec_bools (W.drewN j) l1 m1 ((bools_ok _).drewN ((bools_ok _).later h1 hB) j) ((bools_ok _).drewN ((bools_ok _).later g1 hB) j))
  have H2 := Lib.hid ((push3_ok _).later h2 hB)
  have G2 := Lib.hid ((push3_ok _).later g2 hB)
  have L2 := Lib.hid l2
  have M2 := Lib.hid m2
  have ln2 : n2 ≤ 1048576 := by rw [hn2]; exact l2.1
  have lp2 : p2 ≤ 1048576 := by rw [hp2]; exact m2.1
  have N2 := Lib.hid hn2
  have P2 := Lib.hid hp2
  have H3 := Lib.hid ((ints4_ok _).later h3 hB)
  have G3 := Lib.hid ((ints4_ok _).later g3 hB)
  have L3 := Lib.hid l3
  have M3 := Lib.hid m3
  have ln3 : n3 ≤ 1048576 := by rw [hn3]; exact l3.1
  have lp3 : p3 ≤ 1048576 := by rw [hp3]; exact m3.1
  have N3 := Lib.hid hn3
  have P3 := Lib.hid hp3
  have H4 := Lib.hid ((ints3_ok _).later h4 hB)
  have G4 := Lib.hid ((ints3_ok _).later g4 hB)
  have L4 := Lib.hid l4
  have M4 := Lib.hid m4
  have ln4 : n4 ≤ 1048576 := by rw [hn4]; exact l4.1
  have lp4 : p4 ≤ 1048576 := by rw [hp4]; exact m4.1
  have N4 := Lib.hid hn4
  have P4 := Lib.hid hp4
  obtain ⟨r, hr⟩ : ∃ r, r = sameH ⟨s0, x0, x1, x2, x3, x4⟩ ⟨t0, y0, y1, y2, y3, y4⟩ := ⟨_, rfl⟩
  rw [← hr]
  unfold sameH at hr
  dsimp only at hr
  have HW := Lib.hid hW
  clear hW h0 h1 h2 h3 h4 g0 g1 g2 g3 g4 l0 l1 l2 l3 l4 m0 m1 m2 m3 m4 hc hd hn2 hn3 hn4 hp2 hp3 hp4
  have X1 := Lib.hid z1
  have X2 := Lib.hid z2
  clear z1 z2
  by_cases kk : s0 = t0
  case neg =>
    have hf : r = false := by rw [hr]; exact decide_eq_false fun e => kk e.1
    subst hf
    have e5 : (s0 == t0) = false := by simpa using kk
    have e6 : (s0 != t0) = true := by simpa using kk
    have Q0 := Lib.hid E0
    have Q1 := Lib.hid E1
    clear E0 E1 hr kk
    go_enter Try.func19, Try.ntmps19
    go_wp2
    go_ret
    exact ⟨rfl, by rw [← HW.out]; exact hB⟩
  subst kk
  by_cases k0 : x0 = y0
  case neg =>
    have hf : r = false := by rw [hr]; exact decide_eq_false fun e => k0 e.2.1
    subst hf
    simp only [decide_eq_false k0] at E0
    have Q0 := Lib.hid E0
    have Q1 := Lib.hid E1
    clear E0 E1 hr k0
    go_enter Try.func19, Try.ntmps19
    go_wp2_with fail
    rw [← HW.out]
    refine (Q0.out 0).mono ?_
    rintro e w' ⟨rfl, m0, rfl⟩
    obtain ⟨c0, c1, c2, c3, c4, c5, cl⟩ := id (Bx.all6 (X1.out.same (W' := W.drewN m0) rfl))
    obtain ⟨d0, d1, d2, d3, d4, d5, dl⟩ := id (Bx.all6 (X2.out.same (W' := W.drewN m0) rfl))
    go_wp2
    go_ret
    exact ⟨rfl, by first | exact below_drewN hB _ | exact below_drewN (below_drewN hB _) _⟩
  simp only [decide_eq_true k0] at E0
  by_cases k1 : x1 = y1
  case neg =>
    have hf : r = false := by rw [hr]; exact decide_eq_false fun e => k1 e.2.2.1
    subst hf
    simp only [decide_eq_false k1] at E1
    have Q0 := Lib.hid E0
    have Q1 := Lib.hid E1
    clear E0 E1 hr k0 k1
    go_enter Try.func19, Try.ntmps19
    go_wp2_with fail
    rw [← HW.out]
    refine (Q0.out 0).mono ?_
    rintro e w' ⟨rfl, m0, rfl⟩
    obtain ⟨c0, c1, c2, c3, c4, c5, cl⟩ := id (Bx.all6 (X1.out.same (W' := W.drewN m0) rfl))
    obtain ⟨d0, d1, d2, d3, d4, d5, dl⟩ := id (Bx.all6 (X2.out.same (W' := W.drewN m0) rfl))
    go_wp2_with fail
    refine (Q1.out _).mono ?_
    rintro e w' ⟨rfl, m1, rfl⟩
    clear c0 c1 c2 c3 c4 c5 cl d0 d1 d2 d3 d4 d5 dl
    obtain ⟨c0, c1, c2, c3, c4, c5, cl⟩ := id (Bx.all6 (X1.out.same (W' := W.drewN m1) rfl))
    obtain ⟨d0, d1, d2, d3, d4, d5, dl⟩ := id (Bx.all6 (X2.out.same (W' := W.drewN m1) rfl))
    go_wp2
    go_ret
    exact ⟨rfl, by first | exact below_drewN hB _ | exact below_drewN (below_drewN hB _) _⟩
  simp only [decide_eq_true k1] at E1
  by_cases q2 : n2 = p2
  case neg =>
    have hf : r = false := by rw [hr]; exact decide_eq_false fun e => q2 (by rw [N2.out, P2.out, e.2.2.2.1])
    subst hf
    have z5 : ((n2 : Int) != (p2 : Int)) = true := by simp; omega
    have z6 : (n2 != p2) = true := by simpa using q2
    have Q0 := Lib.hid E0
    have Q1 := Lib.hid E1
    clear E0 E1 hr k0 k1 q2
    go_enter Try.func19, Try.ntmps19
    go_wp2_with fail
    rw [← HW.out]
    refine (Q0.out 0).mono ?_
    rintro e w' ⟨rfl, m0, rfl⟩
    obtain ⟨c0, c1, c2, c3, c4, c5, cl⟩ := id (Bx.all6 (X1.out.same (W' := W.drewN m0) rfl))
    obtain ⟨d0, d1, d2, d3, d4, d5, dl⟩ := id (Bx.all6 (X2.out.same (W' := W.drewN m0) rfl))
    go_wp2_with fail
    refine (Q1.out _).mono ?_
    rintro e w' ⟨rfl, m1, rfl⟩
    clear c0 c1 c2 c3 c4 c5 cl d0 d1 d2 d3 d4 d5 dl
    obtain ⟨c0, c1, c2, c3, c4, c5, cl⟩ := id (Bx.all6 (X1.out.same (W' := W.drewN m1) rfl))
    obtain ⟨d0, d1, d2, d3, d4, d5, dl⟩ := id (Bx.all6 (X2.out.same (W' := W.drewN m1) rfl))
    go_wp2
    go_ret
    exact ⟨rfl, by first | exact below_drewN hB _ | exact below_drewN (below_drewN hB _) _⟩
  subst q2
  by_cases q3 : n3 = p3
  case neg =>
    have hf : r = false := by rw [hr]; exact decide_eq_false fun e => q3 (by rw [N3.out, P3.out, e.2.2.2.2.1])
    subst hf
    have z5 : ((n3 : Int) != (p3 : Int)) = true := by simp; omega
    have z6 : (n3 != p3) = true := by simpa using q3
    have Q0 := Lib.hid E0
    have Q1 := Lib.hid E1
    clear E0 E1 hr k0 k1 q3
    go_enter Try.func19, Try.ntmps19
    go_wp2_with fail
    rw [← HW.out]
    refine (Q0.out 0).mono ?_
    rintro e w' ⟨rfl, m0, rfl⟩
    obtain ⟨c0, c1, c2, c3, c4, c5, cl⟩ := id (Bx.all6 (X1.out.same (W' := W.drewN m0) rfl))
    obtain ⟨d0, d1, d2, d3, d4, d5, dl⟩ := id (Bx.all6 (X2.out.same (W' := W.drewN m0) rfl))
    go_wp2_with fail
    refine (Q1.out _).mono ?_
    rintro e w' ⟨rfl, m1, rfl⟩
    clear c0 c1 c2 c3 c4 c5 cl d0 d1 d2 d3 d4 d5 dl
    obtain ⟨c0, c1, c2, c3, c4, c5, cl⟩ := id (Bx.all6 (X1.out.same (W' := W.drewN m1) rfl))
    obtain ⟨d0, d1, d2, d3, d4, d5, dl⟩ := id (Bx.all6 (X2.out.same (W' := W.drewN m1) rfl))
    go_wp2
    go_ret
    exact ⟨rfl, by first | exact below_drewN hB _ | exact below_drewN (below_drewN hB _) _⟩
  subst q3
  by_cases q4 : n4 = p4
  case neg =>
    have hf : r = false := by rw [hr]; exact decide_eq_false fun e => q4 (by rw [N4.out, P4.out, e.2.2.2.2.2])
    subst hf
    have z5 : ((n4 : Int) != (p4 : Int)) = true := by simp; omega
    have z6 : (n4 != p4) = true := by simpa using q4
    have Q0 := Lib.hid E0
    have Q1 := Lib.hid E1
    clear E0 E1 hr k0 k1 q4
    go_enter Try.func19, Try.ntmps19
    go_wp2_with fail
    rw [← HW.out]
    refine (Q0.out 0).mono ?_
    rintro e w' ⟨rfl, m0, rfl⟩
    obtain ⟨c0, c1, c2, c3, c4, c5, cl⟩ := id (Bx.all6 (X1.out.same (W' := W.drewN m0) rfl))
    obtain ⟨d0, d1, d2, d3, d4, d5, dl⟩ := id (Bx.all6 (X2.out.same (W' := W.drewN m0) rfl))
    go_wp2_with fail
    refine (Q1.out _).mono ?_
    rintro e w' ⟨rfl, m1, rfl⟩
    clear c0 c1 c2 c3 c4 c5 cl d0 d1 d2 d3 d4 d5 dl
    obtain ⟨c0, c1, c2, c3, c4, c5, cl⟩ := id (Bx.all6 (X1.out.same (W' := W.drewN m1) rfl))
    obtain ⟨d0, d1, d2, d3, d4, d5, dl⟩ := id (Bx.all6 (X2.out.same (W' := W.drewN m1) rfl))
    go_wp2
    go_ret
    exact ⟨rfl, by first | exact below_drewN hB _ | exact below_drewN (below_drewN hB _) _⟩
  subst q4
  have hr2 : Hid (r = decide (x2 = y2 ∧ x3 = y3 ∧ x4 = y4)) := by
    show _ = _
    rw [hr]
    exact decide_eq_decide.2 ⟨fun e => ⟨e.2.2.2.1, e.2.2.2.2.1, e.2.2.2.2.2⟩, fun e => ⟨rfl, k0, k1, e.1, e.2.1, e.2.2⟩⟩
  have Q0 := Lib.hid E0
  have Q1 := Lib.hid E1
  clear E0 E1 hr k0 k1
  go_enter Try.func19, Try.ntmps19
  go_wp2_with fail
  rw [← HW.out]
  refine (Q0.out 0).mono ?_
  rintro e w' ⟨rfl, m0, rfl⟩
  obtain ⟨c0, c1, c2, c3, c4, c5, cl⟩ := id (Bx.all6 (X1.out.same (W' := W.drewN m0) rfl))
  obtain ⟨d0, d1, d2, d3, d4, d5, dl⟩ := id (Bx.all6 (X2.out.same (W' := W.drewN m0) rfl))
  go_wp2_with fail
  refine (Q1.out _).mono ?_
  rintro e w' ⟨rfl, m1, rfl⟩
  clear c0 c1 c2 c3 c4 c5 cl d0 d1 d2 d3 d4 d5 dl
  obtain ⟨c0, c1, c2, c3, c4, c5, cl⟩ := id (Bx.all6 (X1.out.same (W' := W.drewN m1) rfl))
  obtain ⟨d0, d1, d2, d3, d4, d5, dl⟩ := id (Bx.all6 (X2.out.same (W' := W.drewN m1) rfl))
  go_wp2
  clear c0 c1 c2 c3 c4 c5 cl d0 d1 d2 d3 d4 d5 dl
  go_loopw [5] (fun i wr => ∃ s m : Nat, s ≤ n2 ∧ i = .int .i64 s ∧ wr = W.drewN m ∧ Hid (x2.take s = y2.take s)) (fun i _ => n2 - (intOf i).toNat)
  case atStart => exact ⟨0, _, Nat.zero_le _, rfl, by first | rfl | rw [World.drewN_drewN], rfl⟩
  case round =>
    obtain ⟨s, m, hss, rfl, rfl, hTs⟩ := hrel
    obtain ⟨c0, c1, c2, c3, c4, c5, cl⟩ := id (Bx.all6 (X1.out.same (W' := W.drewN m) rfl))
    obtain ⟨d0, d1, d2, d3, d4, d5, dl⟩ := id (Bx.all6 (X2.out.same (W' := W.drewN m) rfl))
    obtain ⟨e0, e1, e2, e3, e4, e5, el⟩ := id (Bx.all6 X1.out)
    obtain ⟨f0, f1, f2, f3, f4, f5, fl⟩ := id (Bx.all6 X2.out)
    by_cases hlts : s < n2
    · obtain ⟨x, hx⟩ : ∃ x, x2[s]? = some x := ⟨_, List.getElem?_eq_getElem (by rw [← N2.out]; exact hlts)⟩
      obtain ⟨y, hy⟩ : ∃ x, y2[s]? = some x := ⟨_, List.getElem?_eq_getElem (by rw [← P2.out]; exact hlts)⟩
      obtain ⟨g2, _, u2, y2', hv2, hc2, hE2, hg2, _⟩ := H2.out.at_ (push2_ok _) hx
      obtain ⟨g3, _, u3, y3', hv3, hc3, hE3, hg3, _⟩ := G2.out.at_ (push2_ok _) hy
      simp only [Value.slice.injEq] at hv2 hv3
      obtain ⟨rfl, q2, rfl⟩ := hv2
      obtain ⟨rfl, q3, rfl⟩ := hv3
      clear q2 q3
      have bx := L2.out.2 x (List.mem_of_getElem? hx)
      have bly := M2.out.2 y (List.mem_of_getElem? hy)
      have q := fun j => spec_samep (W.drewN j) bx bly ((push2_ok _).drewN hE2 j) ((push2_ok _).drewN hE3 j)
      obtain ⟨A2', k2, rfl⟩ := ManyE.slice hE2
      obtain ⟨A3', k3, rfl⟩ := ManyE.slice hE3
      by_cases hxy : x = y
      · simp only [decide_eq_true hxy] at q
        have Q := Lib.hid q
        have hnx := Lib.hid (same_take hx (by rw [hxy]; exact hy) hTs.out)
        clear hx hy hTs q hxy hE2 hE3 bx bly
        go_wp2_with fail
        go_quiet ((go_at_call 56; refine (Q.out _).mono ?_; rintro e w' ⟨h1, j, rfl⟩; first | exact ⟨h1, _, rfl⟩ | exact ⟨h1, _, by rw [World.drewN_drewN]⟩ | exact ⟨h1, _, by rw [World.drewN_drewN, Nat.add_assoc]⟩))
        go_wp2
        go_roundw
        case rel => exact ⟨s + 1, _, by omega, by go_num, by first | rfl | rw [World.drewN_drewN], hnx⟩
        case measure => simp [intOf]; omega
      · simp only [decide_eq_false hxy] at q
        have Q := Lib.hid q
        have hf : r = false := by rw [hr2.out]; exact decide_eq_false fun e => not_same hx hy hxy e.1
        subst hf
        clear hx hy hTs q hxy hE2 hE3 bx bly
        go_wp2_with fail
        go_quiet ((go_at_call 56; refine (Q.out _).mono ?_; rintro e w' ⟨h1, j, rfl⟩; first | exact ⟨h1, _, rfl⟩ | exact ⟨h1, _, by rw [World.drewN_drewN]⟩ | exact ⟨h1, _, by rw [World.drewN_drewN, Nat.add_assoc]⟩))
        go_wp2
        go_ret
        exact ⟨rfl, by first | exact below_drewN hB _ | exact below_drewN (below_drewN hB _) _⟩
    · have e : s = n2 := by omega
      subst e
      have hall2 : Hid (x2 = y2) := by
        have h1 := hTs.out
        rw [N2.out, List.take_length, ← N2.out, P2.out, List.take_length] at h1
        exact h1
      clear hTs
      clear e0 e1 e2 e3 e4 e5 el f0 f1 f2 f3 f4 f5 fl
      go_wp2
      clear c0 c1 c2 c3 c4 c5 cl d0 d1 d2 d3 d4 d5 dl
      go_loopw [6] (fun i wr => ∃ t m : Nat, t ≤ n3 ∧ i = .int .i64 t ∧ wr = W.drewN m ∧ Hid (x3.take t = y3.take t)) (fun i _ => n3 - (intOf i).toNat)
      case atStart => exact ⟨0, _, Nat.zero_le _, rfl, by first | rfl | rw [World.drewN_drewN], rfl⟩
      case round =>
        obtain ⟨t, m, hst, rfl, rfl, hTt⟩ := hrel
        obtain ⟨c0, c1, c2, c3, c4, c5, cl⟩ := id (Bx.all6 (X1.out.same (W' := W.drewN m) rfl))
        obtain ⟨d0, d1, d2, d3, d4, d5, dl⟩ := id (Bx.all6 (X2.out.same (W' := W.drewN m) rfl))
        obtain ⟨e0, e1, e2, e3, e4, e5, el⟩ := id (Bx.all6 X1.out)
        obtain ⟨f0, f1, f2, f3, f4, f5, fl⟩ := id (Bx.all6 X2.out)
        by_cases hltt : t < n3
        · obtain ⟨cs, hcs⟩ : ∃ x, x3[t]? = some x := ⟨_, List.getElem?_eq_getElem (by rw [← N3.out]; exact hltt)⟩
          obtain ⟨ds, hds⟩ : ∃ x, y3[t]? = some x := ⟨_, List.getElem?_eq_getElem (by rw [← P3.out]; exact hltt)⟩
          obtain ⟨g2, _, u2, y2', hv2, hc2, hE2, hg2, _⟩ := H3.out.at_ (ints3_ok _) hcs
          obtain ⟨g3, _, u3, y3', hv3, hc3, hE3, hg3, _⟩ := G3.out.at_ (ints3_ok _) hds
          simp only [Value.slice.injEq] at hv2 hv3
          obtain ⟨rfl, q2, rfl⟩ := hv2
          obtain ⟨rfl, q3, rfl⟩ := hv3
          clear q2 q3
          have bcs := L3.out.2 cs (List.mem_of_getElem? hcs)
          have bds := M3.out.2 ds (List.mem_of_getElem? hds)
          have Bcs := Lib.hid bcs
          have Bds := Lib.hid bds
          have lcs : cs.length ≤ 1048576 := bcs.1
          have lds : ds.length ≤ 1048576 := bds.1
          obtain ⟨A2', k2, rfl⟩ := ManyE.slice hE2
          obtain ⟨A3', k3, rfl⟩ := ManyE.slice hE3
          have hst2 : cs = ds → Hid (x3.take (t + 1) = y3.take (t + 1)) := fun e => same_take hcs (by rw [hds, e]) hTt.out
          have hno : cs ≠ ds → Hid (r = false) := fun e => by show _ = _; rw [hr2.out]; exact decide_eq_false fun q => not_same hcs hds e q.2.1
          have Hst := Lib.hid hst2
          have Hno := Lib.hid hno
          have HE2 := Lib.hid hE2
          have HE3 := Lib.hid hE3
          clear hcs hds hst2 hno hE2 hE3 bcs bds
          by_cases hl : cs.length = ds.length
          case neg =>
            have hf := (Hno.out fun e => hl (by rw [e])).out
            have z5 : ((cs.length : Int) != (ds.length : Int)) = true := by simp; omega
            have z6 : (cs.length != ds.length) = true := by simpa using hl
            subst hf
            clear hl Hst Hno HE2 HE3 hTt
            generalize cs.length = p at *
            generalize ds.length = q at *
            go_wp2_with fail
            go_quiet (fail)
            go_wp2
            go_ret
            exact ⟨rfl, by first | exact below_drewN hB _ | exact below_drewN (below_drewN hB _) _⟩
          have hE2 := HE2.out
          have hE3 := HE3.out
          have Hl := Lib.hid hl
          obtain ⟨p, hp⟩ : ∃ p, p = cs.length := ⟨_, rfl⟩
          rw [← hp] at hE2 hc2 lcs hl
          rw [← hl] at hE3 hc3
          have Hp := Lib.hid hp
          have Hq2 := Lib.hid hE2
          have Hq3 := Lib.hid hE3
          clear hp hl lds HE2 HE3 hE2 hE3
          go_wp2_with fail
          go_quiet (fail)
          go_wp2
          clear c0 c1 c2 c3 c4 c5 cl d0 d1 d2 d3 d4 d5 dl
          go_loopw [7] (fun i wr => ∃ k m' : Nat, k ≤ p ∧ i = .int .i64 k ∧ wr = W.drewN m' ∧ Hid (cs.take k = ds.take k)) (fun i _ => p - (intOf i).toNat)
          case atStart => exact ⟨0, _, Nat.zero_le _, rfl, by first | rfl | rw [World.drewN_drewN], rfl⟩
          case round =>
            obtain ⟨k, m', hk, rfl, rfl, hT⟩ := hrel
            obtain ⟨c0, c1, c2, c3, c4, c5, cl⟩ := id (Bx.all6 (X1.out.same (W' := W.drewN m') rfl))
            obtain ⟨d0, d1, d2, d3, d4, d5, dl⟩ := id (Bx.all6 (X2.out.same (W' := W.drewN m') rfl))
            have v2 : (W.drewN m').cell? ⟨g2, t, none⟩ = _ := hc2
            have v3 : (W.drewN m').cell? ⟨g3, t, none⟩ = _ := hc3
            by_cases hlk : k < p
            · obtain ⟨x, hx⟩ : ∃ x, cs[k]? = some x := ⟨_, List.getElem?_eq_getElem (by rw [← Hp.out]; exact hlk)⟩
              obtain ⟨y, hy⟩ : ∃ x, ds[k]? = some x := ⟨_, List.getElem?_eq_getElem (by rw [← Hl.out, ← Hp.out]; exact hlk)⟩
              obtain ⟨g4, _, u4, y4', hv4, hc4, hE4, hg4, _⟩ := Hq2.out.at_ (ints2_ok _) hx
              obtain ⟨g5, _, u5, y5', hv5, hc5, hE5, hg5, _⟩ := Hq3.out.at_ (ints2_ok _) hy
              simp only [Value.slice.injEq] at hv4 hv5
              obtain ⟨rfl, q2, rfl⟩ := hv4
              obtain ⟨rfl, q3, rfl⟩ := hv5
              clear q2 q3
              have bx := Bcs.out.2 x (List.mem_of_getElem? hx)
              have bly := Bds.out.2 y (List.mem_of_getElem? hy)
              have q := fun j => spec_lists (W.drewN j) bx bly ((ints2_ok _).drewN hE4 j) ((ints2_ok _).drewN hE5 j)
              obtain ⟨A4', k4, rfl⟩ := ManyE.slice hE4
              obtain ⟨A5', k5, rfl⟩ := ManyE.slice hE5
              by_cases hxy : x = y
              · simp only [decide_eq_true hxy] at q
                have Q := Lib.hid q
                have hnx := Lib.hid (same_take hx (by rw [hxy]; exact hy) hT.out)
                clear hx hy hT q hxy hE4 hE5 bx bly Hst Hno
                go_wp2_with fail
                go_quiet ((go_at_call 46; refine (Q.out _).mono ?_; rintro e w' ⟨h1, j, rfl⟩; first | exact ⟨h1, _, rfl⟩ | exact ⟨h1, _, by rw [World.drewN_drewN]⟩ | exact ⟨h1, _, by rw [World.drewN_drewN, Nat.add_assoc]⟩))
                go_wp2
                go_roundw
                case rel => exact ⟨k + 1, _, by omega, by go_num, by first | rfl | rw [World.drewN_drewN], hnx⟩
                case measure => simp [intOf]; omega
              · simp only [decide_eq_false hxy] at q
                have Q := Lib.hid q
                have hf := (Hno.out fun e => not_same hx hy hxy e).out
                subst hf
                clear hx hy hT q hxy hE4 hE5 bx bly Hst Hno
                go_wp2_with fail
                go_quiet ((go_at_call 46; refine (Q.out _).mono ?_; rintro e w' ⟨h1, j, rfl⟩; first | exact ⟨h1, _, rfl⟩ | exact ⟨h1, _, by rw [World.drewN_drewN]⟩ | exact ⟨h1, _, by rw [World.drewN_drewN, Nat.add_assoc]⟩))
                go_wp2
                go_ret
                exact ⟨rfl, by first | exact below_drewN hB _ | exact below_drewN (below_drewN hB _) _⟩
            · have e : k = p := by omega
              subst e
              have hnx := Lib.hid (Hst.out (by
                have h1 := hT.out
                have h2 := Hl.out
                rwa [Hp.out, List.take_length, h2, List.take_length] at h1)).out
              clear hT Hst Hno
              go_wp2
              go_roundw
              case rel => exact ⟨t + 1, _, by omega, by go_num, rfl, hnx⟩
              case measure => simp [intOf]; omega
        · have e : t = n3 := by omega
          subst e
          have hall3 : Hid (x3 = y3) := by
            have h1 := hTt.out
            rw [N3.out, List.take_length, ← N3.out, P3.out, List.take_length] at h1
            exact h1
          clear hTt
          clear e0 e1 e2 e3 e4 e5 el f0 f1 f2 f3 f4 f5 fl
          go_wp2
          clear c0 c1 c2 c3 c4 c5 cl d0 d1 d2 d3 d4 d5 dl
          go_loopw [8] (fun i wr => ∃ v m : Nat, v ≤ n4 ∧ i = .int .i64 v ∧ wr = W.drewN m ∧ Hid (x4.take v = y4.take v)) (fun i _ => n4 - (intOf i).toNat)
          case atStart => exact ⟨0, _, Nat.zero_le _, rfl, by first | rfl | rw [World.drewN_drewN], rfl⟩
          case round =>
            obtain ⟨v, m, hsv, rfl, rfl, hTv⟩ := hrel
            obtain ⟨c0, c1, c2, c3, c4, c5, cl⟩ := id (Bx.all6 (X1.out.same (W' := W.drewN m) rfl))
            obtain ⟨d0, d1, d2, d3, d4, d5, dl⟩ := id (Bx.all6 (X2.out.same (W' := W.drewN m) rfl))
            obtain ⟨e0, e1, e2, e3, e4, e5, el⟩ := id (Bx.all6 X1.out)
            obtain ⟨f0, f1, f2, f3, f4, f5, fl⟩ := id (Bx.all6 X2.out)
            by_cases hltv : v < n4
            · obtain ⟨x, hx⟩ : ∃ x, x4[v]? = some x := ⟨_, List.getElem?_eq_getElem (by rw [← N4.out]; exact hltv)⟩
              obtain ⟨y, hy⟩ : ∃ x, y4[v]? = some x := ⟨_, List.getElem?_eq_getElem (by rw [← P4.out]; exact hltv)⟩
              obtain ⟨g2, _, u2, y2', hv2, hc2, hE2, hg2, _⟩ := H4.out.at_ (ints2_ok _) hx
              obtain ⟨g3, _, u3, y3', hv3, hc3, hE3, hg3, _⟩ := G4.out.at_ (ints2_ok _) hy
              simp only [Value.slice.injEq] at hv2 hv3
              obtain ⟨rfl, q2, rfl⟩ := hv2
              obtain ⟨rfl, q3, rfl⟩ := hv3
              clear q2 q3
              have bx := L4.out.2 x (List.mem_of_getElem? hx)
              have bly := M4.out.2 y (List.mem_of_getElem? hy)
              have q := fun j => spec_lists (W.drewN j) bx bly ((ints2_ok _).drewN hE2 j) ((ints2_ok _).drewN hE3 j)
              obtain ⟨A2', k2, rfl⟩ := ManyE.slice hE2
              obtain ⟨A3', k3, rfl⟩ := ManyE.slice hE3
              by_cases hxy : x = y
              · simp only [decide_eq_true hxy] at q
                have Q := Lib.hid q
                have hnx := Lib.hid (same_take hx (by rw [hxy]; exact hy) hTv.out)
                clear hx hy hTv q hxy hE2 hE3 bx bly
                go_wp2_with fail
                go_quiet ((go_at_call 46; refine (Q.out _).mono ?_; rintro e w' ⟨h1, j, rfl⟩; first | exact ⟨h1, _, rfl⟩ | exact ⟨h1, _, by rw [World.drewN_drewN]⟩ | exact ⟨h1, _, by rw [World.drewN_drewN, Nat.add_assoc]⟩))
                go_wp2
                go_roundw
                case rel => exact ⟨v + 1, _, by omega, by go_num, by first | rfl | rw [World.drewN_drewN], hnx⟩
                case measure => simp [intOf]; omega
              · simp only [decide_eq_false hxy] at q
                have Q := Lib.hid q
                have hf : r = false := by rw [hr2.out]; exact decide_eq_false fun e => not_same hx hy hxy e.2.2
                subst hf
                clear hx hy hTv q hxy hE2 hE3 bx bly
                go_wp2_with fail
                go_quiet ((go_at_call 46; refine (Q.out _).mono ?_; rintro e w' ⟨h1, j, rfl⟩; first | exact ⟨h1, _, rfl⟩ | exact ⟨h1, _, by rw [World.drewN_drewN]⟩ | exact ⟨h1, _, by rw [World.drewN_drewN, Nat.add_assoc]⟩))
                go_wp2
                go_ret
                exact ⟨rfl, by first | exact below_drewN hB _ | exact below_drewN (below_drewN hB _) _⟩
            · have e : v = n4 := by omega
              subst e
              have hall4 : Hid (x4 = y4) := by
                have h1 := hTv.out
                rw [N4.out, List.take_length, ← N4.out, P4.out, List.take_length] at h1
                exact h1
              clear hTv
              have hf : r = true := by rw [hr2.out]; exact decide_eq_true ⟨hall2.out, hall3.out, hall4.out⟩
              subst hf
              go_wp2
              go_ret
              exact ⟨rfl, by first | exact below_drewN hB _ | exact below_drewN (below_drewN hB _) _⟩

theorem both_SameChoices (c d : Ch) : ∃ r0 : Bool,
    (∀ base0 v0 bs0 base1 v1 bs1 w, BdH c → BdH d → ChE base0 w v0 c bs0 → ChE base1 w v1 d bs1 → Calls Try.prog 19 #[v0, v1] w (TupPost (.bool r0) w)) ∧
    (∀ base0 v0 bs0 base1 v1 bs1 w, BdH c → BdH d → ChE base0 w v0 c bs0 → ChE base1 w v1 d bs1 → Calls Try.prog 21 #[v0, v1] w (TupPost (.bool r0) w)) :=
  ⟨sameH c d, fun _ _ _ _ _ _ w hc hd h h' => spec_SameChoices w hc hd h h', fun _ _ _ _ _ _ w hc hd h h' => impl_SameChoices w hc hd h h'⟩
end Go.Proofs.Ytennjggeimeieaa
