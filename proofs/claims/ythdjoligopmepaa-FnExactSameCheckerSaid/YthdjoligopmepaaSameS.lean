/- SameChecker of the model. -/
import Derived.Test.YthdjoligopmepaaSameC
namespace Go.Proofs.Ythdjoligopmepaa
open Go.RowKit
set_option linter.unusedVariables false

set_option maxHeartbeats 25600000 in
set_option maxRecDepth 100000 in
theorem spec_SameChecker {base base' : Nat} {v v' : Value} {c d : Ck} {bs bs' : List Nat} (w : World) (hc : BdC c) (hd : BdC d) (h : CkE base w v c bs) (h' : CkE base' w v' d bs') :
    Calls Try.prog 14 #[v, v'] w (SeenPost (.bool (sameB c d)) w) := by
  obtain ⟨va, vc, vr, vi, b1, b2, b3, b4, rfl, h1, h2, h3, h4, _, _⟩ := h
  obtain ⟨va', vc', vr', vi', b1', b2', b3', b4', rfl, h1', h2', h3', h4', _, _⟩ := h'
  obtain ⟨A, ka, rfl⟩ := RowE.slice h1
  obtain ⟨B, kb, rfl⟩ := ManyE.slice h2
  obtain ⟨R, kr, rfl⟩ := ManyE.slice h3
  obtain ⟨I, ki, rfl⟩ := ManyE.slice h4
  obtain ⟨A', ka', rfl⟩ := RowE.slice h1'
  obtain ⟨B', kb', rfl⟩ := ManyE.slice h2'
  obtain ⟨R', kr', rfl⟩ := ManyE.slice h3'
  obtain ⟨I', ki', rfl⟩ := ManyE.slice h4'
  obtain ⟨s0, s1, ac, ca, re, inn⟩ := c
  obtain ⟨t0, t1, ac', ca', re', inn'⟩ := d
  have g1 := hc.accept
  have g2 := hc.call
  have g3 := hc.ret
  have g4 := hc.inner
  have g1' := hd.accept
  have g2' := hd.call
  have g3' := hd.ret
  have g4' := hd.inner
  dsimp only at h1 h2 h3 h4 h1' h2' h3' h4' g1 g2 g3 g4 g1' g2' g3' g4' ⊢
  clear hc hd
  obtain ⟨n2, hn2⟩ : ∃ n, n = ca.length := ⟨_, rfl⟩
  obtain ⟨n2', hn2'⟩ : ∃ n, n = ca'.length := ⟨_, rfl⟩
  obtain ⟨n3, hn3⟩ : ∃ n, n = re.length := ⟨_, rfl⟩
  obtain ⟨n3', hn3'⟩ : ∃ n, n = re'.length := ⟨_, rfl⟩
  rw [← hn2] at h2 ⊢
  rw [← hn2'] at h2' ⊢
  rw [← hn3] at h3 ⊢
  rw [← hn3'] at h3' ⊢
  obtain ⟨W, hW⟩ : ∃ W, W = (w.alloc (.cells #[.int .i64 s0, .int .i64 s1, .slice A ac.length ka, .slice B n2 kb, .slice R n3 kr, .slice I inn.length ki] 32)).alloc (.cells #[.int .i64 t0, .int .i64 t1, .slice A' ac'.length ka', .slice B' n2' kb', .slice R' n3' kr', .slice I' inn'.length ki'] 32) := ⟨_, rfl⟩
  have hB : Below w.heap.size w W := by rw [hW]; exact ((Below.refl _ _).alloc (Nat.le_refl _) _).alloc (by simp) _
  have x1 : Box6 W w.heap.size (.int .i64 s0) (.int .i64 s1) (.slice A ac.length ka) (.slice B n2 kb) (.slice R n3 kr) (.slice I inn.length ki) := by
    rw [hW]; exact (Box6.new w _ _ _ _ _ _ _).later ((Below.refl _ _).alloc (Nat.le_refl _) _)
  have x2 : Box6 W (w.heap.size + 1) (.int .i64 t0) (.int .i64 t1) (.slice A' ac'.length ka') (.slice B' n2' kb') (.slice R' n3' kr') (.slice I' inn'.length ki') := by
    rw [hW]
    have := Box6.new (w.alloc (.cells #[.int .i64 s0, .int .i64 s1, .slice A ac.length ka, .slice B n2 kb, .slice R n3 kr, .slice I inn.length ki] 32)) (.int .i64 t0) (.int .i64 t1) (.slice A' ac'.length ka') (.slice B' n2' kb') (.slice R' n3' kr') (.slice I' inn'.length ki') 32
    rwa [World.size_alloc] at this
  have H2 := Lib.hid ((push2_ok _).later h2 hB)
  have H2' := Lib.hid ((push2_ok _).later h2' hB)
  have H3 := Lib.hid ((ints3_ok _).later h3 hB)
  have H3' := Lib.hid ((ints3_ok _).later h3' hB)
  have E1 := fun j => Calls.drewFrom (spec_bools (W.drewN j) g1 g1' ((bools_ok _).drewN ((bools_ok _).later h1 hB) j) ((bools_ok _).drewN ((bools_ok _).later h1' hB) j))
  have E4 := fun j => Calls.drewFrom (spec_lists (W.drewN j) g4 g4' ((ints2_ok _).drewN ((ints2_ok _).later h4 hB) j) ((ints2_ok _).drewN ((ints2_ok _).later h4' hB) j))

  have G2 := Lib.hid g2
  have G2' := Lib.hid g2'
  have G3 := Lib.hid g3
  have G3' := Lib.hid g3'
  have m2 : n2 ≤ 1048576 := by rw [hn2]; exact g2.1
  have m2' : n2' ≤ 1048576 := by rw [hn2']; exact g2'.1
  have m3 : n3 ≤ 1048576 := by rw [hn3]; exact g3.1
  have m3' : n3' ≤ 1048576 := by rw [hn3']; exact g3'.1
  have N2 := Lib.hid hn2
  have N2' := Lib.hid hn2'
  have N3 := Lib.hid hn3
  have N3' := Lib.hid hn3'
  obtain ⟨r, hr⟩ : ∃ r, r = sameB ⟨s0, s1, ac, ca, re, inn⟩ ⟨t0, t1, ac', ca', re', inn'⟩ := ⟨_, rfl⟩
  rw [← hr]
  unfold sameB at hr
  dsimp only at hr
  have HW := Lib.hid hW
  clear hW h1 h2 h3 h4 h1' h2' h3' h4' g1 g2 g3 g4 g1' g2' g3' g4' hn2 hn2' hn3 hn3'
  by_cases k0 : s0 = t0
  case neg =>
    have hf : r = false := by rw [hr]; exact decide_eq_false fun e => k0 e.1
    subst hf
    have z5 : (s0 == t0) = false := by simpa using k0
    have z6 : (s0 != t0) = true := by simpa using k0
    have Q1 := Lib.hid E1
    have Q2 := Lib.hid E4
    clear E1 E4 hr k0
    go_enter Try.func14, Try.ntmps14
    go_wp2
    go_ret
    exact ⟨rfl, by rw [← HW.out]; exact hB⟩
  subst k0
  by_cases k1 : s1 = t1
  case neg =>
    have hf : r = false := by rw [hr]; exact decide_eq_false fun e => k1 e.2.1
    subst hf
    have z5 : (s1 == t1) = false := by simpa using k1
    have z6 : (s1 != t1) = true := by simpa using k1
    have Q1 := Lib.hid E1
    have Q2 := Lib.hid E4
    clear E1 E4 hr k1
    go_enter Try.func14, Try.ntmps14
    go_wp2
    go_ret
    exact ⟨rfl, by rw [← HW.out]; exact hB⟩
  subst k1
  by_cases k2 : ac = ac'
  case neg =>
    have hf : r = false := by rw [hr]; exact decide_eq_false fun e => k2 e.2.2.1
    subst hf
    simp only [decide_eq_false k2] at E1
    have Q1 := Lib.hid E1
    have Q2 := Lib.hid E4
    clear E1 E4 hr k2
    go_enter Try.func14, Try.ntmps14
    go_wp2_with fail
    rw [← HW.out]
    refine (Q1.out 0).mono ?_
    rintro e w' ⟨rfl, m5, rfl⟩
    obtain ⟨c0, c1, c2, c3, c4, c5, cl⟩ := id (x1.same (W' := W.drewN m5) rfl)
    obtain ⟨d0, d1, d2, d3, d4, d5, dl⟩ := id (x2.same (W' := W.drewN m5) rfl)
    go_wp2
    go_ret
    exact ⟨rfl, by first | exact below_drewN hB _ | exact below_drewN (below_drewN hB _) _⟩
  simp only [decide_eq_true k2] at E1
  by_cases k3 : inn = inn'
  case neg =>
    have hf : r = false := by rw [hr]; exact decide_eq_false fun e => k3 e.2.2.2.2.2
    subst hf
    simp only [decide_eq_false k3] at E4
    have Q1 := Lib.hid E1
    have Q2 := Lib.hid E4
    clear E1 E4 hr k2 k3
    go_enter Try.func14, Try.ntmps14
    go_wp2_with fail
    rw [← HW.out]
    refine (Q1.out 0).mono ?_
    rintro e w' ⟨rfl, m5, rfl⟩
    obtain ⟨c0, c1, c2, c3, c4, c5, cl⟩ := id (x1.same (W' := W.drewN m5) rfl)
    obtain ⟨d0, d1, d2, d3, d4, d5, dl⟩ := id (x2.same (W' := W.drewN m5) rfl)
    go_wp2_with fail
    refine (Q2.out _).mono ?_
    rintro e w' ⟨rfl, m6, rfl⟩
    clear c0 c1 c2 c3 c4 c5 cl d0 d1 d2 d3 d4 d5 dl
    obtain ⟨c0, c1, c2, c3, c4, c5, cl⟩ := id (x1.same (W' := W.drewN m6) rfl)
    obtain ⟨d0, d1, d2, d3, d4, d5, dl⟩ := id (x2.same (W' := W.drewN m6) rfl)
    go_wp2
    go_ret
    exact ⟨rfl, by first | exact below_drewN hB _ | exact below_drewN (below_drewN hB _) _⟩
  simp only [decide_eq_true k3] at E4
  by_cases k4 : n2 = n2'
  case neg =>
    have hf : r = false := by rw [hr]; exact decide_eq_false fun e => k4 (by rw [N2.out, N2'.out, e.2.2.2.1])
    subst hf
    have z5 : ((n2 : Int) != (n2' : Int)) = true := by simp; omega
    have z6 : (n2 != n2') = true := by simpa using k4
    have Q1 := Lib.hid E1
    have Q2 := Lib.hid E4
    clear E1 E4 hr k2 k3 k4
    go_enter Try.func14, Try.ntmps14
    go_wp2_with fail
    rw [← HW.out]
    refine (Q1.out 0).mono ?_
    rintro e w' ⟨rfl, m5, rfl⟩
    obtain ⟨c0, c1, c2, c3, c4, c5, cl⟩ := id (x1.same (W' := W.drewN m5) rfl)
    obtain ⟨d0, d1, d2, d3, d4, d5, dl⟩ := id (x2.same (W' := W.drewN m5) rfl)
    go_wp2_with fail
    refine (Q2.out _).mono ?_
    rintro e w' ⟨rfl, m6, rfl⟩
    clear c0 c1 c2 c3 c4 c5 cl d0 d1 d2 d3 d4 d5 dl
    obtain ⟨c0, c1, c2, c3, c4, c5, cl⟩ := id (x1.same (W' := W.drewN m6) rfl)
    obtain ⟨d0, d1, d2, d3, d4, d5, dl⟩ := id (x2.same (W' := W.drewN m6) rfl)
    go_wp2
    go_ret
    exact ⟨rfl, by first | exact below_drewN hB _ | exact below_drewN (below_drewN hB _) _⟩
  subst k4
  by_cases k5 : n3 = n3'
  case neg =>
    have hf : r = false := by rw [hr]; exact decide_eq_false fun e => k5 (by rw [N3.out, N3'.out, e.2.2.2.2.1])
    subst hf
    have z5 : ((n3 : Int) != (n3' : Int)) = true := by simp; omega
    have z6 : (n3 != n3') = true := by simpa using k5
    have Q1 := Lib.hid E1
    have Q2 := Lib.hid E4
    clear E1 E4 hr k2 k3 k5
    go_enter Try.func14, Try.ntmps14
    go_wp2_with fail
    rw [← HW.out]
    refine (Q1.out 0).mono ?_
    rintro e w' ⟨rfl, m5, rfl⟩
    obtain ⟨c0, c1, c2, c3, c4, c5, cl⟩ := id (x1.same (W' := W.drewN m5) rfl)
    obtain ⟨d0, d1, d2, d3, d4, d5, dl⟩ := id (x2.same (W' := W.drewN m5) rfl)
    go_wp2_with fail
    refine (Q2.out _).mono ?_
    rintro e w' ⟨rfl, m6, rfl⟩
    clear c0 c1 c2 c3 c4 c5 cl d0 d1 d2 d3 d4 d5 dl
    obtain ⟨c0, c1, c2, c3, c4, c5, cl⟩ := id (x1.same (W' := W.drewN m6) rfl)
    obtain ⟨d0, d1, d2, d3, d4, d5, dl⟩ := id (x2.same (W' := W.drewN m6) rfl)
    go_wp2
    go_ret
    exact ⟨rfl, by first | exact below_drewN hB _ | exact below_drewN (below_drewN hB _) _⟩
  subst k5
  have hr2 : Hid (r = decide (ca = ca' ∧ re = re')) := by
    show _ = _
    rw [hr]
    exact decide_eq_decide.2 ⟨fun e => ⟨e.2.2.2.1, e.2.2.2.2.1⟩, fun e => ⟨rfl, rfl, k2, e.1, e.2, k3⟩⟩
  have Q1 := Lib.hid E1
  have Q2 := Lib.hid E4
  clear E1 E4 hr k2 k3
  go_enter Try.func14, Try.ntmps14
  go_wp2_with fail
  rw [← HW.out]
  refine (Q1.out 0).mono ?_
  rintro e w' ⟨rfl, m5, rfl⟩
  obtain ⟨c0, c1, c2, c3, c4, c5, cl⟩ := id (x1.same (W' := W.drewN m5) rfl)
  obtain ⟨d0, d1, d2, d3, d4, d5, dl⟩ := id (x2.same (W' := W.drewN m5) rfl)
  go_wp2_with fail
  refine (Q2.out _).mono ?_
  rintro e w' ⟨rfl, m6, rfl⟩
  clear c0 c1 c2 c3 c4 c5 cl d0 d1 d2 d3 d4 d5 dl
  obtain ⟨c0, c1, c2, c3, c4, c5, cl⟩ := id (x1.same (W' := W.drewN m6) rfl)
  obtain ⟨d0, d1, d2, d3, d4, d5, dl⟩ := id (x2.same (W' := W.drewN m6) rfl)
  go_wp2
  clear c0 c1 c2 c3 c4 c5 cl d0 d1 d2 d3 d4 d5 dl
  go_loopw [5] (fun i wr => ∃ s m : Nat, s ≤ n2 ∧ i = .int .i64 s ∧ wr = W.drewN m ∧ Hid (ca.take s = ca'.take s)) (fun i _ => n2 - (intOf i).toNat)
  case atStart => exact ⟨0, _, Nat.zero_le _, rfl, by first | rfl | rw [World.drewN_drewN], rfl⟩
  case round =>
    obtain ⟨s, m, hs, rfl, rfl, hA⟩ := hrel
    obtain ⟨c0, c1, c2, c3, c4, c5, cl⟩ := id (x1.same (W' := W.drewN m) rfl)
    obtain ⟨d0, d1, d2, d3, d4, d5, dl⟩ := id (x2.same (W' := W.drewN m) rfl)
    obtain ⟨e0, e1, e2, e3, e4, e5, el⟩ := id x1
    obtain ⟨f0, f1, f2, f3, f4, f5, fl⟩ := id x2
    by_cases hlt : s < n2
    · obtain ⟨cs, hcs⟩ : ∃ x, ca[s]? = some x := ⟨_, List.getElem?_eq_getElem (by rw [← N2.out]; exact hlt)⟩
      obtain ⟨ds, hds⟩ : ∃ x, ca'[s]? = some x := ⟨_, List.getElem?_eq_getElem (by rw [← N2'.out]; exact hlt)⟩
      obtain ⟨g2, _, u2, y2, hv2, hc2, hE2, hg2, _⟩ := H2.out.at_ (push_ok _) hcs
      obtain ⟨g3, _, u3, y3, hv3, hc3, hE3, hg3, _⟩ := H2'.out.at_ (push_ok _) hds
      simp only [Value.slice.injEq] at hv2 hv3
      obtain ⟨rfl, q2, rfl⟩ := hv2
      obtain ⟨rfl, q3, rfl⟩ := hv3
      clear q2 q3
      have bcs : cs.length ≤ 1048576 := G2.out.2 cs (List.mem_of_getElem? hcs)
      have bds : ds.length ≤ 1048576 := G2'.out.2 ds (List.mem_of_getElem? hds)
      obtain ⟨A2, k2, rfl⟩ := RowE.slice hE2
      obtain ⟨A3, k3, rfl⟩ := RowE.slice hE3
      have hst : cs = ds → Hid (ca.take (s + 1) = ca'.take (s + 1)) := fun e => same_take hcs (by rw [hds, e]) hA.out
      have hno : cs ≠ ds → Hid (r = false) := fun e => by show _ = _; rw [hr2.out]; exact decide_eq_false fun q => not_same hcs hds e q.1
      have Hst := Lib.hid hst
      have Hno := Lib.hid hno
      have HE2 := Lib.hid hE2
      have HE3 := Lib.hid hE3
      clear hcs hds hst hno hE2 hE3
      by_cases hl : cs.length = ds.length
      case neg =>
        have hf := (Hno.out fun e => hl (by rw [e])).out
        have z5 : ((cs.length : Int) != (ds.length : Int)) = true := by simp; omega
        have z6 : (cs.length != ds.length) = true := by simpa using hl
        subst hf
        clear hl Hst Hno HE2 HE3 hA
        generalize cs.length = p at *
        generalize ds.length = q at *
        go_wp2_with fail
        go_quiet (fail)
        go_wp2
        go_ret
        exact ⟨rfl, by first | exact below_drewN hB _ | exact below_drewN (below_drewN hB _) _⟩
      have hE2 := HE2.out
      have hE3 := HE3.out
      have Hl := Lib.hid hl
      obtain ⟨p, hp⟩ : ∃ p, p = cs.length := ⟨_, rfl⟩
      rw [← hp] at hE2 hc2 bcs hl
      rw [← hl] at hE3 hc3
      have Hp := Lib.hid hp
      clear hp hl bds HE2 HE3
      go_wp2_with fail
      go_quiet (fail)
      go_wp2
      clear c0 c1 c2 c3 c4 c5 cl d0 d1 d2 d3 d4 d5 dl
      go_loopw [6] (fun i wr => ∃ k m' : Nat, k ≤ p ∧ i = .int .i64 k ∧ wr = W.drewN m' ∧ Hid (cs.take k = ds.take k)) (fun i _ => p - (intOf i).toNat)
      case atStart => exact ⟨0, _, Nat.zero_le _, rfl, by first | rfl | rw [World.drewN_drewN], rfl⟩
      case round =>
        obtain ⟨k, m', hk, rfl, rfl, hT⟩ := hrel
        obtain ⟨c0, c1, c2, c3, c4, c5, cl⟩ := id (x1.same (W' := W.drewN m') rfl)
        obtain ⟨d0, d1, d2, d3, d4, d5, dl⟩ := id (x2.same (W' := W.drewN m') rfl)
        have v2 : (W.drewN m').cell? ⟨g2, s, none⟩ = _ := hc2
        have v3 : (W.drewN m').cell? ⟨g3, s, none⟩ = _ := hc3
        by_cases hlk : k < p
        · have hkx : k < cs.length := by rw [← Hp.out]; exact hlk
          have hky : k < ds.length := by rw [← Hl.out]; exact hkx
          obtain ⟨x, hx⟩ : ∃ x, cs[k]? = some x := ⟨_, List.getElem?_eq_getElem hkx⟩
          obtain ⟨y, hy⟩ : ∃ y, ds[k]? = some y := ⟨_, List.getElem?_eq_getElem hky⟩
          obtain ⟨ga, rfl, hga, _⟩ := RowE.head hE2 hkx
          obtain ⟨gb, rfl, hgb, _⟩ := RowE.head hE3 hky
          obtain ⟨X0, X1⟩ := x
          obtain ⟨Y0, Y1⟩ := y
          have hc0 : W.cell? ⟨ga, k * 2, none⟩ = _ := (PushE.cell' hE2 hx).1
          have hc1 : W.cell? ⟨ga, k * 2 + 1, none⟩ = _ := (PushE.cell' hE2 hx).2
          have hc0' : W.cell? ⟨gb, k * 2, none⟩ = _ := (PushE.cell' hE3 hy).1
          have hc1' : W.cell? ⟨gb, k * 2 + 1, none⟩ = _ := (PushE.cell' hE3 hy).2
          dsimp only at hc0 hc1 hc0' hc1'
          by_cases hxy : (X0, X1) = (Y0, Y1)
          · simp only [Prod.mk.injEq] at hxy
            obtain ⟨rfl, rfl⟩ := hxy
            have hnx := Lib.hid (same_take hx hy hT.out)
            clear hkx hky hx hy hT Hst Hno
            go_wp2_with fail
            go_quiet (fail)
            go_wp2
            go_roundw
            case rel => exact ⟨k + 1, _, by omega, by go_num, by first | rfl | rw [World.drewN_drewN], hnx⟩
            case measure => simp [intOf]; omega
          · have hf := (Hno.out fun e => not_same hx hy hxy e).out
            have z4 : ¬ (X0 = Y0 ∧ X1 = Y1) := by simpa using hxy
            subst hf
            clear hkx hky hx hy hT Hst Hno hxy
            by_cases h0 : X0 = Y0
            · subst h0
              have h1 : ¬ X1 = Y1 := fun e => z4 ⟨rfl, e⟩
              have z5 : (X1 == Y1) = false := by simpa using h1
              have z6 : (X1 != Y1) = true := by simpa using h1
              clear z4
              go_wp2_with fail
              go_quiet (fail)
              go_wp2
              go_ret
              exact ⟨rfl, by first | exact below_drewN hB _ | exact below_drewN (below_drewN hB _) _⟩
            · have z5 : (X0 == Y0) = false := by simpa using h0
              have z6 : (X0 != Y0) = true := by simpa using h0
              clear z4
              go_wp2_with fail
              go_quiet (fail)
              go_wp2
              go_ret
              exact ⟨rfl, by first | exact below_drewN hB _ | exact below_drewN (below_drewN hB _) _⟩
        · have e : k = p := by omega
          subst e
          have hnx := Lib.hid (Hst.out (by
            have h1 := hT.out
            have h2 := Hl.out
            rwa [Hp.out, List.take_length, h2, List.take_length] at h1)).out
          clear hT Hst Hno
          go_wp2
          go_roundw
          case rel => exact ⟨s + 1, _, by omega, by go_num, rfl, hnx⟩
          case measure => simp [intOf]; omega
    · have e : s = n2 := by omega
      subst e
      have hall : Hid (ca = ca') := by
        have h1 := hA.out
        rw [N2.out, List.take_length, ← N2.out, N2'.out, List.take_length] at h1
        exact h1
      clear hA e0 e1 e2 e3 e4 e5 el f0 f1 f2 f3 f4 f5 fl
      go_wp2
      clear c0 c1 c2 c3 c4 c5 cl d0 d1 d2 d3 d4 d5 dl
      go_loopw [7] (fun i wr => ∃ t m : Nat, t ≤ n3 ∧ i = .int .i64 t ∧ wr = W.drewN m ∧ Hid (re.take t = re'.take t)) (fun i _ => n3 - (intOf i).toNat)
      case atStart => exact ⟨0, _, Nat.zero_le _, rfl, by first | rfl | rw [World.drewN_drewN], rfl⟩
      case round =>
        obtain ⟨t, m', ht, rfl, rfl, hT⟩ := hrel
        obtain ⟨c0, c1, c2, c3, c4, c5, cl⟩ := id (x1.same (W' := W.drewN m') rfl)
        obtain ⟨d0, d1, d2, d3, d4, d5, dl⟩ := id (x2.same (W' := W.drewN m') rfl)
        obtain ⟨e0, e1, e2, e3, e4, e5, el⟩ := id x1
        obtain ⟨f0, f1, f2, f3, f4, f5, fl⟩ := id x2
        by_cases hlt2 : t < n3
        · obtain ⟨x, hx⟩ : ∃ x, re[t]? = some x := ⟨_, List.getElem?_eq_getElem (by rw [← N3.out]; exact hlt2)⟩
          obtain ⟨y, hy⟩ : ∃ x, re'[t]? = some x := ⟨_, List.getElem?_eq_getElem (by rw [← N3'.out]; exact hlt2)⟩
          obtain ⟨g2, _, u2, y2, hv2, hc2, hE2, hg2, _⟩ := H3.out.at_ (ints2_ok _) hx
          obtain ⟨g3, _, u3, y3, hv3, hc3, hE3, hg3, _⟩ := H3'.out.at_ (ints2_ok _) hy
          simp only [Value.slice.injEq] at hv2 hv3
          obtain ⟨rfl, q2, rfl⟩ := hv2
          obtain ⟨rfl, q3, rfl⟩ := hv3
          clear q2 q3
          have bx := G3.out.2 x (List.mem_of_getElem? hx)
          have bly := G3'.out.2 y (List.mem_of_getElem? hy)
          have q := fun j => spec_lists (W.drewN j) bx bly ((ints2_ok _).drewN hE2 j) ((ints2_ok _).drewN hE3 j)
          obtain ⟨A2, k2, rfl⟩ := ManyE.slice hE2
          obtain ⟨A3, k3, rfl⟩ := ManyE.slice hE3
          by_cases hxy : x = y
          · simp only [decide_eq_true hxy] at q
            have Q := Lib.hid q
            have hnx := Lib.hid (same_take hx (by rw [hxy]; exact hy) hT.out)
            clear hx hy hT q hxy hE2 hE3 bx bly
            go_wp2_with fail
            go_quiet ((go_at_call 45; refine (Q.out _).mono ?_; rintro e w' ⟨h1, j, rfl⟩; first | exact ⟨h1, _, rfl⟩ | exact ⟨h1, _, by rw [World.drewN_drewN]⟩ | exact ⟨h1, _, by rw [World.drewN_drewN, Nat.add_assoc]⟩))
            go_wp2
            go_roundw
            case rel => exact ⟨t + 1, _, by omega, by go_num, by first | rfl | rw [World.drewN_drewN], hnx⟩
            case measure => simp [intOf]; omega
          · simp only [decide_eq_false hxy] at q
            have Q := Lib.hid q
            have hf : r = false := by rw [hr2.out]; exact decide_eq_false fun e => not_same hx hy hxy e.2
            subst hf
            clear hx hy hT q hxy hE2 hE3 bx bly
            go_wp2_with fail
            go_quiet ((go_at_call 45; refine (Q.out _).mono ?_; rintro e w' ⟨h1, j, rfl⟩; first | exact ⟨h1, _, rfl⟩ | exact ⟨h1, _, by rw [World.drewN_drewN]⟩ | exact ⟨h1, _, by rw [World.drewN_drewN, Nat.add_assoc]⟩))
            go_wp2
            go_ret
            exact ⟨rfl, by first | exact below_drewN hB _ | exact below_drewN (below_drewN hB _) _⟩
        · have e : t = n3 := by omega
          subst e
          have hf : r = true := by
            have h1 := hT.out
            rw [N3.out, List.take_length, ← N3.out, N3'.out, List.take_length] at h1
            rw [hr2.out]
            exact decide_eq_true ⟨hall.out, h1⟩
          subst hf
          clear hT
          go_wp2
          go_ret
          exact ⟨rfl, by first | exact below_drewN hB _ | exact below_drewN (below_drewN hB _) _⟩
end Go.Proofs.Ythdjoligopmepaa
