/- SameRewriter of the model, and both. -/
import Derived.Test.YtkpajompmmfkjaaSameRI
namespace Go.Proofs.Ytkpajompmmfkjaa
open Go.RowKit
set_option linter.unusedVariables false

set_option maxHeartbeats 25600000 in
set_option maxRecDepth 100000 in
theorem spec_SameRewriter {base base' : Nat} {v v' : Value} {c d : Rw} {bs bs' : List Nat} (w : World) (hc : BdRw c) (hd : BdRw d) (h : RwE base w v c bs) (h' : RwE base' w v' d bs') :
    Calls Try.prog 11 #[v, v'] w (SeenPost (.bool (sameR c d)) w) := by
  obtain ⟨v0, v1, v2, b0, b1, b2, rfl, h0, h1, h2, _, _⟩ := h
  obtain ⟨u0, u1, u2, c0, c1, c2, rfl, g0, g1, g2, _, _⟩ := h'
  obtain ⟨A0, ka0, rfl⟩ := ManyE.slice h0
  obtain ⟨B0, kb0, rfl⟩ := ManyE.slice g0
  obtain ⟨A1, ka1, rfl⟩ := ManyE.slice h1
  obtain ⟨B1, kb1, rfl⟩ := ManyE.slice g1
  obtain ⟨A2, ka2, rfl⟩ := ManyE.slice h2
  obtain ⟨B2, kb2, rfl⟩ := ManyE.slice g2
  obtain ⟨s0, s1, x0, x1, x2⟩ := c
  obtain ⟨t0, t1, y0, y1, y2⟩ := d
  dsimp only at h0 h1 h2 g0 g1 g2 ⊢
  have l0 := hc.call; have l1 := hc.ret; have l2 := hc.inner
  have m0 := hd.call; have m1 := hd.ret; have m2 := hd.inner
  dsimp only at l0 l1 l2 m0 m1 m2
  obtain ⟨n0, hn0⟩ : ∃ n, n = x0.length := ⟨_, rfl⟩
  obtain ⟨p0, hp0⟩ : ∃ n, n = y0.length := ⟨_, rfl⟩
  rw [← hn0] at h0 ⊢
  rw [← hp0] at g0 ⊢
  obtain ⟨n1, hn1⟩ : ∃ n, n = x1.length := ⟨_, rfl⟩
  obtain ⟨p1, hp1⟩ : ∃ n, n = y1.length := ⟨_, rfl⟩
  rw [← hn1] at h1 ⊢
  rw [← hp1] at g1 ⊢
  obtain ⟨n2, hn2⟩ : ∃ n, n = x2.length := ⟨_, rfl⟩
  obtain ⟨p2, hp2⟩ : ∃ n, n = y2.length := ⟨_, rfl⟩
  rw [← hn2] at h2 ⊢
  rw [← hp2] at g2 ⊢
  obtain ⟨W, hW⟩ : ∃ W, W = (w.alloc (.cells #[.int .i64 s0, .int .i64 s1, .slice A0 n0 ka0, .slice A1 n1 ka1, .slice A2 n2 ka2] 33)).alloc (.cells #[.int .i64 t0, .int .i64 t1, .slice B0 p0 kb0, .slice B1 p1 kb1, .slice B2 p2 kb2] 33) := ⟨_, rfl⟩
  have hB : Below w.heap.size w W := by rw [hW]; exact ((Below.refl _ _).alloc (Nat.le_refl _) _).alloc (by simp) _
  have z1 := (Bx.new w 33 #[.int .i64 s0, .int .i64 s1, .slice A0 n0 ka0, .slice A1 n1 ka1, .slice A2 n2 ka2]).alloc (.cells #[.int .i64 t0, .int .i64 t1, .slice B0 p0 kb0, .slice B1 p1 kb1, .slice B2 p2 kb2] 33)
  have z2 := Bx.new (w.alloc (.cells #[.int .i64 s0, .int .i64 s1, .slice A0 n0 ka0, .slice A1 n1 ka1, .slice A2 n2 ka2] 33)) 33 #[.int .i64 t0, .int .i64 t1, .slice B0 p0 kb0, .slice B1 p1 kb1, .slice B2 p2 kb2]
  rw [World.size_alloc] at z2
  rw [← hW] at z1 z2
  have H0 := Lib.hid ((op2_ok _).later h0 hB)
  have G0 := Lib.hid ((op2_ok _).later g0 hB)
  have L0 := Lib.hid l0
  have M0 := Lib.hid m0
  have ln0 : n0 ≤ 1048576 := by rw [hn0]; exact l0.1
  have lp0 : p0 ≤ 1048576 := by rw [hp0]; exact m0.1
  have N0 := Lib.hid hn0
  have P0 := Lib.hid hp0
  have H1 := Lib.hid ((om3_ok _).later h1 hB)
  have G1 := Lib.hid ((om3_ok _).later g1 hB)
  have L1 := Lib.hid l1
  have M1 := Lib.hid m1
  have ln1 : n1 ≤ 1048576 := by rw [hn1]; exact l1.1
  have lp1 : p1 ≤ 1048576 := by rw [hp1]; exact m1.1
  have N1 := Lib.hid hn1
  have P1 := Lib.hid hp1
  have H2 := Lib.hid ((om2_ok _).later h2 hB)
  have G2 := Lib.hid ((om2_ok _).later g2 hB)
  have L2 := Lib.hid l2
  have M2 := Lib.hid m2
  have ln2 : n2 ≤ 1048576 := by rw [hn2]; exact l2.1
  have lp2 : p2 ≤ 1048576 := by rw [hp2]; exact m2.1
  have N2 := Lib.hid hn2
  have P2 := Lib.hid hp2
  obtain ⟨r, hr⟩ : ∃ r, r = sameR ⟨s0, s1, x0, x1, x2⟩ ⟨t0, t1, y0, y1, y2⟩ := ⟨_, rfl⟩
  rw [← hr]
  unfold sameR at hr
  dsimp only at hr
  have HW := Lib.hid hW
  clear hW h0 h1 h2 g0 g1 g2 l0 l1 l2 m0 m1 m2 hc hd hn0 hn1 hn2 hp0 hp1 hp2
  have X1 := Lib.hid z1
  have X2 := Lib.hid z2
  clear z1 z2
  by_cases kk : s0 = t0
  case neg =>
    have hf : r = false := by rw [hr]; exact decide_eq_false fun e => kk e.1
    subst hf
    have e5 : (s0 == t0) = false := by simpa using kk
    have e6 : (s0 != t0) = true := by simpa using kk
    clear hr kk
    go_enter Try.func11, Try.ntmps11
    go_wp2
    go_ret
    exact ⟨rfl, by rw [← HW.out]; exact hB⟩
  subst kk
  by_cases kl : s1 = t1
  case neg =>
    have hf : r = false := by rw [hr]; exact decide_eq_false fun e => kl e.2.1
    subst hf
    have e5 : (s1 == t1) = false := by simpa using kl
    have e6 : (s1 != t1) = true := by simpa using kl
    clear hr kl
    go_enter Try.func11, Try.ntmps11
    go_wp2
    go_ret
    exact ⟨rfl, by rw [← HW.out]; exact hB⟩
  subst kl
  by_cases q0 : n0 = p0
  case neg =>
    have hf : r = false := by rw [hr]; exact decide_eq_false fun e => q0 (by rw [N0.out, P0.out, e.2.2.1])
    subst hf
    have z5 : ((n0 : Int) != (p0 : Int)) = true := by simp; omega
    have z6 : (n0 != p0) = true := by simpa using q0
    clear hr q0
    go_enter Try.func11, Try.ntmps11
    go_wp2
    go_ret
    exact ⟨rfl, by rw [← HW.out]; exact hB⟩
  subst q0
  by_cases q1 : n1 = p1
  case neg =>
    have hf : r = false := by rw [hr]; exact decide_eq_false fun e => q1 (by rw [N1.out, P1.out, e.2.2.2.1])
    subst hf
    have z5 : ((n1 : Int) != (p1 : Int)) = true := by simp; omega
    have z6 : (n1 != p1) = true := by simpa using q1
    clear hr q1
    go_enter Try.func11, Try.ntmps11
    go_wp2
    go_ret
    exact ⟨rfl, by rw [← HW.out]; exact hB⟩
  subst q1
  by_cases q2 : n2 = p2
  case neg =>
    have hf : r = false := by rw [hr]; exact decide_eq_false fun e => q2 (by rw [N2.out, P2.out, e.2.2.2.2])
    subst hf
    have z5 : ((n2 : Int) != (p2 : Int)) = true := by simp; omega
    have z6 : (n2 != p2) = true := by simpa using q2
    clear hr q2
    go_enter Try.func11, Try.ntmps11
    go_wp2
    go_ret
    exact ⟨rfl, by rw [← HW.out]; exact hB⟩
  subst q2
  have hr2 : Hid (r = decide (x0 = y0 ∧ x1 = y1 ∧ x2 = y2)) := by
    show _ = _
    rw [hr]
    exact decide_eq_decide.2 ⟨fun e => ⟨e.2.2.1, e.2.2.2.1, e.2.2.2.2⟩, fun e => ⟨rfl, rfl, e.1, e.2.1, e.2.2⟩⟩
  clear hr
  go_enter Try.func11, Try.ntmps11
  go_wp2
  go_loopw [5] (fun i wr => ∃ s m : Nat, s ≤ n0 ∧ i = .int .i64 s ∧ wr = W.drewN m ∧ Hid (x0.take s = y0.take s)) (fun i _ => n0 - (intOf i).toNat)
  case atStart => exact ⟨0, 0, Nat.zero_le _, rfl, by first | exact HW.out.symm | (rw [← HW.out]; rfl), rfl⟩
  case round =>
    obtain ⟨s, m, hss, rfl, rfl, hTs⟩ := hrel
    obtain ⟨c0, c1, c2, c3, c4, cl⟩ := id (Bx.all5 (X1.out.same (W' := W.drewN m) rfl))
    obtain ⟨d0, d1, d2, d3, d4, dl⟩ := id (Bx.all5 (X2.out.same (W' := W.drewN m) rfl))
    obtain ⟨e0, e1, e2, e3, e4, el⟩ := id (Bx.all5 X1.out)
    obtain ⟨f0, f1, f2, f3, f4, fl⟩ := id (Bx.all5 X2.out)
    by_cases hlts : s < n0
    · obtain ⟨cs, hcs⟩ : ∃ x, x0[s]? = some x := ⟨_, List.getElem?_eq_getElem (by rw [← N0.out]; exact hlts)⟩
      obtain ⟨ds, hds⟩ : ∃ x, y0[s]? = some x := ⟨_, List.getElem?_eq_getElem (by rw [← P0.out]; exact hlts)⟩
      obtain ⟨g2, _, u2, y2', hv2, hc2, hE2, hg2, _⟩ := H0.out.at_ (op_ok _) hcs
      obtain ⟨g3, _, u3, y3', hv3, hc3, hE3, hg3, _⟩ := G0.out.at_ (op_ok _) hds
      simp only [Value.slice.injEq] at hv2 hv3
      obtain ⟨rfl, q2, rfl⟩ := hv2
      obtain ⟨rfl, q3, rfl⟩ := hv3
      clear q2 q3
      have lcs : cs.length ≤ 1048576 := L0.out.2 cs (List.mem_of_getElem? hcs)
      have lds : ds.length ≤ 1048576 := M0.out.2 ds (List.mem_of_getElem? hds)
      obtain ⟨A2', k2, rfl⟩ := RowE.slice hE2
      obtain ⟨A3', k3, rfl⟩ := RowE.slice hE3
      have hst2 : cs = ds → Hid (x0.take (s + 1) = y0.take (s + 1)) := fun e => same_take hcs (by rw [hds, e]) hTs.out
      have hno : cs ≠ ds → Hid (r = false) := fun e => by show _ = _; rw [hr2.out]; exact decide_eq_false fun q => not_same hcs hds e q.1
      have Hst := Lib.hid hst2
      have Hno := Lib.hid hno
      have HE2 := Lib.hid hE2
      have HE3 := Lib.hid hE3
      clear hcs hds hst2 hno hE2 hE3
      by_cases hl : cs.length = ds.length
      case neg =>
        have hf := (Hno.out fun e => hl (by rw [e])).out
        have z5 : ((cs.length : Int) != (ds.length : Int)) = true := by simp; omega
        have z6 : (cs.length != ds.length) = true := by simpa using hl
        subst hf
        clear hl Hst Hno HE2 HE3 hTs
        generalize cs.length = p at *
        generalize ds.length = q at *
        go_wp2_with fail
        go_quiet (fail)
        go_wp2
        go_ret
        exact ⟨rfl, by first | exact below_drewN hB _ | exact below_drewN (below_drewN hB _) _⟩
      have hE2 := HE2.out
      have hE3 := HE3.out
      have Hl := Lib.hid hl
      obtain ⟨p, hp⟩ : ∃ p, p = cs.length := ⟨_, rfl⟩
      rw [← hp] at hE2 hc2 lcs hl
      rw [← hl] at hE3 hc3
      have Hp := Lib.hid hp
      have Hq2 := Lib.hid hE2
      have Hq3 := Lib.hid hE3
      clear hp hl lds HE2 HE3 hE2 hE3
      go_wp2_with fail
      go_quiet (fail)
      go_wp2
      clear c0 c1 c2 c3 c4 cl d0 d1 d2 d3 d4 dl
      go_loopw [6] (fun i wr => ∃ k m' : Nat, k ≤ p ∧ i = .int .i64 k ∧ wr = W.drewN m' ∧ Hid (cs.take k = ds.take k)) (fun i _ => p - (intOf i).toNat)
      case atStart => exact ⟨0, _, Nat.zero_le _, rfl, by first | rfl | rw [World.drewN_drewN], rfl⟩
      case round =>
        obtain ⟨k, m', hk, rfl, rfl, hT⟩ := hrel
        obtain ⟨c0, c1, c2, c3, c4, cl⟩ := id (Bx.all5 (X1.out.same (W' := W.drewN m') rfl))
        obtain ⟨d0, d1, d2, d3, d4, dl⟩ := id (Bx.all5 (X2.out.same (W' := W.drewN m') rfl))
        have v2 : (W.drewN m').cell? ⟨g2, s, none⟩ = _ := hc2
        have v3 : (W.drewN m').cell? ⟨g3, s, none⟩ = _ := hc3
        by_cases hlk : k < p
        · have hkx : k < cs.length := by rw [← Hp.out]; exact hlk
          have hky : k < ds.length := by rw [← Hl.out]; exact hkx
          obtain ⟨x, hx⟩ : ∃ x, cs[k]? = some x := ⟨_, List.getElem?_eq_getElem hkx⟩
          obtain ⟨y, hy⟩ : ∃ y, ds[k]? = some y := ⟨_, List.getElem?_eq_getElem hky⟩
          have hE2 := Hq2.out
          have hE3 := Hq3.out
          obtain ⟨ga, rfl, hga, _⟩ := RowE.head hE2 hkx
          obtain ⟨gb, rfl, hgb, _⟩ := RowE.head hE3 hky
          obtain ⟨X0, X1, X2'⟩ := x
          obtain ⟨Y0, Y1, Y2'⟩ := y
          have a0 : W.cell? ⟨ga, k * 3, none⟩ = _ := (OpE.cell' hE2 hx).1
          have a1 : W.cell? ⟨ga, k * 3 + 1, none⟩ = _ := (OpE.cell' hE2 hx).2.1
          have a2 : W.cell? ⟨ga, k * 3 + 2, none⟩ = _ := (OpE.cell' hE2 hx).2.2
          have b0 : W.cell? ⟨gb, k * 3, none⟩ = _ := (OpE.cell' hE3 hy).1
          have b1 : W.cell? ⟨gb, k * 3 + 1, none⟩ = _ := (OpE.cell' hE3 hy).2.1
          have b2 : W.cell? ⟨gb, k * 3 + 2, none⟩ = _ := (OpE.cell' hE3 hy).2.2
          dsimp only at a0 a1 a2 b0 b1 b2
          clear hE2 hE3
          by_cases hxy : (X0, X1, X2') = (Y0, Y1, Y2')
          · simp only [Prod.mk.injEq] at hxy
            obtain ⟨rfl, rfl, rfl⟩ := hxy
            have hnx := Lib.hid (same_take hx hy hT.out)
            clear hkx hky hx hy hT Hst Hno
            go_wp2_with fail
            go_quiet (fail)
            go_wp2
            go_roundw
            case rel => exact ⟨k + 1, _, by omega, by go_num, by first | rfl | rw [World.drewN_drewN], hnx⟩
            case measure => simp [intOf]; omega
          · have hf := (Hno.out fun e => not_same hx hy hxy e).out
            have z4 : ¬ (X0 = Y0 ∧ X1 = Y1 ∧ X2' = Y2') := by simpa using hxy
            subst hf
            clear hkx hky hx hy hT Hst Hno hxy
            by_cases h0 : X0 = Y0
            · subst h0
              by_cases h1 : X1 = Y1
              · subst h1
                have h2 : ¬ X2' = Y2' := fun e => z4 ⟨rfl, rfl, e⟩
                have z5 := toList_ne h2
                clear z4 h2
                go_wp2_with fail
                go_quiet (fail)
                go_wp2
                go_ret
                exact ⟨rfl, by first | exact below_drewN hB _ | exact below_drewN (below_drewN hB _) _⟩
              · have z5 : (X1 == Y1) = false := by simpa using h1
                have z6 : (X1 != Y1) = true := by simpa using h1
                clear z4
                go_wp2_with fail
                go_quiet (fail)
                go_wp2
                go_ret
                exact ⟨rfl, by first | exact below_drewN hB _ | exact below_drewN (below_drewN hB _) _⟩
            · have z5 : (X0 == Y0) = false := by simpa using h0
              have z6 : (X0 != Y0) = true := by simpa using h0
              clear z4
              go_wp2_with fail
              go_quiet (fail)
              go_wp2
              go_ret
              exact ⟨rfl, by first | exact below_drewN hB _ | exact below_drewN (below_drewN hB _) _⟩
        · have e : k = p := by omega
          subst e
          have hnx := Lib.hid (Hst.out (by
            have h1 := hT.out
            have h2 := Hl.out
            rwa [Hp.out, List.take_length, h2, List.take_length] at h1)).out
          clear hT Hst Hno
          go_wp2
          go_roundw
          case rel => exact ⟨s + 1, _, by omega, by go_num, rfl, hnx⟩
          case measure => simp [intOf]; omega
    · have e : s = n0 := by omega
      subst e
      have hall0 : Hid (x0 = y0) := by
        have h1 := hTs.out
        rw [N0.out, List.take_length, ← N0.out, P0.out, List.take_length] at h1
        exact h1
      clear hTs
      clear e0 e1 e2 e3 e4 el f0 f1 f2 f3 f4 fl
      go_wp2
      clear c0 c1 c2 c3 c4 cl d0 d1 d2 d3 d4 dl
      go_loopw [7] (fun i wr => ∃ t m : Nat, t ≤ n1 ∧ i = .int .i64 t ∧ wr = W.drewN m ∧ Hid (x1.take t = y1.take t)) (fun i _ => n1 - (intOf i).toNat)
      case atStart => exact ⟨0, _, Nat.zero_le _, rfl, by first | rfl | rw [World.drewN_drewN], rfl⟩
      case round =>
        obtain ⟨t, m, hst, rfl, rfl, hTt⟩ := hrel
        obtain ⟨c0, c1, c2, c3, c4, cl⟩ := id (Bx.all5 (X1.out.same (W' := W.drewN m) rfl))
        obtain ⟨d0, d1, d2, d3, d4, dl⟩ := id (Bx.all5 (X2.out.same (W' := W.drewN m) rfl))
        obtain ⟨e0, e1, e2, e3, e4, el⟩ := id (Bx.all5 X1.out)
        obtain ⟨f0, f1, f2, f3, f4, fl⟩ := id (Bx.all5 X2.out)
        by_cases hltt : t < n1
        · obtain ⟨cs, hcs⟩ : ∃ x, x1[t]? = some x := ⟨_, List.getElem?_eq_getElem (by rw [← N1.out]; exact hltt)⟩
          obtain ⟨ds, hds⟩ : ∃ x, y1[t]? = some x := ⟨_, List.getElem?_eq_getElem (by rw [← P1.out]; exact hltt)⟩
          obtain ⟨g2, _, u2, y2', hv2, hc2, hE2, hg2, _⟩ := H1.out.at_ (om2_ok _) hcs
          obtain ⟨g3, _, u3, y3', hv3, hc3, hE3, hg3, _⟩ := G1.out.at_ (om2_ok _) hds
          simp only [Value.slice.injEq] at hv2 hv3
          obtain ⟨rfl, q2, rfl⟩ := hv2
          obtain ⟨rfl, q3, rfl⟩ := hv3
          clear q2 q3
          have bcs := L1.out.2 cs (List.mem_of_getElem? hcs)
          have bds := M1.out.2 ds (List.mem_of_getElem? hds)
          have Bcs := Lib.hid bcs
          have Bds := Lib.hid bds
          have lcs : cs.length ≤ 1048576 := bcs.1
          have lds : ds.length ≤ 1048576 := bds.1
          obtain ⟨A2', k2, rfl⟩ := ManyE.slice hE2
          obtain ⟨A3', k3, rfl⟩ := ManyE.slice hE3
          have hst2 : cs = ds → Hid (x1.take (t + 1) = y1.take (t + 1)) := fun e => same_take hcs (by rw [hds, e]) hTt.out
          have hno : cs ≠ ds → Hid (r = false) := fun e => by show _ = _; rw [hr2.out]; exact decide_eq_false fun q => not_same hcs hds e q.2.1
          have Hst := Lib.hid hst2
          have Hno := Lib.hid hno
          have HE2 := Lib.hid hE2
          have HE3 := Lib.hid hE3
          clear hcs hds hst2 hno hE2 hE3 bcs bds
          by_cases hl : cs.length = ds.length
          case neg =>
            have hf := (Hno.out fun e => hl (by rw [e])).out
            have z5 : ((cs.length : Int) != (ds.length : Int)) = true := by simp; omega
            have z6 : (cs.length != ds.length) = true := by simpa using hl
            subst hf
            clear hl Hst Hno HE2 HE3 hTt
            generalize cs.length = p at *
            generalize ds.length = q at *
            go_wp2_with fail
            go_quiet (fail)
            go_wp2
            go_ret
            exact ⟨rfl, by first | exact below_drewN hB _ | exact below_drewN (below_drewN hB _) _⟩
          have hE2 := HE2.out
          have hE3 := HE3.out
          have Hl := Lib.hid hl
          obtain ⟨p, hp⟩ : ∃ p, p = cs.length := ⟨_, rfl⟩
          rw [← hp] at hE2 hc2 lcs hl
          rw [← hl] at hE3 hc3
          have Hp := Lib.hid hp
          have Hq2 := Lib.hid hE2
          have Hq3 := Lib.hid hE3
          clear hp hl lds HE2 HE3 hE2 hE3
          go_wp2_with fail
          go_quiet (fail)
          go_wp2
          clear c0 c1 c2 c3 c4 cl d0 d1 d2 d3 d4 dl
          go_loopw [8] (fun i wr => ∃ k m' : Nat, k ≤ p ∧ i = .int .i64 k ∧ wr = W.drewN m' ∧ Hid (cs.take k = ds.take k)) (fun i _ => p - (intOf i).toNat)
          case atStart => exact ⟨0, _, Nat.zero_le _, rfl, by first | rfl | rw [World.drewN_drewN], rfl⟩
          case round =>
            obtain ⟨k, m', hk, rfl, rfl, hT⟩ := hrel
            obtain ⟨c0, c1, c2, c3, c4, cl⟩ := id (Bx.all5 (X1.out.same (W' := W.drewN m') rfl))
            obtain ⟨d0, d1, d2, d3, d4, dl⟩ := id (Bx.all5 (X2.out.same (W' := W.drewN m') rfl))
            have v2 : (W.drewN m').cell? ⟨g2, t, none⟩ = _ := hc2
            have v3 : (W.drewN m').cell? ⟨g3, t, none⟩ = _ := hc3
            by_cases hlk : k < p
            · have hkx : k < cs.length := by rw [← Hp.out]; exact hlk
              have hky : k < ds.length := by rw [← Hl.out]; exact hkx
              obtain ⟨x, hx⟩ : ∃ x, cs[k]? = some x := ⟨_, List.getElem?_eq_getElem hkx⟩
              obtain ⟨y, hy⟩ : ∃ y, ds[k]? = some y := ⟨_, List.getElem?_eq_getElem hky⟩
              obtain ⟨g4, _, u4, y4', hv4, hc4, hE4, hg4, _⟩ := Hq2.out.at_ (om_ok _) hx
              obtain ⟨g5, _, u5, y5', hv5, hc5, hE5, hg5, _⟩ := Hq3.out.at_ (om_ok _) hy
              simp only [Value.slice.injEq] at hv4 hv5
              obtain ⟨rfl, q2, rfl⟩ := hv4
              obtain ⟨rfl, q3, rfl⟩ := hv5
              clear q2 q3
              have bx := Bcs.out.2 x (List.mem_of_getElem? hx)
              have bly := Bds.out.2 y (List.mem_of_getElem? hy)
              have q := fun j => spec_moves (W.drewN j) bx bly ((om_ok _).drewN hE4 j) ((om_ok _).drewN hE5 j)
              obtain ⟨A4', k4, rfl⟩ := RowE.slice hE4
              obtain ⟨A5', k5, rfl⟩ := RowE.slice hE5
              by_cases hxy : x = y
              · simp only [decide_eq_true hxy] at q
                have Q := Lib.hid q
                have hnx := Lib.hid (same_take hx (by rw [hxy]; exact hy) hT.out)
                clear hkx hky hx hy hT q hxy hE4 hE5 bx bly Hst Hno
                go_wp2_with fail
                go_quiet ((go_at_call 32; refine (Q.out _).mono ?_; rintro e w' ⟨h1, j, rfl⟩; first | exact ⟨h1, _, rfl⟩ | exact ⟨h1, _, by rw [World.drewN_drewN]⟩ | exact ⟨h1, _, by rw [World.drewN_drewN, Nat.add_assoc]⟩))
                go_wp2
                go_roundw
                case rel => exact ⟨k + 1, _, by omega, by go_num, by first | rfl | rw [World.drewN_drewN], hnx⟩
                case measure => simp [intOf]; omega
              · simp only [decide_eq_false hxy] at q
                have Q := Lib.hid q
                have hf := (Hno.out fun e => not_same hx hy hxy e).out
                subst hf
                clear hkx hky hx hy hT q hxy hE4 hE5 bx bly Hst Hno
                go_wp2_with fail
                go_quiet ((go_at_call 32; refine (Q.out _).mono ?_; rintro e w' ⟨h1, j, rfl⟩; first | exact ⟨h1, _, rfl⟩ | exact ⟨h1, _, by rw [World.drewN_drewN]⟩ | exact ⟨h1, _, by rw [World.drewN_drewN, Nat.add_assoc]⟩))
                go_wp2
                go_ret
                exact ⟨rfl, by first | exact below_drewN hB _ | exact below_drewN (below_drewN hB _) _⟩
            · have e : k = p := by omega
              subst e
              have hnx := Lib.hid (Hst.out (by
                have h1 := hT.out
                have h2 := Hl.out
                rwa [Hp.out, List.take_length, h2, List.take_length] at h1)).out
              clear hT Hst Hno
              go_wp2
              go_roundw
              case rel => exact ⟨t + 1, _, by omega, by go_num, rfl, hnx⟩
              case measure => simp [intOf]; omega
        · have e : t = n1 := by omega
          subst e
          have hall1 : Hid (x1 = y1) := by
            have h1 := hTt.out
            rw [N1.out, List.take_length, ← N1.out, P1.out, List.take_length] at h1
            exact h1
          clear hTt
          clear e0 e1 e2 e3 e4 el f0 f1 f2 f3 f4 fl
          go_wp2
          clear c0 c1 c2 c3 c4 cl d0 d1 d2 d3 d4 dl
          go_loopw [9] (fun i wr => ∃ v m : Nat, v ≤ n2 ∧ i = .int .i64 v ∧ wr = W.drewN m ∧ Hid (x2.take v = y2.take v)) (fun i _ => n2 - (intOf i).toNat)
          case atStart => exact ⟨0, _, Nat.zero_le _, rfl, by first | rfl | rw [World.drewN_drewN], rfl⟩
          case round =>
            obtain ⟨v, m, hsv, rfl, rfl, hTv⟩ := hrel
            obtain ⟨c0, c1, c2, c3, c4, cl⟩ := id (Bx.all5 (X1.out.same (W' := W.drewN m) rfl))
            obtain ⟨d0, d1, d2, d3, d4, dl⟩ := id (Bx.all5 (X2.out.same (W' := W.drewN m) rfl))
            obtain ⟨e0, e1, e2, e3, e4, el⟩ := id (Bx.all5 X1.out)
            obtain ⟨f0, f1, f2, f3, f4, fl⟩ := id (Bx.all5 X2.out)
            by_cases hltv : v < n2
            · obtain ⟨cs, hcs⟩ : ∃ x, x2[v]? = some x := ⟨_, List.getElem?_eq_getElem (by rw [← N2.out]; exact hltv)⟩
              obtain ⟨ds, hds⟩ : ∃ x, y2[v]? = some x := ⟨_, List.getElem?_eq_getElem (by rw [← P2.out]; exact hltv)⟩
              obtain ⟨g2, _, u2, y2', hv2, hc2, hE2, hg2, _⟩ := H2.out.at_ (om_ok _) hcs
              obtain ⟨g3, _, u3, y3', hv3, hc3, hE3, hg3, _⟩ := G2.out.at_ (om_ok _) hds
              simp only [Value.slice.injEq] at hv2 hv3
              obtain ⟨rfl, q2, rfl⟩ := hv2
              obtain ⟨rfl, q3, rfl⟩ := hv3
              clear q2 q3
              have bx := L2.out.2 cs (List.mem_of_getElem? hcs)
              have bly := M2.out.2 ds (List.mem_of_getElem? hds)
              have q := fun j => spec_moves (W.drewN j) bx bly ((om_ok _).drewN hE2 j) ((om_ok _).drewN hE3 j)
              obtain ⟨A2', k2, rfl⟩ := RowE.slice hE2
              obtain ⟨A3', k3, rfl⟩ := RowE.slice hE3
              by_cases hxy : cs = ds
              · simp only [decide_eq_true hxy] at q
                have Q := Lib.hid q
                have hnx := Lib.hid (same_take hcs (by rw [hxy]; exact hds) hTv.out)
                clear hcs hds hTv q hxy hE2 hE3 bx bly
                go_wp2_with fail
                go_quiet ((go_at_call 32; refine (Q.out _).mono ?_; rintro e w' ⟨h1, j, rfl⟩; first | exact ⟨h1, _, rfl⟩ | exact ⟨h1, _, by rw [World.drewN_drewN]⟩ | exact ⟨h1, _, by rw [World.drewN_drewN, Nat.add_assoc]⟩))
                go_wp2
                go_roundw
                case rel => exact ⟨v + 1, _, by omega, by go_num, by first | rfl | rw [World.drewN_drewN], hnx⟩
                case measure => simp [intOf]; omega
              · simp only [decide_eq_false hxy] at q
                have Q := Lib.hid q
                have hf : r = false := by rw [hr2.out]; exact decide_eq_false fun e => not_same hcs hds hxy e.2.2
                subst hf
                clear hcs hds hTv q hxy hE2 hE3 bx bly
                go_wp2_with fail
                go_quiet ((go_at_call 32; refine (Q.out _).mono ?_; rintro e w' ⟨h1, j, rfl⟩; first | exact ⟨h1, _, rfl⟩ | exact ⟨h1, _, by rw [World.drewN_drewN]⟩ | exact ⟨h1, _, by rw [World.drewN_drewN, Nat.add_assoc]⟩))
                go_wp2
                go_ret
                exact ⟨rfl, by first | exact below_drewN hB _ | exact below_drewN (below_drewN hB _) _⟩
            · have e : v = n2 := by omega
              subst e
              have hall2 : Hid (x2 = y2) := by
                have h1 := hTv.out
                rw [N2.out, List.take_length, ← N2.out, P2.out, List.take_length] at h1
                exact h1
              clear hTv
              have hf : r = true := by rw [hr2.out]; exact decide_eq_true ⟨hall0.out, hall1.out, hall2.out⟩
              subst hf
              go_wp2
              go_ret
              exact ⟨rfl, by first | exact below_drewN hB _ | exact below_drewN (below_drewN hB _) _⟩

theorem both_SameRewriter (c d : Rw) : ∃ r0 : Bool,
    (∀ base0 v0 bs0 base1 v1 bs1 w, BdRw c → BdRw d → RwE base0 w v0 c bs0 → RwE base1 w v1 d bs1 → Calls Try.prog 11 #[v0, v1] w (TupPost (.bool r0) w)) ∧
    (∀ base0 v0 bs0 base1 v1 bs1 w, BdRw c → BdRw d → RwE base0 w v0 c bs0 → RwE base1 w v1 d bs1 → Calls Try.prog 13 #[v0, v1] w (TupPost (.bool r0) w)) :=
  ⟨sameR c d, fun _ _ _ _ _ _ w hc hd h h' => spec_SameRewriter w hc hd h h', fun _ _ _ _ _ _ w hc hd h h' => impl_SameRewriter w hc hd h h'⟩
end Go.Proofs.Ytkpajompmmfkjaa
