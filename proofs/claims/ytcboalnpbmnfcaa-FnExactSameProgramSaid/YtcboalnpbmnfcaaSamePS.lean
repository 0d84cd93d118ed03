/- SameProgram of the model; both sides. -/
import Derived.Test.YtcboalnpbmnfcaaSameP
import Derived.Deep.Cut
namespace Go.Proofs.Ytcboalnpbmnfcaa
open Go.RowKit
set_option linter.unusedVariables false
theorem not_same_mod {xs ys : List (Int × List LkT)} {k : Nat} {x y : Int × List LkT} (hx : xs[k]? = some x) (hy : ys[k]? = some y) (h : ¬ x = y) : decide (xs = ys) = false := decide_eq_false (not_same hx hy h)
set_option maxHeartbeats 12800000 in
set_option maxRecDepth 100000 in
theorem spec_SameProgram {base base' : Nat} {v v' : Value} {c d : Pg} {bs bs' : List Nat} (w : World) (hc : BdPg c) (hd : BdPg d) (ha : PgE base w v c bs) (hb : PgE base' w v' d bs') :
    Calls Try.prog 35 #[v, v'] w (TupPost (.bool (decide (c.mods = d.mods))) w) := by
  obtain ⟨u, rfl, h0⟩ := ha
  obtain ⟨u', rfl, g0⟩ := hb
  have x1 := (Bx.new w 72 #[u]).alloc (.cells #[u'] 72)
  have x2 := Bx.new (w.alloc (.cells #[u] 72)) 72 #[u']
  rw [World.size_alloc] at x2
  have hB0 : Below w.heap.size w ((w.alloc (.cells #[u] 72)).alloc (.cells #[u'] 72)) := ((Below.refl _ _).alloc (Nat.le_refl _) _).alloc (by simp) _
  have Ha := Lib.hid ((md_ok _).later h0 hB0)
  have Hb := Lib.hid ((md_ok _).later g0 hB0)
  have Hn2 := Lib.hid hc.mods.2
  have Hm2 := Lib.hid hd.mods.2
  have hn := hc.mods.1
  have hm := hd.mods.1
  obtain ⟨A, ca, rfl⟩ := h0.slice
  obtain ⟨B, cb, rfl⟩ := g0.slice
  generalize c.mods = xs at *
  generalize d.mods = ys at *
  clear h0 g0 hc hd
  obtain ⟨p0, pl⟩ := x1.all1
  obtain ⟨r0, rl⟩ := x2.all1
  by_cases hl : xs.length = ys.length
  case neg =>
    have hne : decide (xs = ys) = false := decide_eq_false fun e => hl (by rw [e])
    have e4 : ((xs.length : Int) != (ys.length : Int)) = true := by simp; omega
    have e5 : (xs.length != ys.length) = true := by simpa using hl
    rw [hne]
    clear hne hl Ha Hb x1 x2
    generalize xs.length = n at *
    generalize ys.length = m at *
    go_enter Try.func35, Try.ntmps35
    go_wp2
    go_ret
    exact ⟨rfl, hB0⟩
  have Hl := Lib.hid hl
  rw [← hl] at Hb x1 x2 p0 r0 pl rl hB0 Ha ⊢
  obtain ⟨n, hn'⟩ : ∃ n, n = xs.length := ⟨_, rfl⟩
  have Hn := Lib.hid hn'
  rw [← hn'] at Ha Hb hn x1 x2 p0 r0 pl rl hB0 ⊢
  clear hn' hl hm x1 x2
  obtain ⟨W0, hW0⟩ : ∃ W0, W0 = (w.alloc (.cells #[.slice A n ca] 72)).alloc (.cells #[.slice B n cb] 72) := ⟨_, rfl⟩
  rw [← hW0] at Ha Hb p0 r0 pl rl hB0
  have HW0 := Lib.hid hW0
  clear hW0
  go_enter Try.func35, Try.ntmps35
  go_upto_region 1 with fail
  rw [← HW0.out]
  go_wp2
  go_loopw [5] (fun i wr => ∃ k m : Nat, k ≤ n ∧ i = .int .i64 k ∧ wr = W0.drewN m ∧ Hid (xs.take k = ys.take k)) (fun i _ => n - (intOf i).toNat)
  case atStart => exact ⟨0, 0, Nat.zero_le _, rfl, rfl, rfl⟩
  case round =>
    obtain ⟨k, m, hk, rfl, rfl, hA⟩ := hrel
    have p0' : (W0.drewN m).cell? ⟨w.heap.size, 0, none⟩ = some (.slice A n ca) := p0
    have r0' : (W0.drewN m).cell? ⟨w.heap.size + 1, 0, none⟩ = some (.slice B n cb) := r0
    by_cases hlt : k < n
    · have hkx : k < xs.length := by rw [← Hn.out]; exact hlt
      have hky : k < ys.length := by rw [← Hl.out]; exact hkx
      obtain ⟨x, hx⟩ : ∃ x, xs[k]? = some x := ⟨_, List.getElem?_eq_getElem hkx⟩
      obtain ⟨y, hy⟩ : ∃ y, ys[k]? = some y := ⟨_, List.getElem?_eq_getElem hky⟩
      obtain ⟨g, c1, u, cs, hv, hc0, hc1, hE, hg⟩ := Ha.out.at_ hx
      obtain ⟨g', c2, u', cs', hv', hd0, hd1, hE', hg'⟩ := Hb.out.at_ hy
      simp only [Value.slice.injEq] at hv hv'
      obtain ⟨rfl, hv1, hv2⟩ := hv
      obtain ⟨rfl, hv3, hv4⟩ := hv'
      have hbx := Hn2.out x (List.mem_of_getElem? hx)
      obtain ⟨A1, k1, rfl⟩ := RowE.slice hE
      obtain ⟨A2, k2, rfl⟩ := RowE.slice hE'
      obtain ⟨X0, lx⟩ := x
      obtain ⟨Y0, ly⟩ := y
      dsimp only at hc0 hc1 hd0 hd1 hE hE' hbx
      unfold Bd1 at hbx
      have q0 : (W0.drewN m).cell? ⟨g, k * 2, none⟩ = some (.int .i64 X0) := hc0
      have q1 : (W0.drewN m).cell? ⟨g, k * 2 + 1, none⟩ = some (.slice A1 lx.length k1) := hc1
      have s0 : (W0.drewN m).cell? ⟨g', k * 2, none⟩ = some (.int .i64 Y0) := hd0
      have s1 : (W0.drewN m).cell? ⟨g', k * 2 + 1, none⟩ = some (.slice A2 ly.length k2) := hd1
      clear hkx hky hv1 hv2 hv3 hv4
      by_cases h0 : X0 = Y0
      · subst h0
        by_cases hlen : lx.length = ly.length
        · rw [← hlen] at hd1 s1
          have HE := Lib.hid hE
          have HE' := Lib.hid hE'
          have Hlen := Lib.hid hlen
          obtain ⟨n1, hn1⟩ : ∃ n1, n1 = lx.length := ⟨_, rfl⟩
          have Hn1 := Lib.hid hn1
          rw [← hn1] at hc1 hd1 q1 s1 HE hbx
          rw [← hlen, ← hn1] at HE'
          have Hx := Lib.hid hx
          have Hy := Lib.hid hy
          clear hE hE' hlen hn1 hx hy
          go_wp2_with fail
          go_quiet (fail)
          go_wp2
          go_loopw [6] (fun i wr => ∃ j q : Nat, j ≤ n1 ∧ i = .int .i64 j ∧ wr = W0.drewN q ∧ Hid (lx.take j = ly.take j)) (fun i _ => n1 - (intOf i).toNat)
          case atStart => exact ⟨0, _, Nat.zero_le _, rfl, by first | rfl | rw [World.drewN_drewN], rfl⟩
          case round =>
            obtain ⟨j, q, hj, rfl, rfl, hJ⟩ := hrel
            have P0 : (W0.drewN q).cell? ⟨w.heap.size, 0, none⟩ = some (.slice (some ⟨g, 0, none⟩) n ca) := p0
            have R0 : (W0.drewN q).cell? ⟨w.heap.size + 1, 0, none⟩ = some (.slice (some ⟨g', 0, none⟩) n cb) := r0
            have Q1 : (W0.drewN q).cell? ⟨g, k * 2 + 1, none⟩ = some (.slice A1 n1 k1) := hc1
            have S1 : (W0.drewN q).cell? ⟨g', k * 2 + 1, none⟩ = some (.slice A2 n1 k2) := hd1
            by_cases hlt2 : j < n1
            · have hjx : j < lx.length := by rw [← Hn1.out]; exact hlt2
              have hjy : j < ly.length := by rw [← Hlen.out]; exact hjx
              obtain ⟨a, hax⟩ : ∃ x, lx[j]? = some x := ⟨_, List.getElem?_eq_getElem hjx⟩
              obtain ⟨b, hby⟩ : ∃ y, ly[j]? = some y := ⟨_, List.getElem?_eq_getElem hjy⟩
              obtain ⟨G, rfl, hG, _⟩ := RowE.head HE.out hjx
              obtain ⟨G', rfl, hG', _⟩ := RowE.head HE'.out hjy
              obtain ⟨x0, x1, x3, x2⟩ := a
              obtain ⟨y0, y1, y3, y2⟩ := b
              have k0 : W0.cell? ⟨G, j * 4, none⟩ = _ := (LkE.cell' HE.out hax).1
              have k1_ : W0.cell? ⟨G, j * 4 + 1, none⟩ = _ := (LkE.cell' HE.out hax).2.1
              have k2_ : W0.cell? ⟨G, j * 4 + 2, none⟩ = _ := (LkE.cell' HE.out hax).2.2.1
              have k3_ : W0.cell? ⟨G, j * 4 + 3, none⟩ = _ := (LkE.cell' HE.out hax).2.2.2
              have m0 : W0.cell? ⟨G', j * 4, none⟩ = _ := (LkE.cell' HE'.out hby).1
              have m1 : W0.cell? ⟨G', j * 4 + 1, none⟩ = _ := (LkE.cell' HE'.out hby).2.1
              have m2 : W0.cell? ⟨G', j * 4 + 2, none⟩ = _ := (LkE.cell' HE'.out hby).2.2.1
              have m3 : W0.cell? ⟨G', j * 4 + 3, none⟩ = _ := (LkE.cell' HE'.out hby).2.2.2
              dsimp only at k0 k1_ k2_ k3_ m0 m1 m2 m3
              have K0 : (W0.drewN q).cell? ⟨G, j * 4, none⟩ = _ := k0
              have K1 : (W0.drewN q).cell? ⟨G, j * 4 + 1, none⟩ = _ := k1_
              have K2 : (W0.drewN q).cell? ⟨G, j * 4 + 2, none⟩ = _ := k2_
              have K3 : (W0.drewN q).cell? ⟨G, j * 4 + 3, none⟩ = _ := k3_
              have M0 : (W0.drewN q).cell? ⟨G', j * 4, none⟩ = _ := m0
              have M1 : (W0.drewN q).cell? ⟨G', j * 4 + 1, none⟩ = _ := m1
              have M2 : (W0.drewN q).cell? ⟨G', j * 4 + 2, none⟩ = _ := m2
              have M3 : (W0.drewN q).cell? ⟨G', j * 4 + 3, none⟩ = _ := m3
              by_cases hxy : (x0, x1, x3, x2) = (y0, y1, y3, y2)
              · simp only [Prod.mk.injEq] at hxy
                obtain ⟨rfl, rfl, rfl, rfl⟩ := hxy
                have hnx := Lib.hid (same_take hax hby hJ.out)
                clear hjx hjy hax hby hJ
                go_wp2_with fail
                go_quiet (fail)
                go_wp2
                go_roundw
                case rel => exact ⟨j + 1, _, by omega, by go_num, by first | rfl | rw [World.drewN_drewN], hnx⟩
                case measure => simp [intOf]; omega
              · have hno : Hid (decide (xs = ys) = false) := not_same_mod Hx.out Hy.out (fun e => not_same hax hby hxy (by injection e))
                have e4 : ¬ (x0 = y0 ∧ x1 = y1 ∧ x3 = y3 ∧ x2 = y2) := by simpa using hxy
                clear hjx hjy hax hby hJ hxy
                by_cases h0 : x0 = y0
                · subst h0
                  by_cases h1 : x1 = y1
                  · subst h1
                    by_cases h2 : x2 = y2
                    · subst h2
                      have h3 : ¬ x3 = y3 := fun e => e4 ⟨rfl, rfl, e, rfl⟩
                      have e5 : (x3 == y3) = false := by simpa using h3
                      have e6 : (x3 != y3) = true := by simpa using h3
                      clear e4 h3
                      go_wp2_with fail
                      go_quiet (fail)
                      go_wp2
                      go_ret
                      exact ⟨by rw [hno.out]; rfl, by first | exact below_drewN hB0 _ | (rw [World.drewN_drewN]; exact below_drewN hB0 _) | exact below_drewN (below_drewN hB0 _) _⟩
                    · have e5 := toList_ne h2
                      clear e4 h2
                      go_wp2_with fail
                      go_quiet (fail)
                      go_wp2
                      go_ret
                      exact ⟨by rw [hno.out]; rfl, by first | exact below_drewN hB0 _ | (rw [World.drewN_drewN]; exact below_drewN hB0 _) | exact below_drewN (below_drewN hB0 _) _⟩
                  · have e5 : (x1 == y1) = false := by simpa using h1
                    have e6 : (x1 != y1) = true := by simpa using h1
                    clear e4 h1
                    go_wp2_with fail
                    go_quiet (fail)
                    go_wp2
                    go_ret
                    exact ⟨by rw [hno.out]; rfl, by first | exact below_drewN hB0 _ | (rw [World.drewN_drewN]; exact below_drewN hB0 _) | exact below_drewN (below_drewN hB0 _) _⟩
                · have e5 : (x0 == y0) = false := by simpa using h0
                  have e6 : (x0 != y0) = true := by simpa using h0
                  clear e4 h0
                  go_wp2_with fail
                  go_quiet (fail)
                  go_wp2
                  go_ret
                  exact ⟨by rw [hno.out]; rfl, by first | exact below_drewN hB0 _ | (rw [World.drewN_drewN]; exact below_drewN hB0 _) | exact below_drewN (below_drewN hB0 _) _⟩
            · have e : j = n1 := by omega
              subst e
              have hll : lx = ly := by
                have h1 := hJ.out
                have h2 := Hlen.out
                rw [Hn1.out, List.take_length, h2, List.take_length] at h1
                exact h1
              have hnx := Lib.hid (same_take Hx.out (by rw [hll]; exact Hy.out) hA.out)
              clear hJ hA hll
              go_wp2
              go_roundw
              case rel => exact ⟨k + 1, _, by omega, by go_num, by first | rfl | rw [World.drewN_drewN], hnx⟩
              case measure => simp [intOf]; omega
        · have hno : Hid (decide (xs = ys) = false) := not_same_mod hx hy (fun e => hlen (by injection e with _ e; rw [e]))
          have e4 : ((lx.length : Int) != (ly.length : Int)) = true := by simp; omega
          have e5 : (lx.length != ly.length) = true := by simpa using hlen
          clear hx hy hE hE' hlen hA
          generalize lx.length = n1 at *
          generalize ly.length = n2 at *
          go_wp2_with fail
          go_quiet (fail)
          go_wp2
          go_ret
          exact ⟨by rw [hno.out]; rfl, by first | exact below_drewN hB0 _ | (rw [World.drewN_drewN]; exact below_drewN hB0 _) | exact below_drewN (below_drewN hB0 _) _⟩
      · have hno : Hid (decide (xs = ys) = false) := not_same_mod hx hy (fun e => h0 (by injection e))
        have e5 : (X0 == Y0) = false := by simpa using h0
        have e6 : (X0 != Y0) = true := by simpa using h0
        clear hx hy hE hE' h0 hA
        generalize lx.length = n1 at *
        generalize ly.length = n2 at *
        go_wp2_with fail
        go_quiet (fail)
        go_wp2
        go_ret
        exact ⟨by rw [hno.out]; rfl, by first | exact below_drewN hB0 _ | (rw [World.drewN_drewN]; exact below_drewN hB0 _) | exact below_drewN (below_drewN hB0 _) _⟩
    · have e : k = n := by omega
      subst e
      have hall : Hid (decide (xs = ys) = true) := by
        have h1 := hA.out
        have h2 := Hl.out
        rw [Hn.out, List.take_length, h2, List.take_length] at h1
        exact decide_eq_true h1
      clear hA
      go_wp2
      go_ret
      exact ⟨by rw [hall.out]; rfl, below_drewN hB0 _⟩
theorem both_SameProgram (c d : Pg) : ∃ (r0 : Bool),
    (∀ base0 v0 bs0 base1 v1 bs1 w, BdPg c → BdPg d → PgE base0 w v0 c bs0 → PgE base1 w v1 d bs1 → Calls Try.prog 35 #[v0, v1] w (TupPost (.bool r0) w)) ∧
    (∀ base0 v0 bs0 base1 v1 bs1 w, BdPg c → BdPg d → PgE base0 w v0 c bs0 → PgE base1 w v1 d bs1 → Calls Try.prog 37 #[v0, v1] w (TupPost (.bool r0) w)) :=
  ⟨_, fun _ _ _ _ _ _ w hc hd ha hb => spec_SameProgram w hc hd ha hb, fun _ _ _ _ _ _ w hc hd ha hb => impl_SameProgram w hc hd ha hb⟩
end Go.Proofs.Ytcboalnpbmnfcaa
