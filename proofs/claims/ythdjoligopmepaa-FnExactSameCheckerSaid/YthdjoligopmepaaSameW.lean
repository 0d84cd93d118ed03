/- FnExactSameChecker walked. -/
import Derived.Test.YthdjoligopmepaaSameS
import Derived.Deep.RegionWith
import Derived.Deep.DeepCutAuto
namespace Go.Proofs.Ythdjoligopmepaa
open Go.RowKit

set_option linter.unusedVariables false
set_option maxHeartbeats 25600000 in
set_option maxRecDepth 100000 in
theorem FnExactSameChecker_walk (v v' : Value) (c d : Ck) (w : World) (ha : CkR w v c) (hb : CkR w v' d) :
    Calls Try.prog 4 #[v, v'] w fun e w' => e = .returned (.bool true) ∧ Below w.heap.size w w' := by
  have ha0 := ha
  have hb0 := hb
  obtain ⟨va, vc, vr, vi, rfl, h1, h2, h3, h4⟩ := ha
  obtain ⟨A, ka, rfl, _⟩ := id h1
  obtain ⟨B, kb, rfl, _⟩ := id h2
  obtain ⟨R, kr, rfl, _⟩ := id h3
  obtain ⟨I, ki, rfl, _⟩ := id h4
  clear h1 h2 h3 h4
  obtain ⟨va', vc', vr', vi', rfl, h1, h2, h3, h4⟩ := hb
  obtain ⟨A', ka', rfl, _⟩ := id h1
  obtain ⟨B', kb', rfl, _⟩ := id h2
  obtain ⟨R', kr', rfl, _⟩ := id h3
  obtain ⟨I', ki', rfl, _⟩ := id h4
  clear h1 h2 h3 h4
  obtain ⟨r, hr⟩ : ∃ r, r = sameB c d := ⟨_, rfl⟩
  have Hr := Lib.hid hr
  clear hr
  obtain ⟨na, hna⟩ : ∃ n, n = c.accept.length := ⟨_, rfl⟩
  obtain ⟨nb, hnb⟩ : ∃ n, n = c.call.length := ⟨_, rfl⟩
  obtain ⟨nr, hnr⟩ : ∃ n, n = c.ret.length := ⟨_, rfl⟩
  obtain ⟨ni, hni⟩ : ∃ n, n = c.inner.length := ⟨_, rfl⟩
  obtain ⟨s0, hs0⟩ : ∃ n, n = c.stack := ⟨_, rfl⟩
  obtain ⟨s1, hs1⟩ : ∃ n, n = c.start := ⟨_, rfl⟩
  rw [← hna, ← hnb, ← hnr, ← hni, ← hs0, ← hs1] at ha0 ⊢
  clear hna hnb hnr hni
  have Hs0 := Lib.hid hs0
  have Hs1 := Lib.hid hs1
  clear hs0 hs1
  obtain ⟨na', hna⟩ : ∃ n, n = d.accept.length := ⟨_, rfl⟩
  obtain ⟨nb', hnb⟩ : ∃ n, n = d.call.length := ⟨_, rfl⟩
  obtain ⟨nr', hnr⟩ : ∃ n, n = d.ret.length := ⟨_, rfl⟩
  obtain ⟨ni', hni⟩ : ∃ n, n = d.inner.length := ⟨_, rfl⟩
  obtain ⟨t0, hs0⟩ : ∃ n, n = d.stack := ⟨_, rfl⟩
  obtain ⟨t1, hs1⟩ : ∃ n, n = d.start := ⟨_, rfl⟩
  rw [← hna, ← hnb, ← hnr, ← hni, ← hs0, ← hs1] at hb0 ⊢
  clear hna hnb hnr hni
  have Ht0 := Lib.hid hs0
  have Ht1 := Lib.hid hs1
  clear hs0 hs1
  obtain ⟨W, hW⟩ : ∃ W, W = (w.alloc (.cells #[.int .i64 s0, .int .i64 s1, .slice A na ka, .slice B nb kb, .slice R nr kr, .slice I ni ki] 27)).alloc (.cells #[.int .i64 t0, .int .i64 t1, .slice A' na' ka', .slice B' nb' kb', .slice R' nr' kr', .slice I' ni' ki'] 27) := ⟨_, rfl⟩
  have hB0 : Below w.heap.size w W := by rw [hW]; exact ((Below.refl _ _).alloc (Nat.le_refl _) _).alloc (by simp) _
  have x1 : Box6 W w.heap.size (.int .i64 s0) (.int .i64 s1) (.slice A na ka) (.slice B nb kb) (.slice R nr kr) (.slice I ni ki) := by
    rw [hW]; exact (Box6.new w _ _ _ _ _ _ _).later ((Below.refl _ _).alloc (Nat.le_refl _) _)
  have x2 : Box6 W (w.heap.size + 1) (.int .i64 t0) (.int .i64 t1) (.slice A' na' ka') (.slice B' nb' kb') (.slice R' nr' kr') (.slice I' ni' ki') := by
    rw [hW]
    have := Box6.new (w.alloc (.cells #[.int .i64 s0, .int .i64 s1, .slice A na ka, .slice B nb kb, .slice R nr kr, .slice I ni ki] 27)) (.int .i64 t0) (.int .i64 t1) (.slice A' na' ka') (.slice B' nb' kb') (.slice R' nr' kr') (.slice I' ni' ki') 27
    rwa [World.size_alloc] at this
  have RC := Lib.hid (ck_r.later ha0 hB0)
  have RD := Lib.hid (ck_r.later hb0 hB0)
  have HW := Lib.hid hW
  clear hW ha0 hb0
  have q0 : Calls Try.prog 9 #[.agg #[.int .i64 s0, .int .i64 s1, .slice A na ka, .slice B nb kb, .slice R nr kr, .slice I ni ki], .int .i64 1048576] W _ := sz_checker 1048576 _ (Nat.le_refl _) RC.out
  by_cases t : cntC c ≤ 1048576
  case neg =>
    rw [dec_no t] at q0
    have Q0 := Lib.hid q0
    clear q0 t
    go_enter Try.func4, Try.ntmps4
    go_wp2_with fail
    rw [← HW.out]
    refine Q0.out.mono ?_
    rintro e w1 ⟨rfl, hb1⟩
    go_wp2
    go_ret
    exact ⟨rfl, hB0.trans (hb1.mono hB0.size)⟩
  have HbC := Lib.hid (bd_of_cnt t)
  rw [dec_yes t] at q0
  obtain ⟨l, hl⟩ : ∃ l, l = 1048576 - cntC c := ⟨_, rfl⟩
  rw [← hl] at q0
  have hl2 : l ≤ 1048576 := by omega
  have Q0 := Lib.hid q0
  clear q0 t hl
  have q1 := fun (W' : World) (hw : Below W.heap.size W W') => sz_checker l W' hl2 (ck_r.later RD.out hw)
  by_cases t : cntC d ≤ l
  case neg =>
    simp only [dec_no t] at q1
    have Q1 := Lib.hid q1
    clear q1 t
    go_enter Try.func4, Try.ntmps4
    go_wp2_with fail
    rw [← HW.out]
    refine Q0.out.mono ?_
    rintro e w1 ⟨rfl, hb1⟩
    obtain ⟨c0, c1, c2, c3, c4, c5, cl⟩ := id (x2.later hb1)
    go_wp2_with fail
    refine (Q1.out _ hb1).mono ?_
    rintro e w2 ⟨rfl, hb2⟩
    have hB1 := hB0.trans (hb1.mono hB0.size)
    go_wp2
    go_ret
    exact ⟨rfl, hB1.trans (hb2.mono hB1.size)⟩
  have HbD := Lib.hid (bd_of_cnt (show cntC d ≤ 1048576 by omega))
  simp only [dec_yes t] at q1
  generalize l - cntC d = l' at q1
  have Q1 := Lib.hid q1
  clear q1 t
  go_enter Try.func4, Try.ntmps4
  go_wp2_with fail
  rw [← HW.out]
  refine Q0.out.mono ?_
  rintro e w1 ⟨rfl, hb1⟩
  obtain ⟨c0, c1, c2, c3, c4, c5, cl⟩ := id (x2.later hb1)
  go_wp2_with fail
  refine (Q1.out _ hb1).mono ?_
  rintro e w2 ⟨rfl, hb2⟩
  clear c0 c1 c2 c3 c4 c5 cl
  have hW2 := hb1.trans (hb2.mono hb1.size)
  have hB2 := hB0.trans (hW2.mono hB0.size)
  have y1 := x1.later hW2
  have y2 := x2.later hW2
  have hR := Below.refl w2.heap.size w2
  have ToC := Lib.hid fun (W' : World) (hw : Below w2.heap.size w2 W') => to_checker W' HbC.out (ck_r.later RC.out (hW2.trans (hw.mono hW2.size)))
  have ToD := Lib.hid fun (W' : World) (hw : Below w2.heap.size w2 W') => to_checker W' HbD.out (ck_r.later RD.out (hW2.trans (hw.mono hW2.size)))
  clear Q0 Q1 x1 x2 RC RD hb1 hb2
  obtain ⟨c0, c1, c2, c3, c4, c5, cl⟩ := id y1
  obtain ⟨d0, d1, d2, d3, d4, d5, dl⟩ := id y2
  go_upto_region 8 with fail
  go_cut [6] (fun s6 wx => s6 = .bool r ∧ Below w2.heap.size w2 wx)
  case first =>
    go_region_with (first
      | (go_at_call 11
         with_reducible refine Calls.mono (ToC.out _ ?_) ?_
         first | exact hwD | exact hR.drew | exact hR
         rintro e wC ⟨vC, bsC, rfl, EC, hbC⟩
         have hwC : Below w2.heap.size w2 wC := by first | exact hwD.trans (hbC.mono hwD.size) | exact hR.drew.trans (hbC.mono hR.drew.size) | exact hbC
         obtain ⟨z0, z1, z2, z3, z4, z5, zl⟩ := id (y2.later hwC))
      | (go_at_call 11
         with_reducible refine Calls.mono (ToD.out _ ?_) ?_
         first | exact hwC | exact hR.drew | exact hR
         rintro e wD ⟨vD, bsD, rfl, ED, hbD⟩
         have hwD : Below w2.heap.size w2 wD := by first | exact hwC.trans (hbD.mono hwC.size) | exact hR.drew.trans (hbD.mono hR.drew.size) | exact hbD
         obtain ⟨z0, z1, z2, z3, z4, z5, zl⟩ := id (y1.later hwD))
      | (go_at_call 14
         refine (spec_SameChecker _ HbC.out HbD.out (by first | exact EC | exact (ck_ok _).later EC hbD) (by first | exact ED | exact (ck_ok _).later ED hbC)).mono ?_
         rw [← Hr.out]
         rintro e w8 ⟨rfl, hb8⟩
         have hw8 : Below w2.heap.size w2 w8 := by first | exact hwC.trans (hb8.mono hwC.size) | exact hwD.trans (hb8.mono hwD.size)))
    all_goals
      go_wp2_with fail
      go_meet
      exact ⟨rfl, hw8⟩
  case rest =>
    obtain ⟨rfl, hw8⟩ := hcut
    clear c0 c1 c2 c3 c4 c5 cl d0 d1 d2 d3 d4 d5 dl
    have y1 := y1.later hw8
    have y2 := y2.later hw8
    have hB8 := hB2.trans (hw8.mono hB2.size)
    obtain ⟨c0, c1, c2, c3, c4, c5, cl⟩ := id y1
    go_wp2_with fail
    refine (ToC.out _ hw8).mono ?_
    rintro e w9 ⟨v9, bs9, rfl, E9, hb9⟩
    obtain ⟨a2, na2, ca2, c22, nc2, cc2, r2, nr2, cr2, i2, ni2, ci2, rfl⟩ := E9.form
    rw [← Hs0.out, ← Hs1.out] at E9
    rw [← Hs0.out, ← Hs1.out]
    have b9 := Box6.new w9 (.int .i64 s0) (.int .i64 s1) (.slice a2 na2 ca2) (.slice c22 nc2 cc2) (.slice r2 nr2 cr2) (.slice i2 ni2 ci2) 32
    have hn9 := (Below.refl _ w9).alloc (Nat.le_refl _) (.cells #[.int .i64 s0, .int .i64 s1, .slice a2 na2 ca2, .slice c22 nc2 cc2, .slice r2 nr2 cr2, .slice i2 ni2 ci2] 32)
    have hs9 := hb9.trans (hn9.mono hb9.size)
    have hw9 := hw8.trans (hs9.mono hw8.size)
    have E9b := (ck_ok _).later E9 hn9
    have y1 := y1.later hs9
    have y2 := y2.later hs9
    clear c0 c1 c2 c3 c4 c5 cl
    obtain ⟨d0, d1, d2, d3, d4, d5, dl⟩ := id (y2)
    obtain ⟨f0, f1, f2, f3, f4, f5, fl⟩ := id b9
    go_wp2_with fail
    refine (ToD.out _ hw9).mono ?_
    rintro e w10 ⟨v10, bs10, rfl, E10, hb10⟩
    obtain ⟨a3, na3, ca3, c33, nc3, cc3, r3, nr3, cr3, i3, ni3, ci3, rfl⟩ := E10.form
    rw [← Ht0.out, ← Ht1.out] at E10
    rw [← Ht0.out, ← Ht1.out]
    have b10 := Box6.new w10 (.int .i64 t0) (.int .i64 t1) (.slice a3 na3 ca3) (.slice c33 nc3 cc3) (.slice r3 nr3 cr3) (.slice i3 ni3 ci3) 32
    have hn10 := (Below.refl _ w10).alloc (Nat.le_refl _) (.cells #[.int .i64 t0, .int .i64 t1, .slice a3 na3 ca3, .slice c33 nc3 cc3, .slice r3 nr3 cr3, .slice i3 ni3 ci3] 32)
    have hs10 := hb10.trans (hn10.mono hb10.size)
    have hw10 := hw9.trans (hs10.mono hw9.size)
    have E9c := (ck_ok _).later E9b hs10
    have E10b := (ck_ok _).later E10 hn10
    have y1 := y1.later hs10
    have y2 := y2.later hs10
    have b9 := b9.later hs10
    have b9' := b9.same (W' := w10) (by
      have := hn10.block (w9.heap.size) (by have := hb10.size; rw [World.size_alloc] at this; omega)
      exact this.symm)
    clear d0 d1 d2 d3 d4 d5 dl f0 f1 f2 f3 f4 f5 fl
    obtain ⟨c0, c1, c2, c3, c4, c5, cl⟩ := id b9'
    obtain ⟨d0, d1, d2, d3, d4, d5, dl⟩ := id b10
    obtain ⟨f0, f1, f2, f3, f4, f5, fl⟩ := id b9
    go_wp2_with fail
    refine (impl_SameChecker _ HbC.out HbD.out E9c E10b).mono ?_
    rw [← Hr.out]
    rintro e w11 ⟨rfl, hb11⟩
    have hw11 := hw10.trans (hb11.mono hw10.size)
    have E9d := Lib.hid ((ck_ok _).later E9c hb11)
    have E10d := Lib.hid ((ck_ok _).later E10b hb11)
    have y1 := y1.later hb11
    have y2 := y2.later hb11
    have b9 := b9.later hb11
    have b10 := b10.later hb11
    clear c0 c1 c2 c3 c4 c5 cl d0 d1 d2 d3 d4 d5 dl f0 f1 f2 f3 f4 f5 fl
    obtain ⟨c0, c1, c2, c3, c4, c5, cl⟩ := id y1
    obtain ⟨f0, f1, f2, f3, f4, f5, fl⟩ := id b9
    have hR1 := Below.refl w11.heap.size w11
    have Eq1 := Lib.hid fun (W' : World) (hw : Below w11.heap.size w11 W') (base : Nat) (u : Value) (bs : List Nat) (h : CkE base W' u c bs) => eq_checker W' HbC.out ((ck_ok _).later E9d.out hw) h
    go_upto_region 14 with fail
    go_cut [39] (fun s39 wx => s39 = .bool false ∧ Below w11.heap.size w11 wx)
    case first =>
     go_region_with (first
      | (go_at_call 11
         refine (ToC.out _ (by first | exact hw11.drew | exact hw11)).mono ?_
         rintro e w12 ⟨v12, bs12, rfl, E12, hb12⟩
         have hw12 : Below w11.heap.size w11 w12 := by first | exact hR1.drew.trans (hb12.mono hR1.drew.size) | exact hb12
         obtain ⟨z0, z1, z2, z3, z4, z5, zl⟩ := id (b9.later hw12))
      | (go_at_call 13
         refine (Eq1.out _ hw12 _ _ _ E12).mono ?_
         rintro e w13 ⟨rfl, hb13⟩
         have hw13 := hw12.trans (hb13.mono hw12.size)))
     all_goals
      go_wp2_with fail
      go_meet
      exact ⟨rfl, hw13⟩
    case rest =>
      obtain ⟨rfl, hw13⟩ := hcut
      clear c0 c1 c2 c3 c4 c5 cl f0 f1 f2 f3 f4 f5 fl
      have hsz13 := hw13.size
      have hw14 := hw11.trans (hw13.mono hw11.size)
      have y2 := y2.later hw13
      have b10 := b10.later hw13
      have E10e := Lib.hid ((ck_ok _).later E10d.out hw13)
      have hR2 := Below.refl wc.heap.size wc
      have Eq2 := Lib.hid fun (W' : World) (hw : Below wc.heap.size wc W') (base : Nat) (u : Value) (bs : List Nat) (h : CkE base W' u d bs) => eq_checker W' HbD.out ((ck_ok _).later E10e.out hw) h
      obtain ⟨c0, c1, c2, c3, c4, c5, cl⟩ := id y2
      obtain ⟨f0, f1, f2, f3, f4, f5, fl⟩ := id b10
      go_wp2_with fail
      go_region_with (first
        | (go_at_call 11
           refine (ToD.out _ (by first | exact hw14.drew | exact hw14)).mono ?_
           rintro e w15 ⟨v15, bs15, rfl, E15, hb15⟩
           have hw15 : Below wc.heap.size wc w15 := by first | exact hR2.drew.trans (hb15.mono hR2.drew.size) | exact hb15
           obtain ⟨z0, z1, z2, z3, z4, z5, zl⟩ := id (b10.later hw15))
        | (go_at_call 13
           refine (Eq2.out _ hw15 _ _ _ E15).mono ?_
           rintro e w16 ⟨rfl, hb16⟩
           have hw16 := hw14.trans ((hw15.trans (hb16.mono hw15.size)).mono hw14.size)
           have hB16 := hB2.trans (hw16.mono hB2.size)))
      all_goals
        go_wp2
        go_ret
        exact ⟨rfl, hB16⟩
end Go.Proofs.Ythdjoligopmepaa
