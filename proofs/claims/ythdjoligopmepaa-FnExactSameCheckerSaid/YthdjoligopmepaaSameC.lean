/- SameChecker of the program. -/
import Derived.Test.YthdjoligopmepaaEq
namespace Go.Proofs.Ythdjoligopmepaa
open Go.RowKit
set_option linter.unusedVariables false

def sameB (c d : Ck) : Bool := decide (c.stack = d.stack ∧ c.start = d.start ∧ c.accept = d.accept ∧ c.call = d.call ∧ c.ret = d.ret ∧ c.inner = d.inner)
theorem Calls.drewFrom {f : FuncId} {args : Array Value} {W : World} {j : Nat} {r : Value} (h : Calls Try.prog f args (W.drewN j) fun e w' => e = .returned r ∧ ∃ m, w' = (W.drewN j).drewN m) : Calls Try.prog f args (W.drewN j) fun e w' => e = .returned r ∧ ∃ m, w' = W.drewN m :=
  h.mono fun e w' ⟨h1, m, h2⟩ => ⟨h1, j + m, by rw [h2, World.drewN_drewN]⟩

set_option maxHeartbeats 12800000 in
set_option maxRecDepth 100000 in
theorem impl_SameChecker {base base' : Nat} {v v' : Value} {c d : Ck} {bs bs' : List Nat} (w : World) (hc : BdC c) (hd : BdC d) (h : CkE base w v c bs) (h' : CkE base' w v' d bs') :
    Calls Try.prog 15 #[v, v'] w (SeenPost (.bool (sameB c d)) w) := by
  obtain ⟨va, vc, vr, vi, b1, b2, b3, b4, rfl, h1, h2, h3, h4, _, _⟩ := h
  obtain ⟨va', vc', vr', vi', b1', b2', b3', b4', rfl, h1', h2', h3', h4', _, _⟩ := h'
  obtain ⟨A, ka, rfl⟩ := RowE.slice h1
  obtain ⟨B, kb, rfl⟩ := ManyE.slice h2
  obtain ⟨R, kr, rfl⟩ := ManyE.slice h3
  obtain ⟨I, ki, rfl⟩ := ManyE.slice h4
  obtain ⟨A', ka', rfl⟩ := RowE.slice h1'
  obtain ⟨B', kb', rfl⟩ := ManyE.slice h2'
  obtain ⟨R', kr', rfl⟩ := ManyE.slice h3'
  obtain ⟨I', ki', rfl⟩ := ManyE.slice h4'
  obtain ⟨s0, s1, ac, ca, re, inn⟩ := c
  obtain ⟨t0, t1, ac', ca', re', inn'⟩ := d
  dsimp only at h1 h2 h3 h4 h1' h2' h3' h4' ⊢
  obtain ⟨W, hW⟩ : ∃ W, W = (w.alloc (.cells #[.int .i64 s0, .int .i64 s1, .slice A ac.length ka, .slice B ca.length kb, .slice R re.length kr, .slice I inn.length ki] 32)).alloc (.cells #[.int .i64 t0, .int .i64 t1, .slice A' ac'.length ka', .slice B' ca'.length kb', .slice R' re'.length kr', .slice I' inn'.length ki'] 32) := ⟨_, rfl⟩
  have hB : Below w.heap.size w W := by rw [hW]; exact ((Below.refl _ _).alloc (Nat.le_refl _) _).alloc (by simp) _
  have x1 : Box6 W w.heap.size (.int .i64 s0) (.int .i64 s1) (.slice A ac.length ka) (.slice B ca.length kb) (.slice R re.length kr) (.slice I inn.length ki) := by
    rw [hW]; exact (Box6.new w _ _ _ _ _ _ _).later ((Below.refl _ _).alloc (Nat.le_refl _) _)
  have x2 : Box6 W (w.heap.size + 1) (.int .i64 t0) (.int .i64 t1) (.slice A' ac'.length ka') (.slice B' ca'.length kb') (.slice R' re'.length kr') (.slice I' inn'.length ki') := by
    rw [hW]
    have := Box6.new (w.alloc (.cells #[.int .i64 s0, .int .i64 s1, .slice A ac.length ka, .slice B ca.length kb, .slice R re.length kr, .slice I inn.length ki] 32)) (.int .i64 t0) (.int .i64 t1) (.slice A' ac'.length ka') (.slice B' ca'.length kb') (.slice R' re'.length kr') (.slice I' inn'.length ki') 32
    rwa [World.size_alloc] at this
  have E1 := fun j => Calls.drewFrom (equal_bools (W.drewN j) hc.accept hd.accept ((bools_ok _).drewN ((bools_ok _).later h1 hB) j) ((bools_ok _).drewN ((bools_ok _).later h1' hB) j))
  have E2 := fun j => Calls.drewFrom (same_pushes (W.drewN j) hc.call hd.call ((push2_ok _).drewN ((push2_ok _).later h2 hB) j) ((push2_ok _).drewN ((push2_ok _).later h2' hB) j))
  have E3 := fun j => Calls.drewFrom (eqf_ints3 (W.drewN j) hc.ret hd.ret ((ints3_ok _).drewN ((ints3_ok _).later h3 hB) j) ((ints3_ok _).drewN ((ints3_ok _).later h3' hB) j))
  have E4 := fun j => Calls.drewFrom (same_returns (W.drewN j) hc.inner hd.inner ((ints2_ok _).drewN ((ints2_ok _).later h4 hB) j) ((ints2_ok _).drewN ((ints2_ok _).later h4' hB) j))
  dsimp only at E1 E2 E3 E4
  obtain ⟨r, hr⟩ : ∃ r, r = sameB ⟨s0, s1, ac, ca, re, inn⟩ ⟨t0, t1, ac', ca', re', inn'⟩ := ⟨_, rfl⟩
  rw [← hr]
  unfold sameB at hr
  dsimp only at hr
  have HW := Lib.hid hW
  clear hW h1 h2 h3 h4 h1' h2' h3' h4' hc hd
  by_cases k0 : s0 = t0
  case neg =>
    have hf : r = false := by rw [hr]; exact decide_eq_false fun e => k0 e.1
    subst hf
    have e5 : (s0 == t0) = false := by simpa using k0
    have e6 : (s0 != t0) = true := by simpa using k0
    clear E1 E2 E3 E4 hr k0
    go_enter Try.func15, Try.ntmps15
    go_wp2
    go_ret
    exact ⟨rfl, by rw [← HW.out]; exact hB⟩
  subst k0
  by_cases k1 : s1 = t1
  case neg =>
    have hf : r = false := by rw [hr]; exact decide_eq_false fun e => k1 e.2.1
    subst hf
    have e5 : (s1 == t1) = false := by simpa using k1
    have e6 : (s1 != t1) = true := by simpa using k1
    clear E1 E2 E3 E4 hr k1
    go_enter Try.func15, Try.ntmps15
    go_wp2
    go_ret
    exact ⟨rfl, by rw [← HW.out]; exact hB⟩
  subst k1
  by_cases k2 : ac = ac'
  case neg =>
    have hf : r = false := by rw [hr]; exact decide_eq_false fun e => k2 e.2.2.1
    subst hf
    simp only [decide_eq_false k2] at E1
    have Q1 := Lib.hid E1
    clear E1 E2 E3 E4 hr k2
    go_enter Try.func15, Try.ntmps15
    go_wp2_with fail
    rw [← HW.out]
    refine (Q1.out 0).mono ?_
    rintro e w' ⟨rfl, m1, rfl⟩
    obtain ⟨c0, c1, c2, c3, c4, c5, cl⟩ := id (x1.same (W' := W.drewN m1) rfl)
    obtain ⟨d0, d1, d2, d3, d4, d5, dl⟩ := id (x2.same (W' := W.drewN m1) rfl)
    go_wp2
    go_ret
    exact ⟨rfl, below_drewN hB _⟩
  simp only [decide_eq_true k2] at E1
  by_cases k3 : ca = ca'
  case neg =>
    have hf : r = false := by rw [hr]; exact decide_eq_false fun e => k3 e.2.2.2.1
    subst hf
    simp only [decide_eq_false k3] at E2
    have Q1 := Lib.hid E1
    have Q2 := Lib.hid E2
    clear E1 E2 E3 E4 hr k2 k3
    go_enter Try.func15, Try.ntmps15
    go_wp2_with fail
    rw [← HW.out]
    refine (Q1.out 0).mono ?_
    rintro e w' ⟨rfl, m1, rfl⟩
    obtain ⟨c0, c1, c2, c3, c4, c5, cl⟩ := id (x1.same (W' := W.drewN m1) rfl)
    obtain ⟨d0, d1, d2, d3, d4, d5, dl⟩ := id (x2.same (W' := W.drewN m1) rfl)
    go_wp2_with fail
    refine (Q2.out _).mono ?_
    rintro e w' ⟨rfl, m2, rfl⟩
    clear c0 c1 c2 c3 c4 c5 cl d0 d1 d2 d3 d4 d5 dl
    obtain ⟨c0, c1, c2, c3, c4, c5, cl⟩ := id (x1.same (W' := W.drewN m2) rfl)
    obtain ⟨d0, d1, d2, d3, d4, d5, dl⟩ := id (x2.same (W' := W.drewN m2) rfl)
    go_wp2
    go_ret
    exact ⟨rfl, below_drewN hB _⟩
  simp only [decide_eq_true k3] at E2
  by_cases k4 : re = re'
  case neg =>
    have hf : r = false := by rw [hr]; exact decide_eq_false fun e => k4 e.2.2.2.2.1
    subst hf
    simp only [decide_eq_false k4] at E3
    have Q1 := Lib.hid E1
    have Q2 := Lib.hid E2
    have Q3 := Lib.hid E3
    clear E1 E2 E3 E4 hr k2 k3 k4
    go_enter Try.func15, Try.ntmps15
    go_wp2_with fail
    rw [← HW.out]
    refine (Q1.out 0).mono ?_
    rintro e w' ⟨rfl, m1, rfl⟩
    obtain ⟨c0, c1, c2, c3, c4, c5, cl⟩ := id (x1.same (W' := W.drewN m1) rfl)
    obtain ⟨d0, d1, d2, d3, d4, d5, dl⟩ := id (x2.same (W' := W.drewN m1) rfl)
    go_wp2_with fail
    refine (Q2.out _).mono ?_
    rintro e w' ⟨rfl, m2, rfl⟩
    clear c0 c1 c2 c3 c4 c5 cl d0 d1 d2 d3 d4 d5 dl
    obtain ⟨c0, c1, c2, c3, c4, c5, cl⟩ := id (x1.same (W' := W.drewN m2) rfl)
    obtain ⟨d0, d1, d2, d3, d4, d5, dl⟩ := id (x2.same (W' := W.drewN m2) rfl)
    go_wp2_with fail
    refine (Q3.out _).mono ?_
    rintro e w' ⟨rfl, m3, rfl⟩
    clear c0 c1 c2 c3 c4 c5 cl d0 d1 d2 d3 d4 d5 dl
    obtain ⟨c0, c1, c2, c3, c4, c5, cl⟩ := id (x1.same (W' := W.drewN m3) rfl)
    obtain ⟨d0, d1, d2, d3, d4, d5, dl⟩ := id (x2.same (W' := W.drewN m3) rfl)
    go_wp2
    go_ret
    exact ⟨rfl, below_drewN hB _⟩
  simp only [decide_eq_true k4] at E3
  by_cases k5 : inn = inn'
  case neg =>
    have hf : r = false := by rw [hr]; exact decide_eq_false fun e => k5 e.2.2.2.2.2
    subst hf
    simp only [decide_eq_false k5] at E4
    have Q1 := Lib.hid E1
    have Q2 := Lib.hid E2
    have Q3 := Lib.hid E3
    have Q4 := Lib.hid E4
    clear E1 E2 E3 E4 hr k2 k3 k4 k5
    go_enter Try.func15, Try.ntmps15
    go_wp2_with fail
    rw [← HW.out]
    refine (Q1.out 0).mono ?_
    rintro e w' ⟨rfl, m1, rfl⟩
    obtain ⟨c0, c1, c2, c3, c4, c5, cl⟩ := id (x1.same (W' := W.drewN m1) rfl)
    obtain ⟨d0, d1, d2, d3, d4, d5, dl⟩ := id (x2.same (W' := W.drewN m1) rfl)
    go_wp2_with fail
    refine (Q2.out _).mono ?_
    rintro e w' ⟨rfl, m2, rfl⟩
    clear c0 c1 c2 c3 c4 c5 cl d0 d1 d2 d3 d4 d5 dl
    obtain ⟨c0, c1, c2, c3, c4, c5, cl⟩ := id (x1.same (W' := W.drewN m2) rfl)
    obtain ⟨d0, d1, d2, d3, d4, d5, dl⟩ := id (x2.same (W' := W.drewN m2) rfl)
    go_wp2_with fail
    refine (Q3.out _).mono ?_
    rintro e w' ⟨rfl, m3, rfl⟩
    clear c0 c1 c2 c3 c4 c5 cl d0 d1 d2 d3 d4 d5 dl
    obtain ⟨c0, c1, c2, c3, c4, c5, cl⟩ := id (x1.same (W' := W.drewN m3) rfl)
    obtain ⟨d0, d1, d2, d3, d4, d5, dl⟩ := id (x2.same (W' := W.drewN m3) rfl)
    go_wp2_with fail
    refine (Q4.out _).mono ?_
    rintro e w' ⟨rfl, m4, rfl⟩
    clear c0 c1 c2 c3 c4 c5 cl d0 d1 d2 d3 d4 d5 dl
    obtain ⟨c0, c1, c2, c3, c4, c5, cl⟩ := id (x1.same (W' := W.drewN m4) rfl)
    obtain ⟨d0, d1, d2, d3, d4, d5, dl⟩ := id (x2.same (W' := W.drewN m4) rfl)
    go_wp2
    go_ret
    exact ⟨rfl, below_drewN hB _⟩
  simp only [decide_eq_true k5] at E4
  have hf : r = true := by rw [hr]; exact decide_eq_true ⟨rfl, rfl, k2, k3, k4, k5⟩
  subst hf
  have Q1 := Lib.hid E1
  have Q2 := Lib.hid E2
  have Q3 := Lib.hid E3
  have Q4 := Lib.hid E4
  clear E1 E2 E3 E4 hr k2 k3 k4 k5
  go_enter Try.func15, Try.ntmps15
  go_wp2_with fail
  rw [← HW.out]
  refine (Q1.out 0).mono ?_
  rintro e w' ⟨rfl, m1, rfl⟩
  obtain ⟨c0, c1, c2, c3, c4, c5, cl⟩ := id (x1.same (W' := W.drewN m1) rfl)
  obtain ⟨d0, d1, d2, d3, d4, d5, dl⟩ := id (x2.same (W' := W.drewN m1) rfl)
  go_wp2_with fail
  refine (Q2.out _).mono ?_
  rintro e w' ⟨rfl, m2, rfl⟩
  clear c0 c1 c2 c3 c4 c5 cl d0 d1 d2 d3 d4 d5 dl
  obtain ⟨c0, c1, c2, c3, c4, c5, cl⟩ := id (x1.same (W' := W.drewN m2) rfl)
  obtain ⟨d0, d1, d2, d3, d4, d5, dl⟩ := id (x2.same (W' := W.drewN m2) rfl)
  go_wp2_with fail
  refine (Q3.out _).mono ?_
  rintro e w' ⟨rfl, m3, rfl⟩
  clear c0 c1 c2 c3 c4 c5 cl d0 d1 d2 d3 d4 d5 dl
  obtain ⟨c0, c1, c2, c3, c4, c5, cl⟩ := id (x1.same (W' := W.drewN m3) rfl)
  obtain ⟨d0, d1, d2, d3, d4, d5, dl⟩ := id (x2.same (W' := W.drewN m3) rfl)
  go_wp2_with fail
  refine (Q4.out _).mono ?_
  rintro e w' ⟨rfl, m4, rfl⟩
  clear c0 c1 c2 c3 c4 c5 cl d0 d1 d2 d3 d4 d5 dl
  obtain ⟨c0, c1, c2, c3, c4, c5, cl⟩ := id (x1.same (W' := W.drewN m4) rfl)
  obtain ⟨d0, d1, d2, d3, d4, d5, dl⟩ := id (x2.same (W' := W.drewN m4) rfl)
  go_wp2
  go_ret
  exact ⟨rfl, below_drewN hB _⟩
end Go.Proofs.Ythdjoligopmepaa
