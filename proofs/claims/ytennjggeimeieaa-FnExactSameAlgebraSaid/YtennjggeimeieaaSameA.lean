/- SameAlgebra of the program and of the model. -/
import Derived.Test.YtennjggeimeieaaEq
import Derived.Test.YtennjggeimeieaaAl
import Derived.Test.YtennjggeimeieaaPosts
namespace Go.Proofs.Ytennjggeimeieaa
open Go.RowKit
set_option linter.unusedVariables false

def sameA (c d : Al) : Bool := decide (c.prod = d.prod ∧ c.wrap = d.wrap ∧ c.inner = d.inner ∧ c.accept = d.accept)
theorem Calls.drewFromA {f : FuncId} {args : Array Value} {W : World} {j : Nat} {r : Value} (h : Calls Try.prog f args (W.drewN j) fun e w' => e = .returned r ∧ ∃ m, w' = (W.drewN j).drewN m) : Calls Try.prog f args (W.drewN j) fun e w' => e = .returned r ∧ ∃ m, w' = W.drewN m :=
  h.mono fun e w' ⟨h1, m, h2⟩ => ⟨h1, j + m, by rw [h2, World.drewN_drewN]⟩

set_option maxHeartbeats 12800000 in
set_option maxRecDepth 100000 in
theorem impl_SameAlgebra {base base' : Nat} {v v' : Value} {c d : Al} {bs bs' : List Nat} (w : World) (hc : BdA c) (hd : BdA d) (h : AlE base w v c bs) (h' : AlE base' w v' d bs') :
    Calls Try.prog 16 #[v, v'] w (SeenPost (.bool (sameA c d)) w) := by
  obtain ⟨v0, v1, v2, v3, b0, b1, b2, b3, rfl, h0, h1, h2, h3, _, _⟩ := h
  obtain ⟨u0, u1, u2, u3, c0, c1, c2, c3, rfl, g0, g1, g2, g3, _, _⟩ := h'
  obtain ⟨A0, ka0, rfl⟩ := ManyE.slice h0
  obtain ⟨B0, kb0, rfl⟩ := ManyE.slice g0
  obtain ⟨A1, ka1, rfl⟩ := ManyE.slice h1
  obtain ⟨B1, kb1, rfl⟩ := ManyE.slice g1
  obtain ⟨A2, ka2, rfl⟩ := RowE.slice h2
  obtain ⟨B2, kb2, rfl⟩ := RowE.slice g2
  obtain ⟨A3, ka3, rfl⟩ := RowE.slice h3
  obtain ⟨B3, kb3, rfl⟩ := RowE.slice g3
  obtain ⟨x0, x1, x2, x3⟩ := c
  obtain ⟨y0, y1, y2, y3⟩ := d
  dsimp only at h0 h1 h2 h3 g0 g1 g2 g3 ⊢
  have l0 := hc.prod; have l1 := hc.wrap; have l2 := hc.inner; have l3 := hc.accept
  have m0 := hd.prod; have m1 := hd.wrap; have m2 := hd.inner; have m3 := hd.accept
  dsimp only at l0 l1 l2 l3 m0 m1 m2 m3
  obtain ⟨W, hW⟩ : ∃ W, W = (w.alloc (.cells #[.slice A0 x0.length ka0, .slice A1 x1.length ka1, .slice A2 x2.length ka2, .slice A3 x3.length ka3] 42)).alloc (.cells #[.slice B0 y0.length kb0, .slice B1 y1.length kb1, .slice B2 y2.length kb2, .slice B3 y3.length kb3] 42) := ⟨_, rfl⟩
  have hB : Below w.heap.size w W := by rw [hW]; exact ((Below.refl _ _).alloc (Nat.le_refl _) _).alloc (by simp) _
  have z1 := (Bx.new w 42 #[.slice A0 x0.length ka0, .slice A1 x1.length ka1, .slice A2 x2.length ka2, .slice A3 x3.length ka3]).alloc (.cells #[.slice B0 y0.length kb0, .slice B1 y1.length kb1, .slice B2 y2.length kb2, .slice B3 y3.length kb3] 42)
  have z2 := Bx.new (w.alloc (.cells #[.slice A0 x0.length ka0, .slice A1 x1.length ka1, .slice A2 x2.length ka2, .slice A3 x3.length ka3] 42)) 42 #[.slice B0 y0.length kb0, .slice B1 y1.length kb1, .slice B2 y2.length kb2, .slice B3 y3.length kb3]
  rw [World.size_alloc] at z2
  rw [← hW] at z1 z2
  have E0 := fun j => Calls.drewFromA (same_returns (W.drewN j) l0 m0 ((ints2_ok _).drewN ((ints2_ok _).later h0 hB) j) ((ints2_ok _).drewN ((ints2_ok _).later g0 hB) j))
  have E1 := fun j => Calls.drewFromA (same_returns (W.drewN j) l1 m1 ((ints2_ok _).drewN ((ints2_ok _).later h1 hB) j) ((ints2_ok _).drewN ((ints2_ok _).later g1 hB) j))
  have E2 := fun j => Calls.drewFromA (equal_ints (W.drewN j) l2 m2 ((ints_ok _).drewN ((ints_ok _).later h2 hB) j) ((ints_ok _).drewN ((ints_ok _).later g2 hB) j))
  have E3 := fun j => Calls.drewFromA (equal_bools (W.drewN j) l3 m3 ((bools_ok _).drewN ((bools_ok _).later h3 hB) j) ((bools_ok _).drewN ((bools_ok _).later g3 hB) j))
  have HW := Lib.hid hW
  clear hW h0 h1 h2 h3 g0 g1 g2 g3 l0 l1 l2 l3 m0 m1 m2 m3 hc hd
  have X1 := Lib.hid z1
  have X2 := Lib.hid z2
  clear z1 z2
  by_cases k0 : x0 = y0
  case neg =>
    have hf : sameA ⟨x0, x1, x2, x3⟩ ⟨y0, y1, y2, y3⟩ = false := decide_eq_false fun e => k0 e.1
    rw [hf]
    simp only [decide_eq_false k0] at E0
    have Q0 := Lib.hid E0
    clear E0 E1 E2 E3 hf k0
    go_enter Try.func16, Try.ntmps16
    go_wp2_with fail
    rw [← HW.out]
    refine (Q0.out 0).mono ?_
    rintro e w' ⟨rfl, m0, rfl⟩
    obtain ⟨p0, p1, p2, p3, pl⟩ := id (Bx.all4 (X1.out.same (W' := W.drewN m0) rfl))
    obtain ⟨d0, d1, d2, d3, dl⟩ := id (Bx.all4 (X2.out.same (W' := W.drewN m0) rfl))
    go_wp2
    go_ret
    exact ⟨rfl, below_drewN hB _⟩
  simp only [decide_eq_true k0] at E0
  by_cases k1 : x1 = y1
  case neg =>
    have hf : sameA ⟨x0, x1, x2, x3⟩ ⟨y0, y1, y2, y3⟩ = false := decide_eq_false fun e => k1 e.2.1
    rw [hf]
    simp only [decide_eq_false k1] at E1
    have Q0 := Lib.hid E0
    have Q1 := Lib.hid E1
    clear E0 E1 E2 E3 hf k0 k1
    go_enter Try.func16, Try.ntmps16
    go_wp2_with fail
    rw [← HW.out]
    refine (Q0.out 0).mono ?_
    rintro e w' ⟨rfl, m0, rfl⟩
    obtain ⟨p0, p1, p2, p3, pl⟩ := id (Bx.all4 (X1.out.same (W' := W.drewN m0) rfl))
    obtain ⟨d0, d1, d2, d3, dl⟩ := id (Bx.all4 (X2.out.same (W' := W.drewN m0) rfl))
    go_wp2_with fail
    refine (Q1.out _).mono ?_
    rintro e w' ⟨rfl, m1, rfl⟩
    clear p0 p1 p2 p3 pl d0 d1 d2 d3 dl
    obtain ⟨p0, p1, p2, p3, pl⟩ := id (Bx.all4 (X1.out.same (W' := W.drewN m1) rfl))
    obtain ⟨d0, d1, d2, d3, dl⟩ := id (Bx.all4 (X2.out.same (W' := W.drewN m1) rfl))
    go_wp2
    go_ret
    exact ⟨rfl, below_drewN hB _⟩
  simp only [decide_eq_true k1] at E1
  by_cases k2 : x2 = y2
  case neg =>
    have hf : sameA ⟨x0, x1, x2, x3⟩ ⟨y0, y1, y2, y3⟩ = false := decide_eq_false fun e => k2 e.2.2.1
    rw [hf]
    simp only [decide_eq_false k2] at E2
    have Q0 := Lib.hid E0
    have Q1 := Lib.hid E1
    have Q2 := Lib.hid E2
    clear E0 E1 E2 E3 hf k0 k1 k2
    go_enter Try.func16, Try.ntmps16
    go_wp2_with fail
    rw [← HW.out]
    refine (Q0.out 0).mono ?_
    rintro e w' ⟨rfl, m0, rfl⟩
    obtain ⟨p0, p1, p2, p3, pl⟩ := id (Bx.all4 (X1.out.same (W' := W.drewN m0) rfl))
    obtain ⟨d0, d1, d2, d3, dl⟩ := id (Bx.all4 (X2.out.same (W' := W.drewN m0) rfl))
    go_wp2_with fail
    refine (Q1.out _).mono ?_
    rintro e w' ⟨rfl, m1, rfl⟩
    clear p0 p1 p2 p3 pl d0 d1 d2 d3 dl
    obtain ⟨p0, p1, p2, p3, pl⟩ := id (Bx.all4 (X1.out.same (W' := W.drewN m1) rfl))
    obtain ⟨d0, d1, d2, d3, dl⟩ := id (Bx.all4 (X2.out.same (W' := W.drewN m1) rfl))
    go_wp2_with fail
    refine (Q2.out _).mono ?_
    rintro e w' ⟨rfl, m2, rfl⟩
    clear p0 p1 p2 p3 pl d0 d1 d2 d3 dl
    obtain ⟨p0, p1, p2, p3, pl⟩ := id (Bx.all4 (X1.out.same (W' := W.drewN m2) rfl))
    obtain ⟨d0, d1, d2, d3, dl⟩ := id (Bx.all4 (X2.out.same (W' := W.drewN m2) rfl))
    go_wp2
    go_ret
    exact ⟨rfl, below_drewN hB _⟩
  simp only [decide_eq_true k2] at E2
  by_cases k3 : x3 = y3
  case neg =>
    have hf : sameA ⟨x0, x1, x2, x3⟩ ⟨y0, y1, y2, y3⟩ = false := decide_eq_false fun e => k3 e.2.2.2
    rw [hf]
    simp only [decide_eq_false k3] at E3
    have Q0 := Lib.hid E0
    have Q1 := Lib.hid E1
    have Q2 := Lib.hid E2
    have Q3 := Lib.hid E3
    clear E0 E1 E2 E3 hf k0 k1 k2 k3
    go_enter Try.func16, Try.ntmps16
    go_wp2_with fail
    rw [← HW.out]
    refine (Q0.out 0).mono ?_
    rintro e w' ⟨rfl, m0, rfl⟩
    obtain ⟨p0, p1, p2, p3, pl⟩ := id (Bx.all4 (X1.out.same (W' := W.drewN m0) rfl))
    obtain ⟨d0, d1, d2, d3, dl⟩ := id (Bx.all4 (X2.out.same (W' := W.drewN m0) rfl))
    go_wp2_with fail
    refine (Q1.out _).mono ?_
    rintro e w' ⟨rfl, m1, rfl⟩
    clear p0 p1 p2 p3 pl d0 d1 d2 d3 dl
    obtain ⟨p0, p1, p2, p3, pl⟩ := id (Bx.all4 (X1.out.same (W' := W.drewN m1) rfl))
    obtain ⟨d0, d1, d2, d3, dl⟩ := id (Bx.all4 (X2.out.same (W' := W.drewN m1) rfl))
    go_wp2_with fail
    refine (Q2.out _).mono ?_
    rintro e w' ⟨rfl, m2, rfl⟩
    clear p0 p1 p2 p3 pl d0 d1 d2 d3 dl
    obtain ⟨p0, p1, p2, p3, pl⟩ := id (Bx.all4 (X1.out.same (W' := W.drewN m2) rfl))
    obtain ⟨d0, d1, d2, d3, dl⟩ := id (Bx.all4 (X2.out.same (W' := W.drewN m2) rfl))
    go_wp2_with fail
    refine (Q3.out _).mono ?_
    rintro e w' ⟨rfl, m3, rfl⟩
    clear p0 p1 p2 p3 pl d0 d1 d2 d3 dl
    obtain ⟨p0, p1, p2, p3, pl⟩ := id (Bx.all4 (X1.out.same (W' := W.drewN m3) rfl))
    obtain ⟨d0, d1, d2, d3, dl⟩ := id (Bx.all4 (X2.out.same (W' := W.drewN m3) rfl))
    go_wp2
    go_ret
    exact ⟨rfl, below_drewN hB _⟩
  simp only [decide_eq_true k3] at E3
  have hf : sameA ⟨x0, x1, x2, x3⟩ ⟨y0, y1, y2, y3⟩ = true := decide_eq_true ⟨k0, k1, k2, k3⟩
  rw [hf]
  have Q0 := Lib.hid E0
  have Q1 := Lib.hid E1
  have Q2 := Lib.hid E2
  have Q3 := Lib.hid E3
  clear E0 E1 E2 E3 hf k0 k1 k2 k3
  go_enter Try.func16, Try.ntmps16
  go_wp2_with fail
  rw [← HW.out]
  refine (Q0.out 0).mono ?_
  rintro e w' ⟨rfl, m0, rfl⟩
  obtain ⟨p0, p1, p2, p3, pl⟩ := id (Bx.all4 (X1.out.same (W' := W.drewN m0) rfl))
  obtain ⟨d0, d1, d2, d3, dl⟩ := id (Bx.all4 (X2.out.same (W' := W.drewN m0) rfl))
  go_wp2_with fail
  refine (Q1.out _).mono ?_
  rintro e w' ⟨rfl, m1, rfl⟩
  clear p0 p1 p2 p3 pl d0 d1 d2 d3 dl
  obtain ⟨p0, p1, p2, p3, pl⟩ := id (Bx.all4 (X1.out.same (W' := W.drewN m1) rfl))
  obtain ⟨d0, d1, d2, d3, dl⟩ := id (Bx.all4 (X2.out.same (W' := W.drewN m1) rfl))
  go_wp2_with fail
  refine (Q2.out _).mono ?_
  rintro e w' ⟨rfl, m2, rfl⟩
  clear p0 p1 p2 p3 pl d0 d1 d2 d3 dl
  obtain ⟨p0, p1, p2, p3, pl⟩ := id (Bx.all4 (X1.out.same (W' := W.drewN m2) rfl))
  obtain ⟨d0, d1, d2, d3, dl⟩ := id (Bx.all4 (X2.out.same (W' := W.drewN m2) rfl))
  go_wp2_with fail
  refine (Q3.out _).mono ?_
  rintro e w' ⟨rfl, m3, rfl⟩
  clear p0 p1 p2 p3 pl d0 d1 d2 d3 dl
  obtain ⟨p0, p1, p2, p3, pl⟩ := id (Bx.all4 (X1.out.same (W' := W.drewN m3) rfl))
  obtain ⟨d0, d1, d2, d3, dl⟩ := id (Bx.all4 (X2.out.same (W' := W.drewN m3) rfl))
  go_wp2
  go_ret
  exact ⟨rfl, below_drewN hB _⟩

set_option maxHeartbeats 12800000 in
set_option maxRecDepth 100000 in
theorem spec_SameAlgebra {base base' : Nat} {v v' : Value} {c d : Al} {bs bs' : List Nat} (w : World) (hc : BdA c) (hd : BdA d) (h : AlE base w v c bs) (h' : AlE base' w v' d bs') :
    Calls Try.prog 14 #[v, v'] w (SeenPost (.bool (sameA c d)) w) := by
  obtain ⟨v0, v1, v2, v3, b0, b1, b2, b3, rfl, h0, h1, h2, h3, _, _⟩ := h
  obtain ⟨u0, u1, u2, u3, c0, c1, c2, c3, rfl, g0, g1, g2, g3, _, _⟩ := h'
  obtain ⟨A0, ka0, rfl⟩ := ManyE.slice h0
  obtain ⟨B0, kb0, rfl⟩ := ManyE.slice g0
  obtain ⟨A1, ka1, rfl⟩ := ManyE.slice h1
  obtain ⟨B1, kb1, rfl⟩ := ManyE.slice g1
  obtain ⟨A2, ka2, rfl⟩ := RowE.slice h2
  obtain ⟨B2, kb2, rfl⟩ := RowE.slice g2
  obtain ⟨A3, ka3, rfl⟩ := RowE.slice h3
  obtain ⟨B3, kb3, rfl⟩ := RowE.slice g3
  obtain ⟨x0, x1, x2, x3⟩ := c
  obtain ⟨y0, y1, y2, y3⟩ := d
  dsimp only at h0 h1 h2 h3 g0 g1 g2 g3 ⊢
  have l0 := hc.prod; have l1 := hc.wrap; have l2 := hc.inner; have l3 := hc.accept
  have m0 := hd.prod; have m1 := hd.wrap; have m2 := hd.inner; have m3 := hd.accept
  dsimp only at l0 l1 l2 l3 m0 m1 m2 m3
  obtain ⟨W, hW⟩ : ∃ W, W = (w.alloc (.cells #[.slice A0 x0.length ka0, .slice A1 x1.length ka1, .slice A2 x2.length ka2, .slice A3 x3.length ka3] 42)).alloc (.cells #[.slice B0 y0.length kb0, .slice B1 y1.length kb1, .slice B2 y2.length kb2, .slice B3 y3.length kb3] 42) := ⟨_, rfl⟩
  have hB : Below w.heap.size w W := by rw [hW]; exact ((Below.refl _ _).alloc (Nat.le_refl _) _).alloc (by simp) _
  have z1 := (Bx.new w 42 #[.slice A0 x0.length ka0, .slice A1 x1.length ka1, .slice A2 x2.length ka2, .slice A3 x3.length ka3]).alloc (.cells #[.slice B0 y0.length kb0, .slice B1 y1.length kb1, .slice B2 y2.length kb2, .slice B3 y3.length kb3] 42)
  have z2 := Bx.new (w.alloc (.cells #[.slice A0 x0.length ka0, .slice A1 x1.length ka1, .slice A2 x2.length ka2, .slice A3 x3.length ka3] 42)) 42 #[.slice B0 y0.length kb0, .slice B1 y1.length kb1, .slice B2 y2.length kb2, .slice B3 y3.length kb3]
  rw [World.size_alloc] at z2
  rw [← hW] at z1 z2
  have E0 := fun j => Calls.drewFromA (spec_lists (W.drewN j) l0 m0 ((ints2_ok _).drewN ((ints2_ok _).later h0 hB) j) ((ints2_ok _).drewN ((ints2_ok _).later g0 hB) j))
  have E1 := fun j => Calls.drewFromA (spec_lists (W.drewN j) l1 m1 ((ints2_ok _).drewN ((ints2_ok _).later h1 hB) j) ((ints2_ok _).drewN ((ints2_ok _).later g1 hB) j))
  have E2 := fun j => Calls.drewFromA (spec_same (W.drewN j) l2 m2 ((ints_ok _).drewN ((ints_ok _).later h2 hB) j) ((ints_ok _).drewN ((ints_ok _).later g2 hB) j))
  have E3 := fun j => Calls.drewFromA (spec_bools (W.drewN j) l3 m3 ((bools_ok _).drewN ((bools_ok _).later h3 hB) j) ((bools_ok _).drewN ((bools_ok _).later g3 hB) j))
  have HW := Lib.hid hW
  clear hW h0 h1 h2 h3 g0 g1 g2 g3 l0 l1 l2 l3 m0 m1 m2 m3 hc hd
  have X1 := Lib.hid z1
  have X2 := Lib.hid z2
  clear z1 z2
  by_cases k0 : x0 = y0
  case neg =>
    have hf : sameA ⟨x0, x1, x2, x3⟩ ⟨y0, y1, y2, y3⟩ = false := decide_eq_false fun e => k0 e.1
    rw [hf]
    simp only [decide_eq_false k0] at E0
    have Q0 := Lib.hid E0
    clear E0 E1 E2 E3 hf k0
    go_enter Try.func14, Try.ntmps14
    go_wp2_with fail
    rw [← HW.out]
    refine (Q0.out 0).mono ?_
    rintro e w' ⟨rfl, m0, rfl⟩
    obtain ⟨p0, p1, p2, p3, pl⟩ := id (Bx.all4 (X1.out.same (W' := W.drewN m0) rfl))
    obtain ⟨d0, d1, d2, d3, dl⟩ := id (Bx.all4 (X2.out.same (W' := W.drewN m0) rfl))
    go_wp2
    go_ret
    exact ⟨rfl, below_drewN hB _⟩
  simp only [decide_eq_true k0] at E0
  by_cases k1 : x1 = y1
  case neg =>
    have hf : sameA ⟨x0, x1, x2, x3⟩ ⟨y0, y1, y2, y3⟩ = false := decide_eq_false fun e => k1 e.2.1
    rw [hf]
    simp only [decide_eq_false k1] at E1
    have Q0 := Lib.hid E0
    have Q1 := Lib.hid E1
    clear E0 E1 E2 E3 hf k0 k1
    go_enter Try.func14, Try.ntmps14
    go_wp2_with fail
    rw [← HW.out]
    refine (Q0.out 0).mono ?_
    rintro e w' ⟨rfl, m0, rfl⟩
    obtain ⟨p0, p1, p2, p3, pl⟩ := id (Bx.all4 (X1.out.same (W' := W.drewN m0) rfl))
    obtain ⟨d0, d1, d2, d3, dl⟩ := id (Bx.all4 (X2.out.same (W' := W.drewN m0) rfl))
    go_wp2_with fail
    refine (Q1.out _).mono ?_
    rintro e w' ⟨rfl, m1, rfl⟩
    clear p0 p1 p2 p3 pl d0 d1 d2 d3 dl
    obtain ⟨p0, p1, p2, p3, pl⟩ := id (Bx.all4 (X1.out.same (W' := W.drewN m1) rfl))
    obtain ⟨d0, d1, d2, d3, dl⟩ := id (Bx.all4 (X2.out.same (W' := W.drewN m1) rfl))
    go_wp2
    go_ret
    exact ⟨rfl, below_drewN hB _⟩
  simp only [decide_eq_true k1] at E1
  by_cases k2 : x2 = y2
  case neg =>
    have hf : sameA ⟨x0, x1, x2, x3⟩ ⟨y0, y1, y2, y3⟩ = false := decide_eq_false fun e => k2 e.2.2.1
    rw [hf]
    simp only [decide_eq_false k2] at E2
    have Q0 := Lib.hid E0
    have Q1 := Lib.hid E1
    have Q2 := Lib.hid E2
    clear E0 E1 E2 E3 hf k0 k1 k2
    go_enter Try.func14, Try.ntmps14
    go_wp2_with fail
    rw [← HW.out]
    refine (Q0.out 0).mono ?_
    rintro e w' ⟨rfl, m0, rfl⟩
    obtain ⟨p0, p1, p2, p3, pl⟩ := id (Bx.all4 (X1.out.same (W' := W.drewN m0) rfl))
    obtain ⟨d0, d1, d2, d3, dl⟩ := id (Bx.all4 (X2.out.same (W' := W.drewN m0) rfl))
    go_wp2_with fail
    refine (Q1.out _).mono ?_
    rintro e w' ⟨rfl, m1, rfl⟩
    clear p0 p1 p2 p3 pl d0 d1 d2 d3 dl
    obtain ⟨p0, p1, p2, p3, pl⟩ := id (Bx.all4 (X1.out.same (W' := W.drewN m1) rfl))
    obtain ⟨d0, d1, d2, d3, dl⟩ := id (Bx.all4 (X2.out.same (W' := W.drewN m1) rfl))
    go_wp2_with fail
    refine (Q2.out _).mono ?_
    rintro e w' ⟨rfl, m2, rfl⟩
    clear p0 p1 p2 p3 pl d0 d1 d2 d3 dl
    obtain ⟨p0, p1, p2, p3, pl⟩ := id (Bx.all4 (X1.out.same (W' := W.drewN m2) rfl))
    obtain ⟨d0, d1, d2, d3, dl⟩ := id (Bx.all4 (X2.out.same (W' := W.drewN m2) rfl))
    go_wp2
    go_ret
    exact ⟨rfl, below_drewN hB _⟩
  simp only [decide_eq_true k2] at E2
  by_cases k3 : x3 = y3
  case neg =>
    have hf : sameA ⟨x0, x1, x2, x3⟩ ⟨y0, y1, y2, y3⟩ = false := decide_eq_false fun e => k3 e.2.2.2
    rw [hf]
    simp only [decide_eq_false k3] at E3
    have Q0 := Lib.hid E0
    have Q1 := Lib.hid E1
    have Q2 := Lib.hid E2
    have Q3 := Lib.hid E3
    clear E0 E1 E2 E3 hf k0 k1 k2 k3
    go_enter Try.func14, Try.ntmps14
    go_wp2_with fail
    rw [← HW.out]
    refine (Q0.out 0).mono ?_
    rintro e w' ⟨rfl, m0, rfl⟩
    obtain ⟨p0, p1, p2, p3, pl⟩ := id (Bx.all4 (X1.out.same (W' := W.drewN m0) rfl))
    obtain ⟨d0, d1, d2, d3, dl⟩ := id (Bx.all4 (X2.out.same (W' := W.drewN m0) rfl))
    go_wp2_with fail
    refine (Q1.out _).mono ?_
    rintro e w' ⟨rfl, m1, rfl⟩
    clear p0 p1 p2 p3 pl d0 d1 d2 d3 dl
    obtain ⟨p0, p1, p2, p3, pl⟩ := id (Bx.all4 (X1.out.same (W' := W.drewN m1) rfl))
    obtain ⟨d0, d1, d2, d3, dl⟩ := id (Bx.all4 (X2.out.same (W' := W.drewN m1) rfl))
    go_wp2_with fail
    refine (Q2.out _).mono ?_
    rintro e w' ⟨rfl, m2, rfl⟩
    clear p0 p1 p2 p3 pl d0 d1 d2 d3 dl
    obtain ⟨p0, p1, p2, p3, pl⟩ := id (Bx.all4 (X1.out.same (W' := W.drewN m2) rfl))
    obtain ⟨d0, d1, d2, d3, dl⟩ := id (Bx.all4 (X2.out.same (W' := W.drewN m2) rfl))
    go_wp2_with fail
    refine (Q3.out _).mono ?_
    rintro e w' ⟨rfl, m3, rfl⟩
    clear p0 p1 p2 p3 pl d0 d1 d2 d3 dl
    obtain ⟨p0, p1, p2, p3, pl⟩ := id (Bx.all4 (X1.out.same (W' := W.drewN m3) rfl))
    obtain ⟨d0, d1, d2, d3, dl⟩ := id (Bx.all4 (X2.out.same (W' := W.drewN m3) rfl))
    go_wp2
    go_ret
    exact ⟨rfl, below_drewN hB _⟩
  simp only [decide_eq_true k3] at E3
  have hf : sameA ⟨x0, x1, x2, x3⟩ ⟨y0, y1, y2, y3⟩ = true := decide_eq_true ⟨k0, k1, k2, k3⟩
  rw [hf]
  have Q0 := Lib.hid E0
  have Q1 := Lib.hid E1
  have Q2 := Lib.hid E2
  have Q3 := Lib.hid E3
  clear E0 E1 E2 E3 hf k0 k1 k2 k3
  go_enter Try.func14, Try.ntmps14
  go_wp2_with fail
  rw [← HW.out]
  refine (Q0.out 0).mono ?_
  rintro e w' ⟨rfl, m0, rfl⟩
  obtain ⟨p0, p1, p2, p3, pl⟩ := id (Bx.all4 (X1.out.same (W' := W.drewN m0) rfl))
  obtain ⟨d0, d1, d2, d3, dl⟩ := id (Bx.all4 (X2.out.same (W' := W.drewN m0) rfl))
  go_wp2_with fail
  refine (Q1.out _).mono ?_
  rintro e w' ⟨rfl, m1, rfl⟩
  clear p0 p1 p2 p3 pl d0 d1 d2 d3 dl
  obtain ⟨p0, p1, p2, p3, pl⟩ := id (Bx.all4 (X1.out.same (W' := W.drewN m1) rfl))
  obtain ⟨d0, d1, d2, d3, dl⟩ := id (Bx.all4 (X2.out.same (W' := W.drewN m1) rfl))
  go_wp2_with fail
  refine (Q2.out _).mono ?_
  rintro e w' ⟨rfl, m2, rfl⟩
  clear p0 p1 p2 p3 pl d0 d1 d2 d3 dl
  obtain ⟨p0, p1, p2, p3, pl⟩ := id (Bx.all4 (X1.out.same (W' := W.drewN m2) rfl))
  obtain ⟨d0, d1, d2, d3, dl⟩ := id (Bx.all4 (X2.out.same (W' := W.drewN m2) rfl))
  go_wp2_with fail
  refine (Q3.out _).mono ?_
  rintro e w' ⟨rfl, m3, rfl⟩
  clear p0 p1 p2 p3 pl d0 d1 d2 d3 dl
  obtain ⟨p0, p1, p2, p3, pl⟩ := id (Bx.all4 (X1.out.same (W' := W.drewN m3) rfl))
  obtain ⟨d0, d1, d2, d3, dl⟩ := id (Bx.all4 (X2.out.same (W' := W.drewN m3) rfl))
  go_wp2
  go_ret
  exact ⟨rfl, below_drewN hB _⟩

theorem both_SameAlgebra (c d : Al) : ∃ r0 : Bool,
    (∀ base0 v0 bs0 base1 v1 bs1 w, BdA c → BdA d → AlE base0 w v0 c bs0 → AlE base1 w v1 d bs1 → Calls Try.prog 14 #[v0, v1] w (TupPost (.bool r0) w)) ∧
    (∀ base0 v0 bs0 base1 v1 bs1 w, BdA c → BdA d → AlE base0 w v0 c bs0 → AlE base1 w v1 d bs1 → Calls Try.prog 16 #[v0, v1] w (TupPost (.bool r0) w)) :=
  ⟨sameA c d, fun _ _ _ _ _ _ w hc hd h h' => spec_SameAlgebra w hc hd h h', fun _ _ _ _ _ _ w hc hd h h' => impl_SameAlgebra w hc hd h h'⟩
end Go.Proofs.Ytennjggeimeieaa
