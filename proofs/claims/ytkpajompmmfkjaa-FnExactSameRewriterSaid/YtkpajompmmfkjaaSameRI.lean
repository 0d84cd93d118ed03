/- SameRewriter of the program. -/
import Derived.Test.YtkpajompmmfkjaaEqO
import Derived.Test.YtkpajompmmfkjaaRw
import Derived.Test.YtkpajompmmfkjaaPosts
namespace Go.Proofs.Ytkpajompmmfkjaa
open Go.RowKit
set_option linter.unusedVariables false

def sameR (c d : Rw) : Bool := decide (c.stack = d.stack ∧ c.start = d.start ∧ c.call = d.call ∧ c.ret = d.ret ∧ c.inner = d.inner)
theorem Calls.drewFromR {f : FuncId} {args : Array Value} {W : World} {j : Nat} {r : Value} (h : Calls Try.prog f args (W.drewN j) fun e w' => e = .returned r ∧ ∃ m, w' = (W.drewN j).drewN m) : Calls Try.prog f args (W.drewN j) fun e w' => e = .returned r ∧ ∃ m, w' = W.drewN m :=
  h.mono fun e w' ⟨h1, m, h2⟩ => ⟨h1, j + m, by rw [h2, World.drewN_drewN]⟩

set_option maxHeartbeats 25600000 in
set_option maxRecDepth 100000 in
theorem impl_SameRewriter {base base' : Nat} {v v' : Value} {c d : Rw} {bs bs' : List Nat} (w : World) (hc : BdRw c) (hd : BdRw d) (h : RwE base w v c bs) (h' : RwE base' w v' d bs') :
    Calls Try.prog 13 #[v, v'] w (SeenPost (.bool (sameR c d)) w) := by
  obtain ⟨v0, v1, v2, b0, b1, b2, rfl, h0, h1, h2, _, _⟩ := h
  obtain ⟨u0, u1, u2, c0, c1, c2, rfl, g0, g1, g2, _, _⟩ := h'
  obtain ⟨A0, ka0, rfl⟩ := ManyE.slice h0
  obtain ⟨B0, kb0, rfl⟩ := ManyE.slice g0
  obtain ⟨A1, ka1, rfl⟩ := ManyE.slice h1
  obtain ⟨B1, kb1, rfl⟩ := ManyE.slice g1
  obtain ⟨A2, ka2, rfl⟩ := ManyE.slice h2
  obtain ⟨B2, kb2, rfl⟩ := ManyE.slice g2
  obtain ⟨s0, s1, x0, x1, x2⟩ := c
  obtain ⟨t0, t1, y0, y1, y2⟩ := d
  dsimp only at h0 h1 h2 g0 g1 g2 ⊢
  have l0 := hc.call; have l1 := hc.ret; have l2 := hc.inner
  have m0 := hd.call; have m1 := hd.ret; have m2 := hd.inner
  dsimp only at l0 l1 l2 m0 m1 m2
  obtain ⟨W, hW⟩ : ∃ W, W = (w.alloc (.cells #[.int .i64 s0, .int .i64 s1, .slice A0 x0.length ka0, .slice A1 x1.length ka1, .slice A2 x2.length ka2] 33)).alloc (.cells #[.int .i64 t0, .int .i64 t1, .slice B0 y0.length kb0, .slice B1 y1.length kb1, .slice B2 y2.length kb2] 33) := ⟨_, rfl⟩
  have hB : Below w.heap.size w W := by rw [hW]; exact ((Below.refl _ _).alloc (Nat.le_refl _) _).alloc (by simp) _
  have z1 := (Bx.new w 33 #[.int .i64 s0, .int .i64 s1, .slice A0 x0.length ka0, .slice A1 x1.length ka1, .slice A2 x2.length ka2]).alloc (.cells #[.int .i64 t0, .int .i64 t1, .slice B0 y0.length kb0, .slice B1 y1.length kb1, .slice B2 y2.length kb2] 33)
  have z2 := Bx.new (w.alloc (.cells #[.int .i64 s0, .int .i64 s1, .slice A0 x0.length ka0, .slice A1 x1.length ka1, .slice A2 x2.length ka2] 33)) 33 #[.int .i64 t0, .int .i64 t1, .slice B0 y0.length kb0, .slice B1 y1.length kb1, .slice B2 y2.length kb2]
  rw [World.size_alloc] at z2
  rw [← hW] at z1 z2
  have E0 := fun j => Calls.drewFromR (same_opsl (W.drewN j) l0 m0 ((op2_ok _).drewN ((op2_ok _).later h0 hB) j) ((op2_ok _).drewN ((op2_ok _).later g0 hB) j))
  have E1 := fun j => Calls.drewFromR (eqf_oms3 (W.drewN j) l1 m1 ((om3_ok _).drewN ((om3_ok _).later h1 hB) j) ((om3_ok _).drewN ((om3_ok _).later g1 hB) j))
  have E2 := fun j => Calls.drewFromR (same_omsl (W.drewN j) l2 m2 ((om2_ok _).drewN ((om2_ok _).later h2 hB) j) ((om2_ok _).drewN ((om2_ok _).later g2 hB) j))
  have HW := Lib.hid hW
  clear hW h0 h1 h2 g0 g1 g2 l0 l1 l2 m0 m1 m2 hc hd
  have X1 := Lib.hid z1
  have X2 := Lib.hid z2
  clear z1 z2
  by_cases kk : s0 = t0
  case neg =>
    have hf : sameR ⟨s0, s1, x0, x1, x2⟩ ⟨t0, t1, y0, y1, y2⟩ = false := decide_eq_false fun e => kk e.1
    rw [hf]
    have e5 : (s0 == t0) = false := by simpa using kk
    have e6 : (s0 != t0) = true := by simpa using kk
    clear E0 E1 E2 hf kk
    go_enter Try.func13, Try.ntmps13
    go_wp2
    go_ret
    exact ⟨rfl, by rw [← HW.out]; exact hB⟩
  subst kk
  by_cases kl : s1 = t1
  case neg =>
    have hf : sameR ⟨s0, s1, x0, x1, x2⟩ ⟨s0, t1, y0, y1, y2⟩ = false := decide_eq_false fun e => kl e.2.1
    rw [hf]
    have e5 : (s1 == t1) = false := by simpa using kl
    have e6 : (s1 != t1) = true := by simpa using kl
    clear E0 E1 E2 hf kl
    go_enter Try.func13, Try.ntmps13
    go_wp2
    go_ret
    exact ⟨rfl, by rw [← HW.out]; exact hB⟩
  subst kl
  by_cases k0 : x0 = y0
  case neg =>
    have hf : sameR ⟨s0, s1, x0, x1, x2⟩ ⟨s0, s1, y0, y1, y2⟩ = false := decide_eq_false fun e => k0 e.2.2.1
    rw [hf]
    simp only [decide_eq_false k0] at E0
    have Q0 := Lib.hid E0
    clear E0 E1 E2 hf k0
    go_enter Try.func13, Try.ntmps13
    go_wp2_with fail
    rw [← HW.out]
    refine (Q0.out 0).mono ?_
    rintro e w' ⟨rfl, m0, rfl⟩
    obtain ⟨c0, c1, c2, c3, c4, cl⟩ := id (Bx.all5 (X1.out.same (W' := W.drewN m0) rfl))
    obtain ⟨d0, d1, d2, d3, d4, dl⟩ := id (Bx.all5 (X2.out.same (W' := W.drewN m0) rfl))
    go_wp2
    go_ret
    exact ⟨rfl, below_drewN hB _⟩
  simp only [decide_eq_true k0] at E0
  by_cases k1 : x1 = y1
  case neg =>
    have hf : sameR ⟨s0, s1, x0, x1, x2⟩ ⟨s0, s1, y0, y1, y2⟩ = false := decide_eq_false fun e => k1 e.2.2.2.1
    rw [hf]
    simp only [decide_eq_false k1] at E1
    have Q0 := Lib.hid E0
    have Q1 := Lib.hid E1
    clear E0 E1 E2 hf k0 k1
    go_enter Try.func13, Try.ntmps13
    go_wp2_with fail
    rw [← HW.out]
    refine (Q0.out 0).mono ?_
    rintro e w' ⟨rfl, m0, rfl⟩
    obtain ⟨c0, c1, c2, c3, c4, cl⟩ := id (Bx.all5 (X1.out.same (W' := W.drewN m0) rfl))
    obtain ⟨d0, d1, d2, d3, d4, dl⟩ := id (Bx.all5 (X2.out.same (W' := W.drewN m0) rfl))
    go_wp2_with fail
    refine (Q1.out _).mono ?_
    rintro e w' ⟨rfl, m1, rfl⟩
    clear c0 c1 c2 c3 c4 cl d0 d1 d2 d3 d4 dl
    obtain ⟨c0, c1, c2, c3, c4, cl⟩ := id (Bx.all5 (X1.out.same (W' := W.drewN m1) rfl))
    obtain ⟨d0, d1, d2, d3, d4, dl⟩ := id (Bx.all5 (X2.out.same (W' := W.drewN m1) rfl))
    go_wp2
    go_ret
    exact ⟨rfl, below_drewN hB _⟩
  simp only [decide_eq_true k1] at E1
  by_cases k2 : x2 = y2
  case neg =>
    have hf : sameR ⟨s0, s1, x0, x1, x2⟩ ⟨s0, s1, y0, y1, y2⟩ = false := decide_eq_false fun e => k2 e.2.2.2.2
    rw [hf]
    simp only [decide_eq_false k2] at E2
    have Q0 := Lib.hid E0
    have Q1 := Lib.hid E1
    have Q2 := Lib.hid E2
    clear E0 E1 E2 hf k0 k1 k2
    go_enter Try.func13, Try.ntmps13
    go_wp2_with fail
    rw [← HW.out]
    refine (Q0.out 0).mono ?_
    rintro e w' ⟨rfl, m0, rfl⟩
    obtain ⟨c0, c1, c2, c3, c4, cl⟩ := id (Bx.all5 (X1.out.same (W' := W.drewN m0) rfl))
    obtain ⟨d0, d1, d2, d3, d4, dl⟩ := id (Bx.all5 (X2.out.same (W' := W.drewN m0) rfl))
    go_wp2_with fail
    refine (Q1.out _).mono ?_
    rintro e w' ⟨rfl, m1, rfl⟩
    clear c0 c1 c2 c3 c4 cl d0 d1 d2 d3 d4 dl
    obtain ⟨c0, c1, c2, c3, c4, cl⟩ := id (Bx.all5 (X1.out.same (W' := W.drewN m1) rfl))
    obtain ⟨d0, d1, d2, d3, d4, dl⟩ := id (Bx.all5 (X2.out.same (W' := W.drewN m1) rfl))
    go_wp2_with fail
    refine (Q2.out _).mono ?_
    rintro e w' ⟨rfl, m2, rfl⟩
    clear c0 c1 c2 c3 c4 cl d0 d1 d2 d3 d4 dl
    obtain ⟨c0, c1, c2, c3, c4, cl⟩ := id (Bx.all5 (X1.out.same (W' := W.drewN m2) rfl))
    obtain ⟨d0, d1, d2, d3, d4, dl⟩ := id (Bx.all5 (X2.out.same (W' := W.drewN m2) rfl))
    go_wp2
    go_ret
    exact ⟨rfl, below_drewN hB _⟩
  simp only [decide_eq_true k2] at E2
  have hf : sameR ⟨s0, s1, x0, x1, x2⟩ ⟨s0, s1, y0, y1, y2⟩ = true := decide_eq_true ⟨rfl, rfl, k0, k1, k2⟩
  rw [hf]
  have Q0 := Lib.hid E0
  have Q1 := Lib.hid E1
  have Q2 := Lib.hid E2
  clear E0 E1 E2 hf k0 k1 k2
  go_enter Try.func13, Try.ntmps13
  go_wp2_with fail
  rw [← HW.out]
  refine (Q0.out 0).mono ?_
  rintro e w' ⟨rfl, m0, rfl⟩
  obtain ⟨c0, c1, c2, c3, c4, cl⟩ := id (Bx.all5 (X1.out.same (W' := W.drewN m0) rfl))
  obtain ⟨d0, d1, d2, d3, d4, dl⟩ := id (Bx.all5 (X2.out.same (W' := W.drewN m0) rfl))
  go_wp2_with fail
  refine (Q1.out _).mono ?_
  rintro e w' ⟨rfl, m1, rfl⟩
  clear c0 c1 c2 c3 c4 cl d0 d1 d2 d3 d4 dl
  obtain ⟨c0, c1, c2, c3, c4, cl⟩ := id (Bx.all5 (X1.out.same (W' := W.drewN m1) rfl))
  obtain ⟨d0, d1, d2, d3, d4, dl⟩ := id (Bx.all5 (X2.out.same (W' := W.drewN m1) rfl))
  go_wp2_with fail
  refine (Q2.out _).mono ?_
  rintro e w' ⟨rfl, m2, rfl⟩
  clear c0 c1 c2 c3 c4 cl d0 d1 d2 d3 d4 dl
  obtain ⟨c0, c1, c2, c3, c4, cl⟩ := id (Bx.all5 (X1.out.same (W' := W.drewN m2) rfl))
  obtain ⟨d0, d1, d2, d3, d4, dl⟩ := id (Bx.all5 (X2.out.same (W' := W.drewN m2) rfl))
  go_wp2
  go_ret
  exact ⟨rfl, below_drewN hB _⟩
end Go.Proofs.Ytkpajompmmfkjaa
