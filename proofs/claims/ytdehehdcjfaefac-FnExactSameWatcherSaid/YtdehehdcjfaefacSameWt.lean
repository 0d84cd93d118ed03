/- SameWatcher of the program and of the model. -/
import Derived.Test.YtdehehdcjfaefacEq
import Derived.Test.YtdehehdcjfaefacWt
import Derived.Test.YtdehehdcjfaefacQSame
import Derived.Test.YtdehehdcjfaefacPost0
namespace Go.Proofs.Ytdehehdcjfaefac
open Go.RowKit
set_option linter.unusedVariables false

def sameWt (c d : Wt) : Bool := decide (c.query.steps = d.query.steps ∧ c.seen = d.seen ∧ c.now = d.now ∧ c.stack = d.stack)
theorem Calls.seenF {f : FuncId} {args : Array Value} {W : World} {r : Value} (h : Calls Try.prog f args W fun e w' => e = .returned r ∧ ∃ m, w' = W.drewN m) : Calls Try.prog f args W (SeenPost r W) :=
  h.mono fun e w' ⟨h1, m, h2⟩ => ⟨h1, by rw [h2]; exact below_drewN (Below.refl _ _) m⟩

set_option maxHeartbeats 12800000 in
set_option maxRecDepth 100000 in
theorem impl_SameWatcher {base base' : Nat} {v v' : Value} {c d : Wt} {bs bs' : List Nat} (w : World) (hc : BdW c) (hd : BdW d) (h : WtE base w v c bs) (h' : WtE base' w v' d bs') :
    Calls Try.prog 22 #[v, v'] w (SeenPost (.bool (sameWt c d)) w) := by
  obtain ⟨v0, v1, v2, b0, b1, b2, rfl, h0, h1, h2, _, _⟩ := h
  obtain ⟨u0, u1, u2, c0, c1, c2, rfl, g0, g1, g2, _, _⟩ := h'
  obtain ⟨A0, ka0, rfl⟩ := QfE.slice h0
  obtain ⟨B0, kb0, rfl⟩ := QfE.slice g0
  obtain ⟨A1, ka1, rfl⟩ := RowE.slice h1
  obtain ⟨B1, kb1, rfl⟩ := RowE.slice g1
  obtain ⟨A2, ka2, rfl⟩ := ManyE.slice h2
  obtain ⟨B2, kb2, rfl⟩ := ManyE.slice g2
  obtain ⟨s0, x0, x1, x2⟩ := c
  obtain ⟨t0, y0, y1, y2⟩ := d
  dsimp only at h0 h1 h2 g0 g1 g2 ⊢
  have l0 := hc.query; have l1 := hc.now; have l2 := hc.stack
  have m0 := hd.query; have m1 := hd.now; have m2 := hd.stack
  dsimp only at l0 l1 l2 m0 m1 m2
  obtain ⟨W, hW⟩ : ∃ W, W = (w.alloc (.cells #[.slice A0 x0.steps.length ka0, .int .i64 s0, .slice A1 x1.length ka1, .slice A2 x2.length ka2] 44)).alloc (.cells #[.slice B0 y0.steps.length kb0, .int .i64 t0, .slice B1 y1.length kb1, .slice B2 y2.length kb2] 44) := ⟨_, rfl⟩
  have hB : Below w.heap.size w W := by rw [hW]; exact ((Below.refl _ _).alloc (Nat.le_refl _) _).alloc (by simp) _
  have bx1 := (Bx.new w 44 #[.slice A0 x0.steps.length ka0, .int .i64 s0, .slice A1 x1.length ka1, .slice A2 x2.length ka2]).alloc (.cells #[.slice B0 y0.steps.length kb0, .int .i64 t0, .slice B1 y1.length kb1, .slice B2 y2.length kb2] 44)
  have bx2 := Bx.new (w.alloc (.cells #[.slice A0 x0.steps.length ka0, .int .i64 s0, .slice A1 x1.length ka1, .slice A2 x2.length ka2] 44)) 44 #[.slice B0 y0.steps.length kb0, .int .i64 t0, .slice B1 y1.length kb1, .slice B2 y2.length kb2]
  rw [World.size_alloc] at bx2
  rw [← hW] at bx1 bx2
  have hR := Below.refl W.heap.size W
  have E0 := fun (V : World) (hX : Below W.heap.size W V) => impl_SameQuery V l0 m0 (QfE.agg ((qf_ok _).later ((qf_ok _).later h0 hB) hX)) (QfE.agg ((qf_ok _).later ((qf_ok _).later g0 hB) hX))
  have E1 := fun (V : World) (hX : Below W.heap.size W V) => Calls.seenF (equal_ints V l1 m1 ((ints_ok _).later ((ints_ok _).later h1 hB) hX) ((ints_ok _).later ((ints_ok _).later g1 hB) hX))
  have E2 := fun (V : World) (hX : Below W.heap.size W V) => Calls.seenF (same_returns V l2 m2 ((ints2_ok _).later ((ints2_ok _).later h2 hB) hX) ((ints2_ok _).later ((ints2_ok _).later g2 hB) hX))
  have HW := Lib.hid hW
  have X1 := Lib.hid bx1
  have X2 := Lib.hid bx2
  obtain ⟨p0, p1, p2, p3, pl⟩ := id bx1.all4
  obtain ⟨d0, d1, d2, d3, dl⟩ := id bx2.all4
  clear hW h0 h1 h2 g0 g1 g2 l0 l1 l2 m0 m1 m2 hc hd bx1 bx2
  by_cases k0 : x0.steps = y0.steps
  case neg =>
    have hf : sameWt ⟨s0, x0, x1, x2⟩ ⟨t0, y0, y1, y2⟩ = false := decide_eq_false fun e => k0 e.1
    rw [hf]
    simp only [decide_eq_false k0] at E0
    have Q0 := Lib.hid E0
    clear E0 E1 E2 hf k0
    clear p0 p1 p2 p3 pl d0 d1 d2 d3 dl
    go_enter Try.func22, Try.ntmps22
    go_wp2_with fail
    rw [← HW.out]
    refine (Q0.out _ hR).mono ?_
    rintro e z0 ⟨rfl, hb0⟩
    replace hR := hR.trans (hb0.mono hR.size)
    obtain ⟨p0, p1, p2, p3, pl⟩ := id (X1.out.later hR).all4
    obtain ⟨d0, d1, d2, d3, dl⟩ := id (X2.out.later hR).all4
    go_wp2
    go_ret
    exact ⟨rfl, hB.trans (hR.mono hB.size)⟩
  simp only [decide_eq_true k0] at E0
  by_cases k1 : s0 = t0
  case neg =>
    have hf : sameWt ⟨s0, x0, x1, x2⟩ ⟨t0, y0, y1, y2⟩ = false := decide_eq_false fun e => k1 e.2.1
    rw [hf]
    have e5 : (s0 == t0) = false := by simpa using k1
    have Q0 := Lib.hid E0
    clear E0 E1 E2 hf k0 k1
    clear p0 p1 p2 p3 pl d0 d1 d2 d3 dl
    go_enter Try.func22, Try.ntmps22
    go_wp2_with fail
    rw [← HW.out]
    refine (Q0.out _ hR).mono ?_
    rintro e z0 ⟨rfl, hb0⟩
    replace hR := hR.trans (hb0.mono hR.size)
    obtain ⟨p0, p1, p2, p3, pl⟩ := id (X1.out.later hR).all4
    obtain ⟨d0, d1, d2, d3, dl⟩ := id (X2.out.later hR).all4
    go_wp2
    go_ret
    exact ⟨rfl, hB.trans (hR.mono hB.size)⟩
  subst k1
  have k1 : s0 = s0 := rfl
  by_cases k2 : x1 = y1
  case neg =>
    have hf : sameWt ⟨s0, x0, x1, x2⟩ ⟨s0, y0, y1, y2⟩ = false := decide_eq_false fun e => k2 e.2.2.1
    rw [hf]
    simp only [decide_eq_false k2] at E1
    have Q0 := Lib.hid E0
    have Q1 := Lib.hid E1
    clear E0 E1 E2 hf k0 k1 k2
    clear p0 p1 p2 p3 pl d0 d1 d2 d3 dl
    go_enter Try.func22, Try.ntmps22
    go_wp2_with fail
    rw [← HW.out]
    refine (Q0.out _ hR).mono ?_
    rintro e z0 ⟨rfl, hb0⟩
    replace hR := hR.trans (hb0.mono hR.size)
    obtain ⟨p0, p1, p2, p3, pl⟩ := id (X1.out.later hR).all4
    obtain ⟨d0, d1, d2, d3, dl⟩ := id (X2.out.later hR).all4
    go_wp2_with fail
    refine (Q1.out _ hR).mono ?_
    rintro e z1 ⟨rfl, hb1⟩
    clear p0 p1 p2 p3 pl d0 d1 d2 d3 dl
    replace hR := hR.trans (hb1.mono hR.size)
    obtain ⟨p0, p1, p2, p3, pl⟩ := id (X1.out.later hR).all4
    obtain ⟨d0, d1, d2, d3, dl⟩ := id (X2.out.later hR).all4
    go_wp2
    go_ret
    exact ⟨rfl, hB.trans (hR.mono hB.size)⟩
  simp only [decide_eq_true k2] at E1
  by_cases k3 : x2 = y2
  case neg =>
    have hf : sameWt ⟨s0, x0, x1, x2⟩ ⟨s0, y0, y1, y2⟩ = false := decide_eq_false fun e => k3 e.2.2.2
    rw [hf]
    simp only [decide_eq_false k3] at E2
    have Q0 := Lib.hid E0
    have Q1 := Lib.hid E1
    have Q2 := Lib.hid E2
    clear E0 E1 E2 hf k0 k1 k2 k3
    clear p0 p1 p2 p3 pl d0 d1 d2 d3 dl
    go_enter Try.func22, Try.ntmps22
    go_wp2_with fail
    rw [← HW.out]
    refine (Q0.out _ hR).mono ?_
    rintro e z0 ⟨rfl, hb0⟩
    replace hR := hR.trans (hb0.mono hR.size)
    obtain ⟨p0, p1, p2, p3, pl⟩ := id (X1.out.later hR).all4
    obtain ⟨d0, d1, d2, d3, dl⟩ := id (X2.out.later hR).all4
    go_wp2_with fail
    refine (Q1.out _ hR).mono ?_
    rintro e z1 ⟨rfl, hb1⟩
    clear p0 p1 p2 p3 pl d0 d1 d2 d3 dl
    replace hR := hR.trans (hb1.mono hR.size)
    obtain ⟨p0, p1, p2, p3, pl⟩ := id (X1.out.later hR).all4
    obtain ⟨d0, d1, d2, d3, dl⟩ := id (X2.out.later hR).all4
    go_wp2_with fail
    refine (Q2.out _ hR).mono ?_
    rintro e z2 ⟨rfl, hb2⟩
    clear p0 p1 p2 p3 pl d0 d1 d2 d3 dl
    replace hR := hR.trans (hb2.mono hR.size)
    obtain ⟨p0, p1, p2, p3, pl⟩ := id (X1.out.later hR).all4
    obtain ⟨d0, d1, d2, d3, dl⟩ := id (X2.out.later hR).all4
    go_wp2
    go_ret
    exact ⟨rfl, hB.trans (hR.mono hB.size)⟩
  simp only [decide_eq_true k3] at E2
  have hf : sameWt ⟨s0, x0, x1, x2⟩ ⟨s0, y0, y1, y2⟩ = true := decide_eq_true ⟨k0, rfl, k2, k3⟩
  rw [hf]
  have Q0 := Lib.hid E0
  have Q1 := Lib.hid E1
  have Q2 := Lib.hid E2
  clear E0 E1 E2 hf k0 k1 k2 k3
  clear p0 p1 p2 p3 pl d0 d1 d2 d3 dl
  go_enter Try.func22, Try.ntmps22
  go_wp2_with fail
  rw [← HW.out]
  refine (Q0.out _ hR).mono ?_
  rintro e z0 ⟨rfl, hb0⟩
  replace hR := hR.trans (hb0.mono hR.size)
  obtain ⟨p0, p1, p2, p3, pl⟩ := id (X1.out.later hR).all4
  obtain ⟨d0, d1, d2, d3, dl⟩ := id (X2.out.later hR).all4
  go_wp2_with fail
  refine (Q1.out _ hR).mono ?_
  rintro e z1 ⟨rfl, hb1⟩
  clear p0 p1 p2 p3 pl d0 d1 d2 d3 dl
  replace hR := hR.trans (hb1.mono hR.size)
  obtain ⟨p0, p1, p2, p3, pl⟩ := id (X1.out.later hR).all4
  obtain ⟨d0, d1, d2, d3, dl⟩ := id (X2.out.later hR).all4
  go_wp2_with fail
  refine (Q2.out _ hR).mono ?_
  rintro e z2 ⟨rfl, hb2⟩
  clear p0 p1 p2 p3 pl d0 d1 d2 d3 dl
  replace hR := hR.trans (hb2.mono hR.size)
  obtain ⟨p0, p1, p2, p3, pl⟩ := id (X1.out.later hR).all4
  obtain ⟨d0, d1, d2, d3, dl⟩ := id (X2.out.later hR).all4
  go_wp2
  go_ret
  exact ⟨rfl, hB.trans (hR.mono hB.size)⟩
set_option maxHeartbeats 12800000 in
set_option maxRecDepth 100000 in
theorem spec_SameWatcher {base base' : Nat} {v v' : Value} {c d : Wt} {bs bs' : List Nat} (w : World) (hc : BdW c) (hd : BdW d) (h : WtE base w v c bs) (h' : WtE base' w v' d bs') :
    Calls Try.prog 20 #[v, v'] w (SeenPost (.bool (sameWt c d)) w) := by
  obtain ⟨v0, v1, v2, b0, b1, b2, rfl, h0, h1, h2, _, _⟩ := h
  obtain ⟨u0, u1, u2, c0, c1, c2, rfl, g0, g1, g2, _, _⟩ := h'
  obtain ⟨A0, ka0, rfl⟩ := QfE.slice h0
  obtain ⟨B0, kb0, rfl⟩ := QfE.slice g0
  obtain ⟨A1, ka1, rfl⟩ := RowE.slice h1
  obtain ⟨B1, kb1, rfl⟩ := RowE.slice g1
  obtain ⟨A2, ka2, rfl⟩ := ManyE.slice h2
  obtain ⟨B2, kb2, rfl⟩ := ManyE.slice g2
  obtain ⟨s0, x0, x1, x2⟩ := c
  obtain ⟨t0, y0, y1, y2⟩ := d
  dsimp only at h0 h1 h2 g0 g1 g2 ⊢
  have l0 := hc.query; have l1 := hc.now; have l2 := hc.stack
  have m0 := hd.query; have m1 := hd.now; have m2 := hd.stack
  dsimp only at l0 l1 l2 m0 m1 m2
  obtain ⟨W, hW⟩ : ∃ W, W = (w.alloc (.cells #[.slice A0 x0.steps.length ka0, .int .i64 s0, .slice A1 x1.length ka1, .slice A2 x2.length ka2] 44)).alloc (.cells #[.slice B0 y0.steps.length kb0, .int .i64 t0, .slice B1 y1.length kb1, .slice B2 y2.length kb2] 44) := ⟨_, rfl⟩
  have hB : Below w.heap.size w W := by rw [hW]; exact ((Below.refl _ _).alloc (Nat.le_refl _) _).alloc (by simp) _
  have bx1 := (Bx.new w 44 #[.slice A0 x0.steps.length ka0, .int .i64 s0, .slice A1 x1.length ka1, .slice A2 x2.length ka2]).alloc (.cells #[.slice B0 y0.steps.length kb0, .int .i64 t0, .slice B1 y1.length kb1, .slice B2 y2.length kb2] 44)
  have bx2 := Bx.new (w.alloc (.cells #[.slice A0 x0.steps.length ka0, .int .i64 s0, .slice A1 x1.length ka1, .slice A2 x2.length ka2] 44)) 44 #[.slice B0 y0.steps.length kb0, .int .i64 t0, .slice B1 y1.length kb1, .slice B2 y2.length kb2]
  rw [World.size_alloc] at bx2
  rw [← hW] at bx1 bx2
  have hR := Below.refl W.heap.size W
  have E0 := fun (V : World) (hX : Below W.heap.size W V) => Calls.seenF (spec_steps V l0.steps m0.steps ((bx1.later hX).cell 0 _ rfl) ((bx2.later hX).cell 0 _ rfl) ((qf_ok _).later ((qf_ok _).later h0 hB) hX) ((qf_ok _).later ((qf_ok _).later g0 hB) hX))
  have E1 := fun (V : World) (hX : Below W.heap.size W V) => Calls.seenF (spec_same V l1 m1 ((ints_ok _).later ((ints_ok _).later h1 hB) hX) ((ints_ok _).later ((ints_ok _).later g1 hB) hX))
  have E2 := fun (V : World) (hX : Below W.heap.size W V) => Calls.seenF (spec_lists V l2 m2 ((ints2_ok _).later ((ints2_ok _).later h2 hB) hX) ((ints2_ok _).later ((ints2_ok _).later g2 hB) hX))
  have HW := Lib.hid hW
  have X1 := Lib.hid bx1
  have X2 := Lib.hid bx2
  obtain ⟨p0, p1, p2, p3, pl⟩ := id bx1.all4
  obtain ⟨d0, d1, d2, d3, dl⟩ := id bx2.all4
  clear hW h0 h1 h2 g0 g1 g2 l0 l1 l2 m0 m1 m2 hc hd bx1 bx2
  by_cases k0 : x0.steps = y0.steps
  case neg =>
    have hf : sameWt ⟨s0, x0, x1, x2⟩ ⟨t0, y0, y1, y2⟩ = false := decide_eq_false fun e => k0 e.1
    rw [hf]
    simp only [decide_eq_false k0] at E0
    have Q0 := Lib.hid E0
    clear E0 E1 E2 hf k0
    clear p0 p1 p2 p3 pl d0 d1 d2 d3 dl
    go_enter Try.func20, Try.ntmps20
    go_wp2_with fail
    rw [← HW.out]
    refine (Q0.out _ hR).mono ?_
    rintro e z0 ⟨rfl, hb0⟩
    replace hR := hR.trans (hb0.mono hR.size)
    obtain ⟨p0, p1, p2, p3, pl⟩ := id (X1.out.later hR).all4
    obtain ⟨d0, d1, d2, d3, dl⟩ := id (X2.out.later hR).all4
    go_wp2
    go_ret
    exact ⟨rfl, hB.trans (hR.mono hB.size)⟩
  simp only [decide_eq_true k0] at E0
  by_cases k1 : s0 = t0
  case neg =>
    have hf : sameWt ⟨s0, x0, x1, x2⟩ ⟨t0, y0, y1, y2⟩ = false := decide_eq_false fun e => k1 e.2.1
    rw [hf]
    have e5 : (s0 == t0) = false := by simpa using k1
    have Q0 := Lib.hid E0
    clear E0 E1 E2 hf k0 k1
    clear p0 p1 p2 p3 pl d0 d1 d2 d3 dl
    go_enter Try.func20, Try.ntmps20
    go_wp2_with fail
    rw [← HW.out]
    refine (Q0.out _ hR).mono ?_
    rintro e z0 ⟨rfl, hb0⟩
    replace hR := hR.trans (hb0.mono hR.size)
    obtain ⟨p0, p1, p2, p3, pl⟩ := id (X1.out.later hR).all4
    obtain ⟨d0, d1, d2, d3, dl⟩ := id (X2.out.later hR).all4
    go_wp2
    go_ret
    exact ⟨rfl, hB.trans (hR.mono hB.size)⟩
  subst k1
  have k1 : s0 = s0 := rfl
  by_cases k2 : x1 = y1
  case neg =>
    have hf : sameWt ⟨s0, x0, x1, x2⟩ ⟨s0, y0, y1, y2⟩ = false := decide_eq_false fun e => k2 e.2.2.1
    rw [hf]
    simp only [decide_eq_false k2] at E1
    have Q0 := Lib.hid E0
    have Q1 := Lib.hid E1
    clear E0 E1 E2 hf k0 k1 k2
    clear p0 p1 p2 p3 pl d0 d1 d2 d3 dl
    go_enter Try.func20, Try.ntmps20
    go_wp2_with fail
    rw [← HW.out]
    refine (Q0.out _ hR).mono ?_
    rintro e z0 ⟨rfl, hb0⟩
    replace hR := hR.trans (hb0.mono hR.size)
    obtain ⟨p0, p1, p2, p3, pl⟩ := id (X1.out.later hR).all4
    obtain ⟨d0, d1, d2, d3, dl⟩ := id (X2.out.later hR).all4
    go_wp2_with fail
    refine (Q1.out _ hR).mono ?_
    rintro e z1 ⟨rfl, hb1⟩
    clear p0 p1 p2 p3 pl d0 d1 d2 d3 dl
    replace hR := hR.trans (hb1.mono hR.size)
    obtain ⟨p0, p1, p2, p3, pl⟩ := id (X1.out.later hR).all4
    obtain ⟨d0, d1, d2, d3, dl⟩ := id (X2.out.later hR).all4
    go_wp2
    go_ret
    exact ⟨rfl, hB.trans (hR.mono hB.size)⟩
  simp only [decide_eq_true k2] at E1
  by_cases k3 : x2 = y2
  case neg =>
    have hf : sameWt ⟨s0, x0, x1, x2⟩ ⟨s0, y0, y1, y2⟩ = false := decide_eq_false fun e => k3 e.2.2.2
    rw [hf]
    simp only [decide_eq_false k3] at E2
    have Q0 := Lib.hid E0
    have Q1 := Lib.hid E1
    have Q2 := Lib.hid E2
    clear E0 E1 E2 hf k0 k1 k2 k3
    clear p0 p1 p2 p3 pl d0 d1 d2 d3 dl
    go_enter Try.func20, Try.ntmps20
    go_wp2_with fail
    rw [← HW.out]
    refine (Q0.out _ hR).mono ?_
    rintro e z0 ⟨rfl, hb0⟩
    replace hR := hR.trans (hb0.mono hR.size)
    obtain ⟨p0, p1, p2, p3, pl⟩ := id (X1.out.later hR).all4
    obtain ⟨d0, d1, d2, d3, dl⟩ := id (X2.out.later hR).all4
    go_wp2_with fail
    refine (Q1.out _ hR).mono ?_
    rintro e z1 ⟨rfl, hb1⟩
    clear p0 p1 p2 p3 pl d0 d1 d2 d3 dl
    replace hR := hR.trans (hb1.mono hR.size)
    obtain ⟨p0, p1, p2, p3, pl⟩ := id (X1.out.later hR).all4
    obtain ⟨d0, d1, d2, d3, dl⟩ := id (X2.out.later hR).all4
    go_wp2_with fail
    refine (Q2.out _ hR).mono ?_
    rintro e z2 ⟨rfl, hb2⟩
    clear p0 p1 p2 p3 pl d0 d1 d2 d3 dl
    replace hR := hR.trans (hb2.mono hR.size)
    obtain ⟨p0, p1, p2, p3, pl⟩ := id (X1.out.later hR).all4
    obtain ⟨d0, d1, d2, d3, dl⟩ := id (X2.out.later hR).all4
    go_wp2
    go_ret
    exact ⟨rfl, hB.trans (hR.mono hB.size)⟩
  simp only [decide_eq_true k3] at E2
  have hf : sameWt ⟨s0, x0, x1, x2⟩ ⟨s0, y0, y1, y2⟩ = true := decide_eq_true ⟨k0, rfl, k2, k3⟩
  rw [hf]
  have Q0 := Lib.hid E0
  have Q1 := Lib.hid E1
  have Q2 := Lib.hid E2
  clear E0 E1 E2 hf k0 k1 k2 k3
  clear p0 p1 p2 p3 pl d0 d1 d2 d3 dl
  go_enter Try.func20, Try.ntmps20
  go_wp2_with fail
  rw [← HW.out]
  refine (Q0.out _ hR).mono ?_
  rintro e z0 ⟨rfl, hb0⟩
  replace hR := hR.trans (hb0.mono hR.size)
  obtain ⟨p0, p1, p2, p3, pl⟩ := id (X1.out.later hR).all4
  obtain ⟨d0, d1, d2, d3, dl⟩ := id (X2.out.later hR).all4
  go_wp2_with fail
  refine (Q1.out _ hR).mono ?_
  rintro e z1 ⟨rfl, hb1⟩
  clear p0 p1 p2 p3 pl d0 d1 d2 d3 dl
  replace hR := hR.trans (hb1.mono hR.size)
  obtain ⟨p0, p1, p2, p3, pl⟩ := id (X1.out.later hR).all4
  obtain ⟨d0, d1, d2, d3, dl⟩ := id (X2.out.later hR).all4
  go_wp2_with fail
  refine (Q2.out _ hR).mono ?_
  rintro e z2 ⟨rfl, hb2⟩
  clear p0 p1 p2 p3 pl d0 d1 d2 d3 dl
  replace hR := hR.trans (hb2.mono hR.size)
  obtain ⟨p0, p1, p2, p3, pl⟩ := id (X1.out.later hR).all4
  obtain ⟨d0, d1, d2, d3, dl⟩ := id (X2.out.later hR).all4
  go_wp2
  go_ret
  exact ⟨rfl, hB.trans (hR.mono hB.size)⟩
theorem both_SameWatcher (c d : Wt) : ∃ r0 : Bool,
    (∀ base0 v0 bs0 base1 v1 bs1 w, BdW c → BdW d → WtE base0 w v0 c bs0 → WtE base1 w v1 d bs1 → Calls Try.prog 20 #[v0, v1] w (TupPost (.bool r0) w)) ∧
    (∀ base0 v0 bs0 base1 v1 bs1 w, BdW c → BdW d → WtE base0 w v0 c bs0 → WtE base1 w v1 d bs1 → Calls Try.prog 22 #[v0, v1] w (TupPost (.bool r0) w)) :=
  ⟨sameWt c d, fun _ _ _ _ _ _ w hc hd h h' => spec_SameWatcher w hc hd h h', fun _ _ _ _ _ _ w hc hd h h' => impl_SameWatcher w hc hd h h'⟩
end Go.Proofs.Ytdehehdcjfaefac
