/- l02Told, BothCheckers, EitherCheckers of the model, and both sides. -/
import Derived.Test.YtfaiifiohomdmaaPairS
import Derived.Test.YtfaiifiohomdmaaPairJ
import Derived.Test.YtfaiifiohomdmaaPairM
import Derived.Test.YtfaiifiohomdmaaSpecOk
namespace Go.Proofs.Ytfaiifiohomdmaa
open Go.RowKit
set_option linter.unusedVariables false

/-- Lists of lengths that l02Ok takes. -/
structure WdC (c : Ck) : Prop where
  accept : Bd1 c.accept
  call : Bd2 c.call
  ret : Bd3 c.ret
  inner : Bd2 c.inner
theorem two_len {α : Type} {x : List α} {a b : α} (h : x = [a, b]) : x.length = 2 := by rw [h]; rfl
theorem lens_of {c : Ck} (h : OkC c) : (c.call.length ≤ 40 ∧ ∀ x ∈ c.call, x.length = 2) ∧ (c.ret.length ≤ 40 ∧ ∀ x ∈ c.ret, x.length ≤ 40 ∧ ∀ y ∈ x, 1 ≤ y.length ∧ y.length ≤ 100) ∧ (c.inner.length ≤ 40 ∧ ∀ x ∈ c.inner, x.length = 2) := by
  have n2 := h.n2
  have sk := h.st2
  refine ⟨⟨by have := h.lc; omega, fun x hx => ?_⟩, ⟨by have := h.lr; omega, fun x hx => ?_⟩, ⟨by have := h.li; omega, fun x hx => ?_⟩⟩
  · obtain ⟨i, hi, rfl⟩ := List.mem_iff_getElem.1 hx
    obtain ⟨a, b, hab, _, _⟩ := h.call i (by rw [← h.lc]; exact hi)
    rw [List.getElem?_eq_getElem hi] at hab
    exact two_len (Option.some.inj hab)
  · obtain ⟨i, hi, rfl⟩ := List.mem_iff_getElem.1 hx
    obtain ⟨a, b, hab, ha, hb⟩ := h.ret i (by rw [← h.lr]; exact hi)
    rw [List.getElem?_eq_getElem hi] at hab
    have e := Option.some.inj hab
    refine ⟨by rw [e]; simp, fun y hy => ?_⟩
    rw [e] at hy
    simp only [listB, Bool.and_eq_true, decide_eq_true_eq] at ha hb
    have sk1 := h.st1
    rcases List.mem_cons.1 hy with rfl | hy
    · have := ha.1; omega
    · rw [List.mem_singleton.1 hy]; have := hb.1; omega
  · obtain ⟨i, hi, rfl⟩ := List.mem_iff_getElem.1 hx
    obtain ⟨a, b, hab, _, _⟩ := h.inner i (by rw [← h.li]; exact hi)
    rw [List.getElem?_eq_getElem hi] at hab
    exact two_len (Option.some.inj hab)
theorem szL_bd {α : Type} {f : α → Nat} {M : Nat} {xs : List α} (h : ∀ x ∈ xs, f x ≤ M) : szL f xs ≤ xs.length * M := by
  induction xs with
  | nil => simp [szL]
  | cons x xs ih =>
    have h1 := h x (List.mem_cons_self ..)
    have h2 := ih fun y hy => h y (List.mem_cons_of_mem _ hy)
    simp only [szL, List.map_cons, List.sum_cons, List.length_cons] at h2 ⊢
    rw [Nat.succ_mul]
    omega
theorem bd_of_ok {c : Ck} (h : OkC c) : BdC c := by
  obtain ⟨⟨c1, c2⟩, ⟨r1, r2⟩, ⟨i1, i2⟩⟩ := lens_of h
  have n2 := h.n2
  have s1 : szL lenP c.call ≤ c.call.length * 4 := szL_bd fun x hx => by unfold lenP; have := c2 x hx; omega
  have s2 : szL (szL lenI) c.ret ≤ c.ret.length * 4000 := szL_bd fun x hx => by
    have h1 := (r2 x hx).1
    have : szL lenI x ≤ x.length * 100 := szL_bd fun y hy => by unfold lenI; exact ((r2 x hx).2 y hy).2
    have h3 : x.length * 100 ≤ 40 * 100 := Nat.mul_le_mul_right 100 h1
    omega
  have s3 : szL lenI c.inner ≤ c.inner.length * 2 := szL_bd fun x hx => by unfold lenI; have := i2 x hx; omega
  refine ⟨by unfold Bd1; omega, ⟨by omega, fun x hx => by have := c2 x hx; unfold Bd1; omega⟩, ⟨by omega, fun x hx => ⟨by have := (r2 x hx).1; omega, fun y hy => by have := ((r2 x hx).2 y hy).2; unfold Bd1; omega⟩⟩, ⟨by omega, fun x hx => by have := i2 x hx; unfold Bd1; omega⟩, ?_⟩
  unfold szC
  omega
theorem CkR.form {w : World} {v : Value} {c : Ck} (h : CkR w v c) : ∃ (A0 : Option Addr) (n0 k0 : Nat) (A1 : Option Addr) (n1 k1 : Nat) (A2 : Option Addr) (n2 k2 : Nat) (A3 : Option Addr) (n3 k3 : Nat),
    v = .agg #[.int .i64 c.stack, .int .i64 c.start, .slice A0 n0 k0, .slice A1 n1 k1, .slice A2 n2 k2, .slice A3 n3 k3] := by
  obtain ⟨va, vc, vr, vi, rfl, h0, h1, h2, h3⟩ := h
  obtain ⟨A0, k0, rfl, _⟩ := h0
  obtain ⟨A1, k1, rfl, _⟩ := h1
  obtain ⟨A2, k2, rfl, _⟩ := h2
  obtain ⟨A3, k3, rfl, _⟩ := h3
  exact ⟨_, _, _, _, _, _, _, _, _, _, _, _, rfl⟩
theorem wd_pair (f : Bool → Bool → Bool) {c d : Ck} (hc : OkC c) (hd : OkC d) : WdC (pairC f c d) := by
  have n1 := hc.n2
  have n2 := hd.n2
  have s1 := hc.st2
  have s2 := hd.st2
  have hn : c.accept.length * d.accept.length ≤ 1600 := Nat.mul_le_mul n1 n2
  obtain ⟨⟨c1, c2⟩, ⟨r1, r2⟩, ⟨i1, i2⟩⟩ := lens_of hc
  obtain ⟨⟨d1, d2⟩, ⟨t1, t2⟩, ⟨j1, j2⟩⟩ := lens_of hd
  refine ⟨?_, ⟨?_, ?_⟩, ⟨?_, ?_⟩, ⟨?_, ?_⟩⟩
  · show (prodL f c.accept d.accept).length ≤ _
    rw [prodL_len]; omega
  · show (prodL _ c.call d.call).length ≤ _
    rw [prodL_len, hc.lc, hd.lc]; omega
  · intro x hx
    obtain ⟨p, hp, q, hq, rfl⟩ := prodL_mem hx
    have := c2 p hp
    unfold Bd1
    rw [List.length_zipWith]; omega
  · show (prodL _ c.ret d.ret).length ≤ _
    rw [prodL_len, hc.lr, hd.lr]; omega
  · intro x hx
    obtain ⟨p, hp, q, hq, rfl⟩ := prodL_mem hx
    have h1 := (r2 p hp).1
    refine ⟨by rw [List.length_zipWith]; omega, fun y hy => ?_⟩
    obtain ⟨l, hl, m, hm, rfl⟩ := zip_mem hy
    have g1 := (r2 p hp).2 l hl
    have g2 := (t2 q hq).2 m hm
    have h3 : (l.length - 1) * (m.length - 1) ≤ 100 * 100 := Nat.mul_le_mul (by omega) (by omega)
    unfold Bd1 pairR
    rw [List.length_append, prodL_len, List.length_dropLast, List.length_dropLast]
    simp only [List.length_cons, List.length_nil]
    omega
  · show (prodL _ c.inner d.inner).length ≤ _
    rw [prodL_len, hc.li, hd.li]; omega
  · intro x hx
    obtain ⟨p, hp, q, hq, rfl⟩ := prodL_mem hx
    have := i2 p hp
    unfold Bd1
    rw [List.length_zipWith]; omega
theorem wd_of {c : Ck} (h : BdC c) : WdC c := ⟨h.accept, h.call, h.ret, h.inner⟩
set_option maxHeartbeats 1600000 in
set_option maxRecDepth 100000 in
theorem spec_l02OkW {base B : Nat} {va vc vr vi : Value} {c : Ck} {b1 b2 b3 b4 : List Nat} (w : World) (hc : WdC c) (hb : Bx w B 31 #[.int .i64 c.stack, .int .i64 c.start, va, vc, vr, vi])
    (h1 : BoolsE base w va c.accept b1) (h2 : Push2E base w vc c.call b2) (h3 : Ints3E base w vr c.ret b3) (h4 : Ints2E base w vi c.inner b4) :
    Calls Try.prog 47 #[.pointer (some ⟨B, 0, none⟩)] w (SeenPost (.bool (okM c)) w) := by
  obtain ⟨c0, c1, c2, c3, c4, c5, cl⟩ := hb.all6
  have hbx : Box6 w B (.int .i64 c.stack) (.int .i64 c.start) va vc vr vi := ⟨c0, c1, c2, c3, c4, c5, cl⟩
  obtain ⟨A, ka, rfl⟩ := RowE.slice h1
  obtain ⟨C, kb, rfl⟩ := ManyE.slice h2
  obtain ⟨R, kr, rfl⟩ := ManyE.slice h3
  obtain ⟨I, ki, rfl⟩ := ManyE.slice h4
  rw [okM_okB]
  cases hh : hdB c.stack c.start c.accept.length c.call.length c.ret.length c.inner.length with
  | false =>
    rw [okB, hh, Bool.false_and]
    refine (spec_head_no _ A C R I _ ka _ kb _ kr _ ki _ _ _ hc.accept hc.call.1 hc.ret.1 hc.inner.1 hbx hh).mono ?_
    rintro e w' ⟨rfl, rfl⟩
    exact ⟨rfl, Below.refl _ _⟩
  | true =>
    obtain ⟨e1, e2, e3, e4, e5, e6, e7, e8⟩ := hdM_yes hh
    rw [okB, hh, Bool.true_and]
    clear hh
    rw [e5] at h2
    rw [e6] at h3
    rw [e7] at h4
    rw [e5, e6, e7] at hbx
    refine (spec_loop _ A C R I _ ka kb kr ki _ _ _ _ _ b2 b3 b4 _ hbx h2 h3 h4 hc.call hc.ret hc.inner e5 e6 e7 ?_ ?_ e8).mono ?_
    · simp only [rngB, decide_eq_true_eq]
      omega
    · simp only [rngB, decide_eq_true_eq]
      omega
    · rintro e w' ⟨rfl, m, rfl⟩
      exact ⟨rfl, below_drewN (Below.refl _ _) m⟩
def TellPost (v : Value) (code : Int) (w : World) (e : Ending) (w' : World) : Prop := e = .returned (.tuple #[v, .int .i64 code]) ∧ Below w.heap.size w w'
def nilV : Value := .agg #[.int .i64 0, .int .i64 0, .slice none 0 0, .slice none 0 0, .slice none 0 0, .slice none 0 0]
set_option maxHeartbeats 3200000 in
set_option maxRecDepth 100000 in
theorem told_yes {base : Nat} {v : Value} {c : Ck} {bs : List Nat} (w : World) (hbc : WdC c) (hck : CkE base w v c bs) (h : okM c = true) :
    Calls Try.prog 48 #[v] w (TellPost v 0 w) := by
  obtain ⟨va, vc, vr, vi, _, _, _, _, rfl, h1, h2, h3, h4, _, _⟩ := hck
  obtain ⟨A1, k1, rfl⟩ := RowE.slice h1
  obtain ⟨A2, k2, rfl⟩ := ManyE.slice h2
  obtain ⟨A3, k3, rfl⟩ := ManyE.slice h3
  obtain ⟨A4, k4, rfl⟩ := ManyE.slice h4
  have hB := ((Below.refl w.heap.size w).alloc (Nat.le_refl _) (.cells #[.int .i64 c.stack, .int .i64 c.start, .slice A1 c.accept.length k1, .slice A2 c.call.length k2, .slice A3 c.ret.length k3, .slice A4 c.inner.length k4] 31)).alloc (by simp) (.cells #[.int .i64 0, .int .i64 0, .slice none 0 0, .slice none 0 0, .slice none 0 0, .slice none 0 0] 31)
  have t1 := (Bx.new w 31 #[.int .i64 c.stack, .int .i64 c.start, .slice A1 c.accept.length k1, .slice A2 c.call.length k2, .slice A3 c.ret.length k3, .slice A4 c.inner.length k4]).alloc (.cells #[.int .i64 0, .int .i64 0, .slice none 0 0, .slice none 0 0, .slice none 0 0, .slice none 0 0] 31)
  have t3 := Bx.new (w.alloc (.cells #[.int .i64 c.stack, .int .i64 c.start, .slice A1 c.accept.length k1, .slice A2 c.call.length k2, .slice A3 c.ret.length k3, .slice A4 c.inner.length k4] 31)) 31 #[.int .i64 0, .int .i64 0, .slice none 0 0, .slice none 0 0, .slice none 0 0, .slice none 0 0]
  simp only [World.size_alloc] at t3
  have hv := spec_l02OkW _ hbc t1 ((bools_ok _).later h1 hB) ((push2_ok _).later h2 hB) ((ints3_ok _).later h3 hB) ((ints2_ok _).later h4 hB)
  rw [h] at hv
  clear h h1 h2 h3 h4 hbc
  generalize c.stack = s0 at *
  generalize c.start = s1 at *
  generalize c.accept.length = n1 at *
  generalize c.call.length = n2 at *
  generalize c.ret.length = n3 at *
  generalize c.inner.length = n4 at *
  have Hv := Lib.hid hv
  have HT := Lib.hid (And.intro t1 (And.intro t3 hB))
  have hlo : w.heap.size ≤ w.heap.size + 1 := by omega
  clear hv t1 t3 hB
  go_enter Try.func48, Try.ntmps48
  go_wp2_with fail
  refine Hv.out.mono ?_
  rintro e w1 ⟨rfl, hb1⟩
  obtain ⟨t1, t3, hB⟩ := HT.out
  replace t1 := t1.later hb1
  replace t3 := t3.later hb1
  replace hB := hB.trans (hb1.mono hB.size)
  obtain ⟨z0, z1, z2, z3, z4, z5, zl⟩ := id t1.all6
  have u0 := t1.frozen 0
  have u1 := t1.frozen 1
  have u2 := t1.frozen 2
  have u3 := t1.frozen 3
  have u4 := t1.frozen 4
  have u5 := t1.frozen 5
  clear t1 hb1
  have q0 := t3.frozen 0
  have q1 := t3.frozen 1
  have q2 := t3.frozen 2
  have q3 := t3.frozen 3
  have q4 := t3.frozen 4
  have q5 := t3.frozen 5
  obtain ⟨c0, c1, c2, c3, c4, c5, cl⟩ := id t3.all6
  have HH := Lib.hid (And.intro t3 hB)
  clear t3 hB
  go_wp2
  clear c0 c1 c2 c3 c4 c5 cl q0 q1 q2 q3 q4 q5
  obtain ⟨t3, hB⟩ := HH.out
  have x0_ := t3.set 0 (.int .i64 s0)
  have x1_ := x0_.set 1 (.int .i64 s1)
  have x2_ := x1_.set 2 (.slice A1 n1 k1)
  have x3_ := x2_.set 3 (.slice A2 n2 k2)
  have x4_ := x3_.set 4 (.slice A3 n3 k3)
  have x5_ := x4_.set 5 (.slice A4 n4 k4)
  have y0 := x5_.cell 0 (.int .i64 s0) rfl
  have y1 := x5_.cell 1 (.int .i64 s1) rfl
  have y2 := x5_.cell 2 (.slice A1 n1 k1) rfl
  have y3 := x5_.cell 3 (.slice A2 n2 k2) rfl
  have y4 := x5_.cell 4 (.slice A3 n3 k3) rfl
  have y5 := x5_.cell 5 (.slice A4 n4 k4) rfl
  have hBf := ((((((hB.setCell (p := ⟨w.heap.size + 1, 0, none⟩) hlo (.int .i64 s0)).setCell (p := ⟨w.heap.size + 1, 1, none⟩) hlo (.int .i64 s1)).setCell (p := ⟨w.heap.size + 1, 2, none⟩) hlo (.slice A1 n1 k1)).setCell (p := ⟨w.heap.size + 1, 3, none⟩) hlo (.slice A2 n2 k2)).setCell (p := ⟨w.heap.size + 1, 4, none⟩) hlo (.slice A3 n3 k3)).setCell (p := ⟨w.heap.size + 1, 5, none⟩) hlo (.slice A4 n4 k4))
  exact bodyPost_ret (v := .tuple #[.agg #[.int .i64 s0, .int .i64 s1, .slice A1 n1 k1, .slice A2 n2 k2, .slice A3 n3 k3, .slice A4 n4 k4], .int .i64 0]) (by simp [results, Try.results48, go_sem, y0, y1, y2, y3, y4, y5]) rfl ⟨rfl, hBf⟩
set_option maxHeartbeats 3200000 in
set_option maxRecDepth 100000 in
theorem told_no {base : Nat} {v : Value} {c : Ck} {bs : List Nat} (w : World) (hbc : WdC c) (hck : CkE base w v c bs) (h : okM c = false) :
    Calls Try.prog 48 #[v] w (TellPost nilV 3 w) := by
  obtain ⟨va, vc, vr, vi, _, _, _, _, rfl, h1, h2, h3, h4, _, _⟩ := hck
  obtain ⟨A1, k1, rfl⟩ := RowE.slice h1
  obtain ⟨A2, k2, rfl⟩ := ManyE.slice h2
  obtain ⟨A3, k3, rfl⟩ := ManyE.slice h3
  obtain ⟨A4, k4, rfl⟩ := ManyE.slice h4
  have hB := ((Below.refl w.heap.size w).alloc (Nat.le_refl _) (.cells #[.int .i64 c.stack, .int .i64 c.start, .slice A1 c.accept.length k1, .slice A2 c.call.length k2, .slice A3 c.ret.length k3, .slice A4 c.inner.length k4] 31)).alloc (by simp) (.cells #[.int .i64 0, .int .i64 0, .slice none 0 0, .slice none 0 0, .slice none 0 0, .slice none 0 0] 31)
  have t1 := (Bx.new w 31 #[.int .i64 c.stack, .int .i64 c.start, .slice A1 c.accept.length k1, .slice A2 c.call.length k2, .slice A3 c.ret.length k3, .slice A4 c.inner.length k4]).alloc (.cells #[.int .i64 0, .int .i64 0, .slice none 0 0, .slice none 0 0, .slice none 0 0, .slice none 0 0] 31)
  have t3 := Bx.new (w.alloc (.cells #[.int .i64 c.stack, .int .i64 c.start, .slice A1 c.accept.length k1, .slice A2 c.call.length k2, .slice A3 c.ret.length k3, .slice A4 c.inner.length k4] 31)) 31 #[.int .i64 0, .int .i64 0, .slice none 0 0, .slice none 0 0, .slice none 0 0, .slice none 0 0]
  simp only [World.size_alloc] at t3
  have hv := spec_l02OkW _ hbc t1 ((bools_ok _).later h1 hB) ((push2_ok _).later h2 hB) ((ints3_ok _).later h3 hB) ((ints2_ok _).later h4 hB)
  rw [h] at hv
  clear h h1 h2 h3 h4 hbc
  generalize c.stack = s0 at *
  generalize c.start = s1 at *
  generalize c.accept.length = n1 at *
  generalize c.call.length = n2 at *
  generalize c.ret.length = n3 at *
  generalize c.inner.length = n4 at *
  have Hv := Lib.hid hv
  have HT := Lib.hid (And.intro t1 (And.intro t3 hB))
  have hlo : w.heap.size ≤ w.heap.size + 1 := by omega
  clear hv t1 t3 hB
  go_enter Try.func48, Try.ntmps48
  go_wp2_with fail
  refine Hv.out.mono ?_
  rintro e w1 ⟨rfl, hb1⟩
  obtain ⟨t1, t3, hB⟩ := HT.out
  replace t1 := t1.later hb1
  replace t3 := t3.later hb1
  replace hB := hB.trans (hb1.mono hB.size)
  obtain ⟨z0, z1, z2, z3, z4, z5, zl⟩ := id t1.all6
  have u0 := t1.frozen 0
  have u1 := t1.frozen 1
  have u2 := t1.frozen 2
  have u3 := t1.frozen 3
  have u4 := t1.frozen 4
  have u5 := t1.frozen 5
  clear t1 hb1
  have q0 := t3.frozen 0
  have q1 := t3.frozen 1
  have q2 := t3.frozen 2
  have q3 := t3.frozen 3
  have q4 := t3.frozen 4
  have q5 := t3.frozen 5
  obtain ⟨c0, c1, c2, c3, c4, c5, cl⟩ := id t3.all6
  have HH := Lib.hid (And.intro t3 hB)
  clear t3 hB
  go_wp2
  clear c0 c1 c2 c3 c4 c5 cl q0 q1 q2 q3 q4 q5
  obtain ⟨t3, hB⟩ := HH.out
  have x0_ := t3.set 0 (.int .i64 0)
  have x1_ := x0_.set 1 (.int .i64 0)
  have x2_ := x1_.set 2 (.slice none 0 0)
  have x3_ := x2_.set 3 (.slice none 0 0)
  have x4_ := x3_.set 4 (.slice none 0 0)
  have x5_ := x4_.set 5 (.slice none 0 0)
  have y0 := x5_.cell 0 (.int .i64 0) rfl
  have y1 := x5_.cell 1 (.int .i64 0) rfl
  have y2 := x5_.cell 2 (.slice none 0 0) rfl
  have y3 := x5_.cell 3 (.slice none 0 0) rfl
  have y4 := x5_.cell 4 (.slice none 0 0) rfl
  have y5 := x5_.cell 5 (.slice none 0 0) rfl
  have hBf := ((((((hB.setCell (p := ⟨w.heap.size + 1, 0, none⟩) hlo (.int .i64 0)).setCell (p := ⟨w.heap.size + 1, 1, none⟩) hlo (.int .i64 0)).setCell (p := ⟨w.heap.size + 1, 2, none⟩) hlo (.slice none 0 0)).setCell (p := ⟨w.heap.size + 1, 3, none⟩) hlo (.slice none 0 0)).setCell (p := ⟨w.heap.size + 1, 4, none⟩) hlo (.slice none 0 0)).setCell (p := ⟨w.heap.size + 1, 5, none⟩) hlo (.slice none 0 0))
  exact bodyPost_ret (v := .tuple #[.agg #[.int .i64 0, .int .i64 0, .slice none 0 0, .slice none 0 0, .slice none 0 0, .slice none 0 0], .int .i64 3]) (by simp [results, Try.results48, go_sem, y0, y1, y2, y3, y4, y5]) rfl ⟨rfl, hBf⟩
set_option maxHeartbeats 6400000 in
set_option maxRecDepth 100000 in
theorem spec_Both_no1 {base base' : Nat} {v v' : Value} {c d : Ck} {bs bs' : List Nat} (w : World) (hbc : BdC c) (hbd : BdC d) (hck : CkE base w v c bs) (hdk : CkE base' w v' d bs') (h : okM c = false) :
    Calls Try.prog 12 #[v, v'] w (PostV CkE nilCk 1 w) := by
  obtain ⟨va, vc, vr, vi, _, _, _, _, rfl, h1, h2, h3, h4, _, _⟩ := hck
  obtain ⟨ua, uc, ur, ui, _, _, _, _, rfl, g1, g2, g3, g4, _, _⟩ := hdk
  obtain ⟨A1, k1, rfl⟩ := RowE.slice h1
  obtain ⟨A2, k2, rfl⟩ := ManyE.slice h2
  obtain ⟨A3, k3, rfl⟩ := ManyE.slice h3
  obtain ⟨A4, k4, rfl⟩ := ManyE.slice h4
  obtain ⟨B1, j1, rfl⟩ := RowE.slice g1
  obtain ⟨B2, j2, rfl⟩ := ManyE.slice g2
  obtain ⟨B3, j3, rfl⟩ := ManyE.slice g3
  obtain ⟨B4, j4, rfl⟩ := ManyE.slice g4
  have hB := (((Below.refl w.heap.size w).alloc (Nat.le_refl _) (.cells #[.int .i64 c.stack, .int .i64 c.start, .slice A1 c.accept.length k1, .slice A2 c.call.length k2, .slice A3 c.ret.length k3, .slice A4 c.inner.length k4] 31)).alloc (by simp) (.cells #[.int .i64 d.stack, .int .i64 d.start, .slice B1 d.accept.length j1, .slice B2 d.call.length j2, .slice B3 d.ret.length j3, .slice B4 d.inner.length j4] 31)).alloc (by simp; omega) (.cells #[.int .i64 0, .int .i64 0, .slice none 0 0, .slice none 0 0, .slice none 0 0, .slice none 0 0] 31)
  have t1 := ((Bx.new w 31 #[.int .i64 c.stack, .int .i64 c.start, .slice A1 c.accept.length k1, .slice A2 c.call.length k2, .slice A3 c.ret.length k3, .slice A4 c.inner.length k4]).alloc (.cells #[.int .i64 d.stack, .int .i64 d.start, .slice B1 d.accept.length j1, .slice B2 d.call.length j2, .slice B3 d.ret.length j3, .slice B4 d.inner.length j4] 31)).alloc (.cells #[.int .i64 0, .int .i64 0, .slice none 0 0, .slice none 0 0, .slice none 0 0, .slice none 0 0] 31)
  have t2 := (Bx.new (w.alloc (.cells #[.int .i64 c.stack, .int .i64 c.start, .slice A1 c.accept.length k1, .slice A2 c.call.length k2, .slice A3 c.ret.length k3, .slice A4 c.inner.length k4] 31)) 31 #[.int .i64 d.stack, .int .i64 d.start, .slice B1 d.accept.length j1, .slice B2 d.call.length j2, .slice B3 d.ret.length j3, .slice B4 d.inner.length j4]).alloc (.cells #[.int .i64 0, .int .i64 0, .slice none 0 0, .slice none 0 0, .slice none 0 0, .slice none 0 0] 31)
  have t3 := Bx.new ((w.alloc (.cells #[.int .i64 c.stack, .int .i64 c.start, .slice A1 c.accept.length k1, .slice A2 c.call.length k2, .slice A3 c.ret.length k3, .slice A4 c.inner.length k4] 31)).alloc (.cells #[.int .i64 d.stack, .int .i64 d.start, .slice B1 d.accept.length j1, .slice B2 d.call.length j2, .slice B3 d.ret.length j3, .slice B4 d.inner.length j4] 31)) 31 #[.int .i64 0, .int .i64 0, .slice none 0 0, .slice none 0 0, .slice none 0 0, .slice none 0 0]
  simp only [World.size_alloc] at t2 t3
  have QC := Lib.hid (fun (W : World) (hW : Below w.heap.size w W) (hb : Bx W w.heap.size 31 #[.int .i64 c.stack, .int .i64 c.start, .slice A1 c.accept.length k1, .slice A2 c.call.length k2, .slice A3 c.ret.length k3, .slice A4 c.inner.length k4]) => spec_l02OkW W (wd_of hbc) hb ((bools_ok _).later h1 hW) ((push2_ok _).later h2 hW) ((ints3_ok _).later h3 hW) ((ints2_ok _).later h4 hW))
  have QD := Lib.hid (fun (W : World) (hW : Below w.heap.size w W) (hb : Bx W (w.heap.size + 1) 31 #[.int .i64 d.stack, .int .i64 d.start, .slice B1 d.accept.length j1, .slice B2 d.call.length j2, .slice B3 d.ret.length j3, .slice B4 d.inner.length j4]) => spec_l02OkW W (wd_of hbd) hb ((bools_ok _).later g1 hW) ((push2_ok _).later g2 hW) ((ints3_ok _).later g3 hW) ((ints2_ok _).later g4 hW))
  rw [h] at QC
  clear h1 h2 h3 h4 g1 g2 g3 g4 hbc hbd h QD
  generalize c.stack = s0 at *
  generalize c.start = s1 at *
  generalize c.accept.length = n1 at *
  generalize c.call.length = n2 at *
  generalize c.ret.length = n3 at *
  generalize c.inner.length = n4 at *
  generalize d.stack = s2 at *
  generalize d.start = s3 at *
  generalize d.accept.length = m1 at *
  generalize d.call.length = m2 at *
  generalize d.ret.length = m3 at *
  generalize d.inner.length = m4 at *
  obtain ⟨W, hW⟩ : ∃ W0, W0 = ((w.alloc (.cells #[.int .i64 s0, .int .i64 s1, .slice A1 n1 k1, .slice A2 n2 k2, .slice A3 n3 k3, .slice A4 n4 k4] 31)).alloc (.cells #[.int .i64 s2, .int .i64 s3, .slice B1 m1 j1, .slice B2 m2 j2, .slice B3 m3 j3, .slice B4 m4 j4] 31)).alloc (.cells #[.int .i64 0, .int .i64 0, .slice none 0 0, .slice none 0 0, .slice none 0 0, .slice none 0 0] 31) := ⟨_, rfl⟩
  rw [← hW] at t1 t2 t3 hB
  have HT := Lib.hid (And.intro t1 (And.intro t2 (And.intro t3 hB)))
  have HW0 := Lib.hid hW
  have hlo : w.heap.size ≤ w.heap.size + 1 + 1 := by omega
  clear hW t1 t2 t3 hB
  go_enter Try.func12, Try.ntmps12
  go_upto_region 1 with fail
  rw [← HW0.out]
  obtain ⟨t1, t2, t3, hB⟩ := HT.out
  go_wp2_with fail
  refine (QC.out _ hB t1).mono ?_
  rintro e wa ⟨rfl, hb1⟩
  replace t1 := t1.later hb1
  replace t2 := t2.later hb1
  replace t3 := t3.later hb1
  replace hB := hB.trans (hb1.mono hB.size)
  clear hb1
  clear t1 t2
  have q0 := t3.frozen 0
  have q1 := t3.frozen 1
  have q2 := t3.frozen 2
  have q3 := t3.frozen 3
  have q4 := t3.frozen 4
  have q5 := t3.frozen 5
  obtain ⟨c0, c1, c2, c3, c4, c5, cl⟩ := id t3.all6
  have HH := Lib.hid (And.intro t3 hB)
  clear t3 hB
  go_wp2
  clear c0 c1 c2 c3 c4 c5 cl q0 q1 q2 q3 q4 q5
  obtain ⟨t3, hB⟩ := HH.out
  have x0_ := t3.set 0 (.int .i64 0)
  have x1_ := x0_.set 1 (.int .i64 0)
  have x2_ := x1_.set 2 (.slice none 0 0)
  have x3_ := x2_.set 3 (.slice none 0 0)
  have x4_ := x3_.set 4 (.slice none 0 0)
  have x5_ := x4_.set 5 (.slice none 0 0)
  have y0 := x5_.cell 0 (.int .i64 0) rfl
  have y1 := x5_.cell 1 (.int .i64 0) rfl
  have y2 := x5_.cell 2 (.slice none 0 0) rfl
  have y3 := x5_.cell 3 (.slice none 0 0) rfl
  have y4 := x5_.cell 4 (.slice none 0 0) rfl
  have y5 := x5_.cell 5 (.slice none 0 0) rfl
  have hBf := ((((((hB.setCell (p := ⟨w.heap.size + 1 + 1, 0, none⟩) hlo (.int .i64 0)).setCell (p := ⟨w.heap.size + 1 + 1, 1, none⟩) hlo (.int .i64 0)).setCell (p := ⟨w.heap.size + 1 + 1, 2, none⟩) hlo (.slice none 0 0)).setCell (p := ⟨w.heap.size + 1 + 1, 3, none⟩) hlo (.slice none 0 0)).setCell (p := ⟨w.heap.size + 1 + 1, 4, none⟩) hlo (.slice none 0 0)).setCell (p := ⟨w.heap.size + 1 + 1, 5, none⟩) hlo (.slice none 0 0))
  exact bodyPost_ret (v := .tuple #[.agg #[.int .i64 0, .int .i64 0, .slice none 0 0, .slice none 0 0, .slice none 0 0, .slice none 0 0], .int .i64 1]) (by simp [results, Try.results12, go_sem, y0, y1, y2, y3, y4, y5]) rfl ⟨_, [], rfl, nil_ck _ _, hBf⟩
set_option maxHeartbeats 6400000 in
set_option maxRecDepth 100000 in
theorem spec_Both_no2 {base base' : Nat} {v v' : Value} {c d : Ck} {bs bs' : List Nat} (w : World) (hbc : BdC c) (hbd : BdC d) (hck : CkE base w v c bs) (hdk : CkE base' w v' d bs') (hc : okM c = true) (h : okM d = false) :
    Calls Try.prog 12 #[v, v'] w (PostV CkE nilCk 1 w) := by
  obtain ⟨va, vc, vr, vi, _, _, _, _, rfl, h1, h2, h3, h4, _, _⟩ := hck
  obtain ⟨ua, uc, ur, ui, _, _, _, _, rfl, g1, g2, g3, g4, _, _⟩ := hdk
  obtain ⟨A1, k1, rfl⟩ := RowE.slice h1
  obtain ⟨A2, k2, rfl⟩ := ManyE.slice h2
  obtain ⟨A3, k3, rfl⟩ := ManyE.slice h3
  obtain ⟨A4, k4, rfl⟩ := ManyE.slice h4
  obtain ⟨B1, j1, rfl⟩ := RowE.slice g1
  obtain ⟨B2, j2, rfl⟩ := ManyE.slice g2
  obtain ⟨B3, j3, rfl⟩ := ManyE.slice g3
  obtain ⟨B4, j4, rfl⟩ := ManyE.slice g4
  have hB := (((Below.refl w.heap.size w).alloc (Nat.le_refl _) (.cells #[.int .i64 c.stack, .int .i64 c.start, .slice A1 c.accept.length k1, .slice A2 c.call.length k2, .slice A3 c.ret.length k3, .slice A4 c.inner.length k4] 31)).alloc (by simp) (.cells #[.int .i64 d.stack, .int .i64 d.start, .slice B1 d.accept.length j1, .slice B2 d.call.length j2, .slice B3 d.ret.length j3, .slice B4 d.inner.length j4] 31)).alloc (by simp; omega) (.cells #[.int .i64 0, .int .i64 0, .slice none 0 0, .slice none 0 0, .slice none 0 0, .slice none 0 0] 31)
  have t1 := ((Bx.new w 31 #[.int .i64 c.stack, .int .i64 c.start, .slice A1 c.accept.length k1, .slice A2 c.call.length k2, .slice A3 c.ret.length k3, .slice A4 c.inner.length k4]).alloc (.cells #[.int .i64 d.stack, .int .i64 d.start, .slice B1 d.accept.length j1, .slice B2 d.call.length j2, .slice B3 d.ret.length j3, .slice B4 d.inner.length j4] 31)).alloc (.cells #[.int .i64 0, .int .i64 0, .slice none 0 0, .slice none 0 0, .slice none 0 0, .slice none 0 0] 31)
  have t2 := (Bx.new (w.alloc (.cells #[.int .i64 c.stack, .int .i64 c.start, .slice A1 c.accept.length k1, .slice A2 c.call.length k2, .slice A3 c.ret.length k3, .slice A4 c.inner.length k4] 31)) 31 #[.int .i64 d.stack, .int .i64 d.start, .slice B1 d.accept.length j1, .slice B2 d.call.length j2, .slice B3 d.ret.length j3, .slice B4 d.inner.length j4]).alloc (.cells #[.int .i64 0, .int .i64 0, .slice none 0 0, .slice none 0 0, .slice none 0 0, .slice none 0 0] 31)
  have t3 := Bx.new ((w.alloc (.cells #[.int .i64 c.stack, .int .i64 c.start, .slice A1 c.accept.length k1, .slice A2 c.call.length k2, .slice A3 c.ret.length k3, .slice A4 c.inner.length k4] 31)).alloc (.cells #[.int .i64 d.stack, .int .i64 d.start, .slice B1 d.accept.length j1, .slice B2 d.call.length j2, .slice B3 d.ret.length j3, .slice B4 d.inner.length j4] 31)) 31 #[.int .i64 0, .int .i64 0, .slice none 0 0, .slice none 0 0, .slice none 0 0, .slice none 0 0]
  simp only [World.size_alloc] at t2 t3
  have QC := Lib.hid (fun (W : World) (hW : Below w.heap.size w W) (hb : Bx W w.heap.size 31 #[.int .i64 c.stack, .int .i64 c.start, .slice A1 c.accept.length k1, .slice A2 c.call.length k2, .slice A3 c.ret.length k3, .slice A4 c.inner.length k4]) => spec_l02OkW W (wd_of hbc) hb ((bools_ok _).later h1 hW) ((push2_ok _).later h2 hW) ((ints3_ok _).later h3 hW) ((ints2_ok _).later h4 hW))
  have QD := Lib.hid (fun (W : World) (hW : Below w.heap.size w W) (hb : Bx W (w.heap.size + 1) 31 #[.int .i64 d.stack, .int .i64 d.start, .slice B1 d.accept.length j1, .slice B2 d.call.length j2, .slice B3 d.ret.length j3, .slice B4 d.inner.length j4]) => spec_l02OkW W (wd_of hbd) hb ((bools_ok _).later g1 hW) ((push2_ok _).later g2 hW) ((ints3_ok _).later g3 hW) ((ints2_ok _).later g4 hW))
  rw [hc] at QC
  rw [h] at QD
  clear h1 h2 h3 h4 g1 g2 g3 g4 hbc hbd h hc
  generalize c.stack = s0 at *
  generalize c.start = s1 at *
  generalize c.accept.length = n1 at *
  generalize c.call.length = n2 at *
  generalize c.ret.length = n3 at *
  generalize c.inner.length = n4 at *
  generalize d.stack = s2 at *
  generalize d.start = s3 at *
  generalize d.accept.length = m1 at *
  generalize d.call.length = m2 at *
  generalize d.ret.length = m3 at *
  generalize d.inner.length = m4 at *
  obtain ⟨W, hW⟩ : ∃ W0, W0 = ((w.alloc (.cells #[.int .i64 s0, .int .i64 s1, .slice A1 n1 k1, .slice A2 n2 k2, .slice A3 n3 k3, .slice A4 n4 k4] 31)).alloc (.cells #[.int .i64 s2, .int .i64 s3, .slice B1 m1 j1, .slice B2 m2 j2, .slice B3 m3 j3, .slice B4 m4 j4] 31)).alloc (.cells #[.int .i64 0, .int .i64 0, .slice none 0 0, .slice none 0 0, .slice none 0 0, .slice none 0 0] 31) := ⟨_, rfl⟩
  rw [← hW] at t1 t2 t3 hB
  have HT := Lib.hid (And.intro t1 (And.intro t2 (And.intro t3 hB)))
  have HW0 := Lib.hid hW
  have hlo : w.heap.size ≤ w.heap.size + 1 + 1 := by omega
  clear hW t1 t2 t3 hB
  go_enter Try.func12, Try.ntmps12
  go_upto_region 1 with fail
  rw [← HW0.out]
  obtain ⟨t1, t2, t3, hB⟩ := HT.out
  go_wp2_with fail
  refine (QC.out _ hB t1).mono ?_
  rintro e wa ⟨rfl, hb1⟩
  replace t1 := t1.later hb1
  replace t2 := t2.later hb1
  replace t3 := t3.later hb1
  replace hB := hB.trans (hb1.mono hB.size)
  clear hb1
  go_wp2_with fail
  refine (QD.out _ hB t2).mono ?_
  rintro e wb ⟨rfl, hb2⟩
  replace t1 := t1.later hb2
  replace t2 := t2.later hb2
  replace t3 := t3.later hb2
  replace hB := hB.trans (hb2.mono hB.size)
  clear hb2
  clear t1 t2
  have q0 := t3.frozen 0
  have q1 := t3.frozen 1
  have q2 := t3.frozen 2
  have q3 := t3.frozen 3
  have q4 := t3.frozen 4
  have q5 := t3.frozen 5
  obtain ⟨c0, c1, c2, c3, c4, c5, cl⟩ := id t3.all6
  have HH := Lib.hid (And.intro t3 hB)
  clear t3 hB
  go_wp2
  clear c0 c1 c2 c3 c4 c5 cl q0 q1 q2 q3 q4 q5
  obtain ⟨t3, hB⟩ := HH.out
  have x0_ := t3.set 0 (.int .i64 0)
  have x1_ := x0_.set 1 (.int .i64 0)
  have x2_ := x1_.set 2 (.slice none 0 0)
  have x3_ := x2_.set 3 (.slice none 0 0)
  have x4_ := x3_.set 4 (.slice none 0 0)
  have x5_ := x4_.set 5 (.slice none 0 0)
  have y0 := x5_.cell 0 (.int .i64 0) rfl
  have y1 := x5_.cell 1 (.int .i64 0) rfl
  have y2 := x5_.cell 2 (.slice none 0 0) rfl
  have y3 := x5_.cell 3 (.slice none 0 0) rfl
  have y4 := x5_.cell 4 (.slice none 0 0) rfl
  have y5 := x5_.cell 5 (.slice none 0 0) rfl
  have hBf := ((((((hB.setCell (p := ⟨w.heap.size + 1 + 1, 0, none⟩) hlo (.int .i64 0)).setCell (p := ⟨w.heap.size + 1 + 1, 1, none⟩) hlo (.int .i64 0)).setCell (p := ⟨w.heap.size + 1 + 1, 2, none⟩) hlo (.slice none 0 0)).setCell (p := ⟨w.heap.size + 1 + 1, 3, none⟩) hlo (.slice none 0 0)).setCell (p := ⟨w.heap.size + 1 + 1, 4, none⟩) hlo (.slice none 0 0)).setCell (p := ⟨w.heap.size + 1 + 1, 5, none⟩) hlo (.slice none 0 0))
  exact bodyPost_ret (v := .tuple #[.agg #[.int .i64 0, .int .i64 0, .slice none 0 0, .slice none 0 0, .slice none 0 0, .slice none 0 0], .int .i64 1]) (by simp [results, Try.results12, go_sem, y0, y1, y2, y3, y4, y5]) rfl ⟨_, [], rfl, nil_ck _ _, hBf⟩
set_option maxHeartbeats 6400000 in
set_option maxRecDepth 100000 in
theorem spec_Both_no3 {base base' : Nat} {v v' : Value} {c d : Ck} {bs bs' : List Nat} (w : World) (hbc : BdC c) (hbd : BdC d) (hck : CkE base w v c bs) (hdk : CkE base' w v' d bs') (hc : okM c = true) (hd : okM d = true) (h : okM (pairC (fB true) c d) = false) :
    Calls Try.prog 12 #[v, v'] w (PostV CkE nilCk 3 w) := by
  obtain ⟨va, vc, vr, vi, _, _, _, _, rfl, h1, h2, h3, h4, _, _⟩ := hck
  obtain ⟨ua, uc, ur, ui, _, _, _, _, rfl, g1, g2, g3, g4, _, _⟩ := hdk
  have hokc := okC_of hc
  have hokd := okC_of hd
  obtain ⟨ga, ka, gc, kc, gr, kr, gi, ki, rfl, rfl, rfl, rfl⟩ := heads_of h1 h2 h3 h4 hokc
  obtain ⟨ha, la, hc_, lc, hr, lr, hi, li, rfl, rfl, rfl, rfl⟩ := heads_of g1 g2 g3 g4 hokd
  obtain ⟨S, hS⟩ : ∃ S : Nat, c.stack = (S : Int) := ⟨c.stack.toNat, by have := hokc.st1; omega⟩
  obtain ⟨M, hM⟩ : ∃ S : Nat, d.stack = (S : Int) := ⟨d.stack.toNat, by have := hokd.st1; omega⟩
  obtain ⟨s1, hs1⟩ : ∃ s, s = c.start := ⟨_, rfl⟩
  obtain ⟨s2, hs2⟩ : ∃ s, s = d.start := ⟨_, rfl⟩
  obtain ⟨nc, hnc⟩ : ∃ n, n = c.accept.length := ⟨_, rfl⟩
  obtain ⟨nd, hnd⟩ : ∃ n, n = d.accept.length := ⟨_, rfl⟩
  rw [← hnc] at h1 h2 h3 h4 ⊢
  rw [← hnd] at g1 g2 g3 g4 ⊢
  rw [hS, hM, ← hs1, ← hs2]
  have hB := (((Below.refl w.heap.size w).alloc (Nat.le_refl _) (.cells #[.int .i64 (S : Int), .int .i64 s1, .slice (some ⟨ga, 0, none⟩) nc ka, .slice (some ⟨gc, 0, none⟩) nc kc, .slice (some ⟨gr, 0, none⟩) nc kr, .slice (some ⟨gi, 0, none⟩) nc ki] 31)).alloc (by simp) (.cells #[.int .i64 (M : Int), .int .i64 s2, .slice (some ⟨ha, 0, none⟩) nd la, .slice (some ⟨hc_, 0, none⟩) nd lc, .slice (some ⟨hr, 0, none⟩) nd lr, .slice (some ⟨hi, 0, none⟩) nd li] 31)).alloc (by simp; omega) (.cells #[.int .i64 0, .int .i64 0, .slice none 0 0, .slice none 0 0, .slice none 0 0, .slice none 0 0] 31)
  have t1 := ((Bx.new w 31 #[.int .i64 (S : Int), .int .i64 s1, .slice (some ⟨ga, 0, none⟩) nc ka, .slice (some ⟨gc, 0, none⟩) nc kc, .slice (some ⟨gr, 0, none⟩) nc kr, .slice (some ⟨gi, 0, none⟩) nc ki]).alloc (.cells #[.int .i64 (M : Int), .int .i64 s2, .slice (some ⟨ha, 0, none⟩) nd la, .slice (some ⟨hc_, 0, none⟩) nd lc, .slice (some ⟨hr, 0, none⟩) nd lr, .slice (some ⟨hi, 0, none⟩) nd li] 31)).alloc (.cells #[.int .i64 0, .int .i64 0, .slice none 0 0, .slice none 0 0, .slice none 0 0, .slice none 0 0] 31)
  have t2 := (Bx.new (w.alloc (.cells #[.int .i64 (S : Int), .int .i64 s1, .slice (some ⟨ga, 0, none⟩) nc ka, .slice (some ⟨gc, 0, none⟩) nc kc, .slice (some ⟨gr, 0, none⟩) nc kr, .slice (some ⟨gi, 0, none⟩) nc ki] 31)) 31 #[.int .i64 (M : Int), .int .i64 s2, .slice (some ⟨ha, 0, none⟩) nd la, .slice (some ⟨hc_, 0, none⟩) nd lc, .slice (some ⟨hr, 0, none⟩) nd lr, .slice (some ⟨hi, 0, none⟩) nd li]).alloc (.cells #[.int .i64 0, .int .i64 0, .slice none 0 0, .slice none 0 0, .slice none 0 0, .slice none 0 0] 31)
  have t3 := Bx.new ((w.alloc (.cells #[.int .i64 (S : Int), .int .i64 s1, .slice (some ⟨ga, 0, none⟩) nc ka, .slice (some ⟨gc, 0, none⟩) nc kc, .slice (some ⟨gr, 0, none⟩) nc kr, .slice (some ⟨gi, 0, none⟩) nc ki] 31)).alloc (.cells #[.int .i64 (M : Int), .int .i64 s2, .slice (some ⟨ha, 0, none⟩) nd la, .slice (some ⟨hc_, 0, none⟩) nd lc, .slice (some ⟨hr, 0, none⟩) nd lr, .slice (some ⟨hi, 0, none⟩) nd li] 31)) 31 #[.int .i64 0, .int .i64 0, .slice none 0 0, .slice none 0 0, .slice none 0 0, .slice none 0 0]
  simp only [World.size_alloc] at t2 t3
  have QC := Lib.hid (fun (W : World) (hW : Below w.heap.size w W) (hb : Bx W w.heap.size 31 #[.int .i64 (S : Int), .int .i64 s1, .slice (some ⟨ga, 0, none⟩) nc ka, .slice (some ⟨gc, 0, none⟩) nc kc, .slice (some ⟨gr, 0, none⟩) nc kr, .slice (some ⟨gi, 0, none⟩) nc ki]) => spec_l02OkW W (wd_of hbc) (by rw [hS, ← hs1]; exact hb) ((bools_ok _).later h1 hW) ((push2_ok _).later h2 hW) ((ints3_ok _).later h3 hW) ((ints2_ok _).later h4 hW))
  have QD := Lib.hid (fun (W : World) (hW : Below w.heap.size w W) (hb : Bx W (w.heap.size + 1) 31 #[.int .i64 (M : Int), .int .i64 s2, .slice (some ⟨ha, 0, none⟩) nd la, .slice (some ⟨hc_, 0, none⟩) nd lc, .slice (some ⟨hr, 0, none⟩) nd lr, .slice (some ⟨hi, 0, none⟩) nd li]) => spec_l02OkW W (wd_of hbd) (by rw [hM, ← hs2]; exact hb) ((bools_ok _).later g1 hW) ((push2_ok _).later g2 hW) ((ints3_ok _).later g3 hW) ((ints2_ok _).later g4 hW))
  have QP := Lib.hid (fun (W : World) (hW : Below w.heap.size w W) (hb : Bx W w.heap.size 31 #[.int .i64 (S : Int), .int .i64 s1, .slice (some ⟨ga, 0, none⟩) nc ka, .slice (some ⟨gc, 0, none⟩) nc kc, .slice (some ⟨gr, 0, none⟩) nc kr, .slice (some ⟨gi, 0, none⟩) nc ki]) (hb' : Bx W (w.heap.size + 1) 31 #[.int .i64 (M : Int), .int .i64 s2, .slice (some ⟨ha, 0, none⟩) nd la, .slice (some ⟨hc_, 0, none⟩) nd lc, .slice (some ⟨hr, 0, none⟩) nd lr, .slice (some ⟨hi, 0, none⟩) nd li]) => spec_pairs true W hokc hokd hS hM hnc hnd (by rw [← hs1]; exact hb) (by rw [← hs2]; exact hb') ((bools_ok _).later h1 hW) ((push2_ok _).later h2 hW) ((ints3_ok _).later h3 hW) ((ints2_ok _).later h4 hW) ((bools_ok _).later g1 hW) ((push2_ok _).later g2 hW) ((ints3_ok _).later g3 hW) ((ints2_ok _).later g4 hW))
  have QT := Lib.hid (fun (W : World) (bs : List Nat) (v : Value) (b : Nat) (hv : CkE b W v (pairC (fB true) c d) bs) => told_no W (wd_pair (fB true) hokc hokd) hv h)
  rw [hc] at QC
  rw [hd] at QD
  clear h1 h2 h3 h4 g1 g2 g3 g4 hbc hbd h hc hd hokc hokd
  generalize pairC (fB true) c d = P at *
  clear hS hM hs1 hs2 hnc hnd
  obtain ⟨W, hW⟩ : ∃ W0, W0 = ((w.alloc (.cells #[.int .i64 (S : Int), .int .i64 s1, .slice (some ⟨ga, 0, none⟩) nc ka, .slice (some ⟨gc, 0, none⟩) nc kc, .slice (some ⟨gr, 0, none⟩) nc kr, .slice (some ⟨gi, 0, none⟩) nc ki] 31)).alloc (.cells #[.int .i64 (M : Int), .int .i64 s2, .slice (some ⟨ha, 0, none⟩) nd la, .slice (some ⟨hc_, 0, none⟩) nd lc, .slice (some ⟨hr, 0, none⟩) nd lr, .slice (some ⟨hi, 0, none⟩) nd li] 31)).alloc (.cells #[.int .i64 0, .int .i64 0, .slice none 0 0, .slice none 0 0, .slice none 0 0, .slice none 0 0] 31) := ⟨_, rfl⟩
  rw [← hW] at t1 t2 t3 hB
  have HT := Lib.hid (And.intro t1 (And.intro t2 (And.intro t3 hB)))
  have HW0 := Lib.hid hW
  have hlo : w.heap.size ≤ w.heap.size + 1 + 1 := by omega
  clear hW t1 t2 t3 hB
  go_enter Try.func12, Try.ntmps12
  go_upto_region 1 with fail
  rw [← HW0.out]
  obtain ⟨t1, t2, t3, hB⟩ := HT.out
  go_wp2_with fail
  refine (QC.out _ hB t1).mono ?_
  rintro e wa ⟨rfl, hb1⟩
  replace t1 := t1.later hb1
  replace t2 := t2.later hb1
  replace t3 := t3.later hb1
  replace hB := hB.trans (hb1.mono hB.size)
  clear hb1
  go_wp2_with fail
  refine (QD.out _ hB t2).mono ?_
  rintro e wb ⟨rfl, hb2⟩
  replace t1 := t1.later hb2
  replace t2 := t2.later hb2
  replace t3 := t3.later hb2
  replace hB := hB.trans (hb2.mono hB.size)
  clear hb2
  go_wp2_with fail
  refine (QP.out _ hB t1 t2).mono ?_
  rintro e wc ⟨vP, bP, rfl, hE, hb3⟩
  have hsz3 := hb3.size
  have hszB := hB.size
  have hlt3 := t3.lt
  replace t3 := t3.later hb3
  replace hB := hB.trans (hb3.mono hB.size)
  clear hb3 t1 t2
  obtain ⟨p1, p2, p3, p4, e1_, e2_, e3_, e4_, rfl, f1, f2, f3, f4, hbP, hnP⟩ := id hE
  obtain ⟨P1, l1, rfl⟩ := RowE.slice f1
  obtain ⟨P2, l2, rfl⟩ := ManyE.slice f2
  obtain ⟨P3, l3, rfl⟩ := ManyE.slice f3
  obtain ⟨P4, l4, rfl⟩ := ManyE.slice f4
  have HE := Lib.hid hE
  clear f1 f2 f3 f4 hbP hnP hE
  go_wp2_with fail
  refine (QT.out _ _ _ _ HE.out).mono ?_
  rintro e wd ⟨rfl, hb4⟩
  have hE4 := (ck_ok _).later HE.out hb4
  replace t3 := t3.later hb4
  replace hB := hB.trans (hb4.mono hB.size)
  clear hb4 HE
  clear hE4
  unfold nilV
  have q0 := t3.frozen 0
  have q1 := t3.frozen 1
  have q2 := t3.frozen 2
  have q3 := t3.frozen 3
  have q4 := t3.frozen 4
  have q5 := t3.frozen 5
  obtain ⟨c0, c1, c2, c3, c4, c5, cl⟩ := id t3.all6
  have HH := Lib.hid (And.intro t3 hB)
  clear t3 hB
  go_wp2
  clear c0 c1 c2 c3 c4 c5 cl q0 q1 q2 q3 q4 q5
  obtain ⟨t3, hB⟩ := HH.out
  have x0_ := t3.set 0 (.int .i64 0)
  have x1_ := x0_.set 1 (.int .i64 0)
  have x2_ := x1_.set 2 (.slice none 0 0)
  have x3_ := x2_.set 3 (.slice none 0 0)
  have x4_ := x3_.set 4 (.slice none 0 0)
  have x5_ := x4_.set 5 (.slice none 0 0)
  have y0 := x5_.cell 0 (.int .i64 0) rfl
  have y1 := x5_.cell 1 (.int .i64 0) rfl
  have y2 := x5_.cell 2 (.slice none 0 0) rfl
  have y3 := x5_.cell 3 (.slice none 0 0) rfl
  have y4 := x5_.cell 4 (.slice none 0 0) rfl
  have y5 := x5_.cell 5 (.slice none 0 0) rfl
  have hBf := ((((((hB.setCell (p := ⟨w.heap.size + 1 + 1, 0, none⟩) hlo (.int .i64 0)).setCell (p := ⟨w.heap.size + 1 + 1, 1, none⟩) hlo (.int .i64 0)).setCell (p := ⟨w.heap.size + 1 + 1, 2, none⟩) hlo (.slice none 0 0)).setCell (p := ⟨w.heap.size + 1 + 1, 3, none⟩) hlo (.slice none 0 0)).setCell (p := ⟨w.heap.size + 1 + 1, 4, none⟩) hlo (.slice none 0 0)).setCell (p := ⟨w.heap.size + 1 + 1, 5, none⟩) hlo (.slice none 0 0))
  exact bodyPost_ret (v := .tuple #[.agg #[.int .i64 0, .int .i64 0, .slice none 0 0, .slice none 0 0, .slice none 0 0, .slice none 0 0], .int .i64 3]) (by simp [results, Try.results12, go_sem, y0, y1, y2, y3, y4, y5]) rfl ⟨_, [], rfl, nil_ck _ _, hBf⟩
set_option maxHeartbeats 6400000 in
set_option maxRecDepth 100000 in
theorem spec_Both_yes {base base' : Nat} {v v' : Value} {c d : Ck} {bs bs' : List Nat} (w : World) (hbc : BdC c) (hbd : BdC d) (hck : CkE base w v c bs) (hdk : CkE base' w v' d bs') (hc : okM c = true) (hd : okM d = true) (h : okM (pairC (fB true) c d) = true) :
    Calls Try.prog 12 #[v, v'] w (PostV CkE (pairC (fB true) c d) 0 w) := by
  obtain ⟨va, vc, vr, vi, _, _, _, _, rfl, h1, h2, h3, h4, _, _⟩ := hck
  obtain ⟨ua, uc, ur, ui, _, _, _, _, rfl, g1, g2, g3, g4, _, _⟩ := hdk
  have hokc := okC_of hc
  have hokd := okC_of hd
  obtain ⟨ga, ka, gc, kc, gr, kr, gi, ki, rfl, rfl, rfl, rfl⟩ := heads_of h1 h2 h3 h4 hokc
  obtain ⟨ha, la, hc_, lc, hr, lr, hi, li, rfl, rfl, rfl, rfl⟩ := heads_of g1 g2 g3 g4 hokd
  obtain ⟨S, hS⟩ : ∃ S : Nat, c.stack = (S : Int) := ⟨c.stack.toNat, by have := hokc.st1; omega⟩
  obtain ⟨M, hM⟩ : ∃ S : Nat, d.stack = (S : Int) := ⟨d.stack.toNat, by have := hokd.st1; omega⟩
  obtain ⟨s1, hs1⟩ : ∃ s, s = c.start := ⟨_, rfl⟩
  obtain ⟨s2, hs2⟩ : ∃ s, s = d.start := ⟨_, rfl⟩
  obtain ⟨nc, hnc⟩ : ∃ n, n = c.accept.length := ⟨_, rfl⟩
  obtain ⟨nd, hnd⟩ : ∃ n, n = d.accept.length := ⟨_, rfl⟩
  rw [← hnc] at h1 h2 h3 h4 ⊢
  rw [← hnd] at g1 g2 g3 g4 ⊢
  rw [hS, hM, ← hs1, ← hs2]
  have hB := (((Below.refl w.heap.size w).alloc (Nat.le_refl _) (.cells #[.int .i64 (S : Int), .int .i64 s1, .slice (some ⟨ga, 0, none⟩) nc ka, .slice (some ⟨gc, 0, none⟩) nc kc, .slice (some ⟨gr, 0, none⟩) nc kr, .slice (some ⟨gi, 0, none⟩) nc ki] 31)).alloc (by simp) (.cells #[.int .i64 (M : Int), .int .i64 s2, .slice (some ⟨ha, 0, none⟩) nd la, .slice (some ⟨hc_, 0, none⟩) nd lc, .slice (some ⟨hr, 0, none⟩) nd lr, .slice (some ⟨hi, 0, none⟩) nd li] 31)).alloc (by simp; omega) (.cells #[.int .i64 0, .int .i64 0, .slice none 0 0, .slice none 0 0, .slice none 0 0, .slice none 0 0] 31)
  have t1 := ((Bx.new w 31 #[.int .i64 (S : Int), .int .i64 s1, .slice (some ⟨ga, 0, none⟩) nc ka, .slice (some ⟨gc, 0, none⟩) nc kc, .slice (some ⟨gr, 0, none⟩) nc kr, .slice (some ⟨gi, 0, none⟩) nc ki]).alloc (.cells #[.int .i64 (M : Int), .int .i64 s2, .slice (some ⟨ha, 0, none⟩) nd la, .slice (some ⟨hc_, 0, none⟩) nd lc, .slice (some ⟨hr, 0, none⟩) nd lr, .slice (some ⟨hi, 0, none⟩) nd li] 31)).alloc (.cells #[.int .i64 0, .int .i64 0, .slice none 0 0, .slice none 0 0, .slice none 0 0, .slice none 0 0] 31)
  have t2 := (Bx.new (w.alloc (.cells #[.int .i64 (S : Int), .int .i64 s1, .slice (some ⟨ga, 0, none⟩) nc ka, .slice (some ⟨gc, 0, none⟩) nc kc, .slice (some ⟨gr, 0, none⟩) nc kr, .slice (some ⟨gi, 0, none⟩) nc ki] 31)) 31 #[.int .i64 (M : Int), .int .i64 s2, .slice (some ⟨ha, 0, none⟩) nd la, .slice (some ⟨hc_, 0, none⟩) nd lc, .slice (some ⟨hr, 0, none⟩) nd lr, .slice (some ⟨hi, 0, none⟩) nd li]).alloc (.cells #[.int .i64 0, .int .i64 0, .slice none 0 0, .slice none 0 0, .slice none 0 0, .slice none 0 0] 31)
  have t3 := Bx.new ((w.alloc (.cells #[.int .i64 (S : Int), .int .i64 s1, .slice (some ⟨ga, 0, none⟩) nc ka, .slice (some ⟨gc, 0, none⟩) nc kc, .slice (some ⟨gr, 0, none⟩) nc kr, .slice (some ⟨gi, 0, none⟩) nc ki] 31)).alloc (.cells #[.int .i64 (M : Int), .int .i64 s2, .slice (some ⟨ha, 0, none⟩) nd la, .slice (some ⟨hc_, 0, none⟩) nd lc, .slice (some ⟨hr, 0, none⟩) nd lr, .slice (some ⟨hi, 0, none⟩) nd li] 31)) 31 #[.int .i64 0, .int .i64 0, .slice none 0 0, .slice none 0 0, .slice none 0 0, .slice none 0 0]
  simp only [World.size_alloc] at t2 t3
  have QC := Lib.hid (fun (W : World) (hW : Below w.heap.size w W) (hb : Bx W w.heap.size 31 #[.int .i64 (S : Int), .int .i64 s1, .slice (some ⟨ga, 0, none⟩) nc ka, .slice (some ⟨gc, 0, none⟩) nc kc, .slice (some ⟨gr, 0, none⟩) nc kr, .slice (some ⟨gi, 0, none⟩) nc ki]) => spec_l02OkW W (wd_of hbc) (by rw [hS, ← hs1]; exact hb) ((bools_ok _).later h1 hW) ((push2_ok _).later h2 hW) ((ints3_ok _).later h3 hW) ((ints2_ok _).later h4 hW))
  have QD := Lib.hid (fun (W : World) (hW : Below w.heap.size w W) (hb : Bx W (w.heap.size + 1) 31 #[.int .i64 (M : Int), .int .i64 s2, .slice (some ⟨ha, 0, none⟩) nd la, .slice (some ⟨hc_, 0, none⟩) nd lc, .slice (some ⟨hr, 0, none⟩) nd lr, .slice (some ⟨hi, 0, none⟩) nd li]) => spec_l02OkW W (wd_of hbd) (by rw [hM, ← hs2]; exact hb) ((bools_ok _).later g1 hW) ((push2_ok _).later g2 hW) ((ints3_ok _).later g3 hW) ((ints2_ok _).later g4 hW))
  have QP := Lib.hid (fun (W : World) (hW : Below w.heap.size w W) (hb : Bx W w.heap.size 31 #[.int .i64 (S : Int), .int .i64 s1, .slice (some ⟨ga, 0, none⟩) nc ka, .slice (some ⟨gc, 0, none⟩) nc kc, .slice (some ⟨gr, 0, none⟩) nc kr, .slice (some ⟨gi, 0, none⟩) nc ki]) (hb' : Bx W (w.heap.size + 1) 31 #[.int .i64 (M : Int), .int .i64 s2, .slice (some ⟨ha, 0, none⟩) nd la, .slice (some ⟨hc_, 0, none⟩) nd lc, .slice (some ⟨hr, 0, none⟩) nd lr, .slice (some ⟨hi, 0, none⟩) nd li]) => spec_pairs true W hokc hokd hS hM hnc hnd (by rw [← hs1]; exact hb) (by rw [← hs2]; exact hb') ((bools_ok _).later h1 hW) ((push2_ok _).later h2 hW) ((ints3_ok _).later h3 hW) ((ints2_ok _).later h4 hW) ((bools_ok _).later g1 hW) ((push2_ok _).later g2 hW) ((ints3_ok _).later g3 hW) ((ints2_ok _).later g4 hW))
  have QT := Lib.hid (fun (W : World) (bs : List Nat) (v : Value) (b : Nat) (hv : CkE b W v (pairC (fB true) c d) bs) => told_yes W (wd_pair (fB true) hokc hokd) hv h)
  rw [hc] at QC
  rw [hd] at QD
  clear h1 h2 h3 h4 g1 g2 g3 g4 hbc hbd h hc hd hokc hokd
  generalize pairC (fB true) c d = P at *
  clear hS hM hs1 hs2 hnc hnd
  obtain ⟨W, hW⟩ : ∃ W0, W0 = ((w.alloc (.cells #[.int .i64 (S : Int), .int .i64 s1, .slice (some ⟨ga, 0, none⟩) nc ka, .slice (some ⟨gc, 0, none⟩) nc kc, .slice (some ⟨gr, 0, none⟩) nc kr, .slice (some ⟨gi, 0, none⟩) nc ki] 31)).alloc (.cells #[.int .i64 (M : Int), .int .i64 s2, .slice (some ⟨ha, 0, none⟩) nd la, .slice (some ⟨hc_, 0, none⟩) nd lc, .slice (some ⟨hr, 0, none⟩) nd lr, .slice (some ⟨hi, 0, none⟩) nd li] 31)).alloc (.cells #[.int .i64 0, .int .i64 0, .slice none 0 0, .slice none 0 0, .slice none 0 0, .slice none 0 0] 31) := ⟨_, rfl⟩
  rw [← hW] at t1 t2 t3 hB
  have HT := Lib.hid (And.intro t1 (And.intro t2 (And.intro t3 hB)))
  have HW0 := Lib.hid hW
  have hlo : w.heap.size ≤ w.heap.size + 1 + 1 := by omega
  clear hW t1 t2 t3 hB
  go_enter Try.func12, Try.ntmps12
  go_upto_region 1 with fail
  rw [← HW0.out]
  obtain ⟨t1, t2, t3, hB⟩ := HT.out
  go_wp2_with fail
  refine (QC.out _ hB t1).mono ?_
  rintro e wa ⟨rfl, hb1⟩
  replace t1 := t1.later hb1
  replace t2 := t2.later hb1
  replace t3 := t3.later hb1
  replace hB := hB.trans (hb1.mono hB.size)
  clear hb1
  go_wp2_with fail
  refine (QD.out _ hB t2).mono ?_
  rintro e wb ⟨rfl, hb2⟩
  replace t1 := t1.later hb2
  replace t2 := t2.later hb2
  replace t3 := t3.later hb2
  replace hB := hB.trans (hb2.mono hB.size)
  clear hb2
  go_wp2_with fail
  refine (QP.out _ hB t1 t2).mono ?_
  rintro e wc ⟨vP, bP, rfl, hE, hb3⟩
  have hsz3 := hb3.size
  have hszB := hB.size
  have hlt3 := t3.lt
  replace t3 := t3.later hb3
  replace hB := hB.trans (hb3.mono hB.size)
  clear hb3 t1 t2
  obtain ⟨p1, p2, p3, p4, e1_, e2_, e3_, e4_, rfl, f1, f2, f3, f4, hbP, hnP⟩ := id hE
  obtain ⟨P1, l1, rfl⟩ := RowE.slice f1
  obtain ⟨P2, l2, rfl⟩ := ManyE.slice f2
  obtain ⟨P3, l3, rfl⟩ := ManyE.slice f3
  obtain ⟨P4, l4, rfl⟩ := ManyE.slice f4
  have HE := Lib.hid hE
  clear f1 f2 f3 f4 hbP hnP hE
  go_wp2_with fail
  refine (QT.out _ _ _ _ HE.out).mono ?_
  rintro e wd ⟨rfl, hb4⟩
  have hE4 := (ck_ok _).later HE.out hb4
  replace t3 := t3.later hb4
  replace hB := hB.trans (hb4.mono hB.size)
  clear hb4 HE
  have hPlt := fun k hk => ((ck_ok _).lt hE4 k hk).1
  generalize P.stack = ps at *
  generalize P.start = pt at *
  generalize P.accept.length = q1_ at *
  generalize P.call.length = q2_ at *
  generalize P.ret.length = q3_ at *
  generalize P.inner.length = q4_ at *
  have HF := Lib.hid (And.intro hE4 hPlt)
  clear hE4 hPlt
  have q0 := t3.frozen 0
  have q1 := t3.frozen 1
  have q2 := t3.frozen 2
  have q3 := t3.frozen 3
  have q4 := t3.frozen 4
  have q5 := t3.frozen 5
  obtain ⟨c0, c1, c2, c3, c4, c5, cl⟩ := id t3.all6
  have HH := Lib.hid (And.intro t3 hB)
  clear t3 hB
  go_wp2
  clear c0 c1 c2 c3 c4 c5 cl q0 q1 q2 q3 q4 q5
  obtain ⟨t3, hB⟩ := HH.out
  have x0_ := t3.set 0 (.int .i64 ps)
  have x1_ := x0_.set 1 (.int .i64 pt)
  have x2_ := x1_.set 2 (.slice P1 q1_ l1)
  have x3_ := x2_.set 3 (.slice P2 q2_ l2)
  have x4_ := x3_.set 4 (.slice P3 q3_ l3)
  have x5_ := x4_.set 5 (.slice P4 q4_ l4)
  have y0 := x5_.cell 0 (.int .i64 ps) rfl
  have y1 := x5_.cell 1 (.int .i64 pt) rfl
  have y2 := x5_.cell 2 (.slice P1 q1_ l1) rfl
  have y3 := x5_.cell 3 (.slice P2 q2_ l2) rfl
  have y4 := x5_.cell 4 (.slice P3 q3_ l3) rfl
  have y5 := x5_.cell 5 (.slice P4 q4_ l4) rfl
  have hBf := ((((((hB.setCell (p := ⟨w.heap.size + 1 + 1, 0, none⟩) hlo (.int .i64 ps)).setCell (p := ⟨w.heap.size + 1 + 1, 1, none⟩) hlo (.int .i64 pt)).setCell (p := ⟨w.heap.size + 1 + 1, 2, none⟩) hlo (.slice P1 q1_ l1)).setCell (p := ⟨w.heap.size + 1 + 1, 3, none⟩) hlo (.slice P2 q2_ l2)).setCell (p := ⟨w.heap.size + 1 + 1, 4, none⟩) hlo (.slice P3 q3_ l3)).setCell (p := ⟨w.heap.size + 1 + 1, 5, none⟩) hlo (.slice P4 q4_ l4))
  obtain ⟨hE4, hPlt⟩ := HF.out
  have hE5 := keepE (ck_ok _) hE4 (Below.refl _ _) (B := w.heap.size + 1 + 1) (fun b hb => by have := hPlt b hb; omega) 0 (.int .i64 ps)
  have hE6 := keepE (ck_ok _) hE5 (Below.refl _ _) (B := w.heap.size + 1 + 1) (fun b hb => by have := hPlt b hb; omega) 1 (.int .i64 pt)
  have hE7 := keepE (ck_ok _) hE6 (Below.refl _ _) (B := w.heap.size + 1 + 1) (fun b hb => by have := hPlt b hb; omega) 2 (.slice P1 q1_ l1)
  have hE8 := keepE (ck_ok _) hE7 (Below.refl _ _) (B := w.heap.size + 1 + 1) (fun b hb => by have := hPlt b hb; omega) 3 (.slice P2 q2_ l2)
  have hE9 := keepE (ck_ok _) hE8 (Below.refl _ _) (B := w.heap.size + 1 + 1) (fun b hb => by have := hPlt b hb; omega) 4 (.slice P3 q3_ l3)
  have hE10 := keepE (ck_ok _) hE9 (Below.refl _ _) (B := w.heap.size + 1 + 1) (fun b hb => by have := hPlt b hb; omega) 5 (.slice P4 q4_ l4)
  exact bodyPost_ret (v := .tuple #[.agg #[.int .i64 ps, .int .i64 pt, .slice P1 q1_ l1, .slice P2 q2_ l2, .slice P3 q3_ l3, .slice P4 q4_ l4], .int .i64 0]) (by simp [results, Try.results12, go_sem, y0, y1, y2, y3, y4, y5]) rfl ⟨_, _, rfl, ckp_base hszB hE10, hBf⟩
theorem spec_Both (c d : Ck) (base base' : Nat) (v v' : Value) (bs bs' : List Nat) (w : World) (hbc : BdC c) (hbd : BdC d) (hck : CkE base w v c bs) (hdk : CkE base' w v' d bs') :
    Calls Try.prog 12 #[v, v'] w (PostV CkE (if okM c && okM d && okM (pairC (fun x y => x && y) c d) then pairC (fun x y => x && y) c d else nilCk) (if okM c && okM d then (if okM (pairC (fun x y => x && y) c d) then 0 else 3) else 1) w) := by
  have hf : (fun x y => x && y) = fB true := by funext x y; rfl
  rw [hf]
  cases h1 : okM c with
  | false => exact spec_Both_no1 w hbc hbd hck hdk h1
  | true =>
    cases h2 : okM d with
    | false => exact spec_Both_no2 w hbc hbd hck hdk h1 h2
    | true =>
      cases h3 : okM (pairC (fB true) c d) with
      | false => exact spec_Both_no3 w hbc hbd hck hdk h1 h2 h3
      | true => exact spec_Both_yes w hbc hbd hck hdk h1 h2 h3
theorem both_BothCheckers (c d : Ck) : ∃ (rk : Ck) (r1 : Int), BdC rk ∧
    (∀ base v bs base' v' bs' w, BdC c → BdC d → CkE base w v c bs → CkE base' w v' d bs' → Calls Try.prog 12 #[v, v'] w (PostV CkE rk r1 w)) ∧
    (∀ base v bs base' v' bs' w, BdC c → BdC d → CkE base w v c bs → CkE base' w v' d bs' → Calls Try.prog 14 #[v, v'] w (PostV CkE rk r1 w)) := by
  refine ⟨_, _, ?_, fun base v bs base' v' bs' w hbc hbd hck hdk => spec_Both c d base base' v v' bs bs' w hbc hbd hck hdk, fun base v bs base' v' bs' w hbc hbd hck hdk => impl_Both c d base base' v v' bs bs' w hbc hbd hck hdk⟩
  cases h : okM c && okM d && okM (pairC (fun x y => x && y) c d) with
  | true =>
    rw [if_pos rfl]
    simp only [Bool.and_eq_true] at h
    exact bd_of_ok (okC_of h.2)
  | false =>
    rw [if_neg (by simp)]
    exact nil_bd
set_option maxHeartbeats 6400000 in
set_option maxRecDepth 100000 in
theorem spec_Either_no1 {base base' : Nat} {v v' : Value} {c d : Ck} {bs bs' : List Nat} (w : World) (hbc : BdC c) (hbd : BdC d) (hck : CkE base w v c bs) (hdk : CkE base' w v' d bs') (h : okM c = false) :
    Calls Try.prog 18 #[v, v'] w (PostV CkE nilCk 1 w) := by
  obtain ⟨va, vc, vr, vi, _, _, _, _, rfl, h1, h2, h3, h4, _, _⟩ := hck
  obtain ⟨ua, uc, ur, ui, _, _, _, _, rfl, g1, g2, g3, g4, _, _⟩ := hdk
  obtain ⟨A1, k1, rfl⟩ := RowE.slice h1
  obtain ⟨A2, k2, rfl⟩ := ManyE.slice h2
  obtain ⟨A3, k3, rfl⟩ := ManyE.slice h3
  obtain ⟨A4, k4, rfl⟩ := ManyE.slice h4
  obtain ⟨B1, j1, rfl⟩ := RowE.slice g1
  obtain ⟨B2, j2, rfl⟩ := ManyE.slice g2
  obtain ⟨B3, j3, rfl⟩ := ManyE.slice g3
  obtain ⟨B4, j4, rfl⟩ := ManyE.slice g4
  have hB := (((Below.refl w.heap.size w).alloc (Nat.le_refl _) (.cells #[.int .i64 c.stack, .int .i64 c.start, .slice A1 c.accept.length k1, .slice A2 c.call.length k2, .slice A3 c.ret.length k3, .slice A4 c.inner.length k4] 31)).alloc (by simp) (.cells #[.int .i64 d.stack, .int .i64 d.start, .slice B1 d.accept.length j1, .slice B2 d.call.length j2, .slice B3 d.ret.length j3, .slice B4 d.inner.length j4] 31)).alloc (by simp; omega) (.cells #[.int .i64 0, .int .i64 0, .slice none 0 0, .slice none 0 0, .slice none 0 0, .slice none 0 0] 31)
  have t1 := ((Bx.new w 31 #[.int .i64 c.stack, .int .i64 c.start, .slice A1 c.accept.length k1, .slice A2 c.call.length k2, .slice A3 c.ret.length k3, .slice A4 c.inner.length k4]).alloc (.cells #[.int .i64 d.stack, .int .i64 d.start, .slice B1 d.accept.length j1, .slice B2 d.call.length j2, .slice B3 d.ret.length j3, .slice B4 d.inner.length j4] 31)).alloc (.cells #[.int .i64 0, .int .i64 0, .slice none 0 0, .slice none 0 0, .slice none 0 0, .slice none 0 0] 31)
  have t2 := (Bx.new (w.alloc (.cells #[.int .i64 c.stack, .int .i64 c.start, .slice A1 c.accept.length k1, .slice A2 c.call.length k2, .slice A3 c.ret.length k3, .slice A4 c.inner.length k4] 31)) 31 #[.int .i64 d.stack, .int .i64 d.start, .slice B1 d.accept.length j1, .slice B2 d.call.length j2, .slice B3 d.ret.length j3, .slice B4 d.inner.length j4]).alloc (.cells #[.int .i64 0, .int .i64 0, .slice none 0 0, .slice none 0 0, .slice none 0 0, .slice none 0 0] 31)
  have t3 := Bx.new ((w.alloc (.cells #[.int .i64 c.stack, .int .i64 c.start, .slice A1 c.accept.length k1, .slice A2 c.call.length k2, .slice A3 c.ret.length k3, .slice A4 c.inner.length k4] 31)).alloc (.cells #[.int .i64 d.stack, .int .i64 d.start, .slice B1 d.accept.length j1, .slice B2 d.call.length j2, .slice B3 d.ret.length j3, .slice B4 d.inner.length j4] 31)) 31 #[.int .i64 0, .int .i64 0, .slice none 0 0, .slice none 0 0, .slice none 0 0, .slice none 0 0]
  simp only [World.size_alloc] at t2 t3
  have QC := Lib.hid (fun (W : World) (hW : Below w.heap.size w W) (hb : Bx W w.heap.size 31 #[.int .i64 c.stack, .int .i64 c.start, .slice A1 c.accept.length k1, .slice A2 c.call.length k2, .slice A3 c.ret.length k3, .slice A4 c.inner.length k4]) => spec_l02OkW W (wd_of hbc) hb ((bools_ok _).later h1 hW) ((push2_ok _).later h2 hW) ((ints3_ok _).later h3 hW) ((ints2_ok _).later h4 hW))
  have QD := Lib.hid (fun (W : World) (hW : Below w.heap.size w W) (hb : Bx W (w.heap.size + 1) 31 #[.int .i64 d.stack, .int .i64 d.start, .slice B1 d.accept.length j1, .slice B2 d.call.length j2, .slice B3 d.ret.length j3, .slice B4 d.inner.length j4]) => spec_l02OkW W (wd_of hbd) hb ((bools_ok _).later g1 hW) ((push2_ok _).later g2 hW) ((ints3_ok _).later g3 hW) ((ints2_ok _).later g4 hW))
  rw [h] at QC
  clear h1 h2 h3 h4 g1 g2 g3 g4 hbc hbd h QD
  generalize c.stack = s0 at *
  generalize c.start = s1 at *
  generalize c.accept.length = n1 at *
  generalize c.call.length = n2 at *
  generalize c.ret.length = n3 at *
  generalize c.inner.length = n4 at *
  generalize d.stack = s2 at *
  generalize d.start = s3 at *
  generalize d.accept.length = m1 at *
  generalize d.call.length = m2 at *
  generalize d.ret.length = m3 at *
  generalize d.inner.length = m4 at *
  obtain ⟨W, hW⟩ : ∃ W0, W0 = ((w.alloc (.cells #[.int .i64 s0, .int .i64 s1, .slice A1 n1 k1, .slice A2 n2 k2, .slice A3 n3 k3, .slice A4 n4 k4] 31)).alloc (.cells #[.int .i64 s2, .int .i64 s3, .slice B1 m1 j1, .slice B2 m2 j2, .slice B3 m3 j3, .slice B4 m4 j4] 31)).alloc (.cells #[.int .i64 0, .int .i64 0, .slice none 0 0, .slice none 0 0, .slice none 0 0, .slice none 0 0] 31) := ⟨_, rfl⟩
  rw [← hW] at t1 t2 t3 hB
  have HT := Lib.hid (And.intro t1 (And.intro t2 (And.intro t3 hB)))
  have HW0 := Lib.hid hW
  have hlo : w.heap.size ≤ w.heap.size + 1 + 1 := by omega
  clear hW t1 t2 t3 hB
  go_enter Try.func18, Try.ntmps18
  go_upto_region 1 with fail
  rw [← HW0.out]
  obtain ⟨t1, t2, t3, hB⟩ := HT.out
  go_wp2_with fail
  refine (QC.out _ hB t1).mono ?_
  rintro e wa ⟨rfl, hb1⟩
  replace t1 := t1.later hb1
  replace t2 := t2.later hb1
  replace t3 := t3.later hb1
  replace hB := hB.trans (hb1.mono hB.size)
  clear hb1
  clear t1 t2
  have q0 := t3.frozen 0
  have q1 := t3.frozen 1
  have q2 := t3.frozen 2
  have q3 := t3.frozen 3
  have q4 := t3.frozen 4
  have q5 := t3.frozen 5
  obtain ⟨c0, c1, c2, c3, c4, c5, cl⟩ := id t3.all6
  have HH := Lib.hid (And.intro t3 hB)
  clear t3 hB
  go_wp2
  clear c0 c1 c2 c3 c4 c5 cl q0 q1 q2 q3 q4 q5
  obtain ⟨t3, hB⟩ := HH.out
  have x0_ := t3.set 0 (.int .i64 0)
  have x1_ := x0_.set 1 (.int .i64 0)
  have x2_ := x1_.set 2 (.slice none 0 0)
  have x3_ := x2_.set 3 (.slice none 0 0)
  have x4_ := x3_.set 4 (.slice none 0 0)
  have x5_ := x4_.set 5 (.slice none 0 0)
  have y0 := x5_.cell 0 (.int .i64 0) rfl
  have y1 := x5_.cell 1 (.int .i64 0) rfl
  have y2 := x5_.cell 2 (.slice none 0 0) rfl
  have y3 := x5_.cell 3 (.slice none 0 0) rfl
  have y4 := x5_.cell 4 (.slice none 0 0) rfl
  have y5 := x5_.cell 5 (.slice none 0 0) rfl
  have hBf := ((((((hB.setCell (p := ⟨w.heap.size + 1 + 1, 0, none⟩) hlo (.int .i64 0)).setCell (p := ⟨w.heap.size + 1 + 1, 1, none⟩) hlo (.int .i64 0)).setCell (p := ⟨w.heap.size + 1 + 1, 2, none⟩) hlo (.slice none 0 0)).setCell (p := ⟨w.heap.size + 1 + 1, 3, none⟩) hlo (.slice none 0 0)).setCell (p := ⟨w.heap.size + 1 + 1, 4, none⟩) hlo (.slice none 0 0)).setCell (p := ⟨w.heap.size + 1 + 1, 5, none⟩) hlo (.slice none 0 0))
  exact bodyPost_ret (v := .tuple #[.agg #[.int .i64 0, .int .i64 0, .slice none 0 0, .slice none 0 0, .slice none 0 0, .slice none 0 0], .int .i64 1]) (by simp [results, Try.results18, go_sem, y0, y1, y2, y3, y4, y5]) rfl ⟨_, [], rfl, nil_ck _ _, hBf⟩
set_option maxHeartbeats 6400000 in
set_option maxRecDepth 100000 in
theorem spec_Either_no2 {base base' : Nat} {v v' : Value} {c d : Ck} {bs bs' : List Nat} (w : World) (hbc : BdC c) (hbd : BdC d) (hck : CkE base w v c bs) (hdk : CkE base' w v' d bs') (hc : okM c = true) (h : okM d = false) :
    Calls Try.prog 18 #[v, v'] w (PostV CkE nilCk 1 w) := by
  obtain ⟨va, vc, vr, vi, _, _, _, _, rfl, h1, h2, h3, h4, _, _⟩ := hck
  obtain ⟨ua, uc, ur, ui, _, _, _, _, rfl, g1, g2, g3, g4, _, _⟩ := hdk
  obtain ⟨A1, k1, rfl⟩ := RowE.slice h1
  obtain ⟨A2, k2, rfl⟩ := ManyE.slice h2
  obtain ⟨A3, k3, rfl⟩ := ManyE.slice h3
  obtain ⟨A4, k4, rfl⟩ := ManyE.slice h4
  obtain ⟨B1, j1, rfl⟩ := RowE.slice g1
  obtain ⟨B2, j2, rfl⟩ := ManyE.slice g2
  obtain ⟨B3, j3, rfl⟩ := ManyE.slice g3
  obtain ⟨B4, j4, rfl⟩ := ManyE.slice g4
  have hB := (((Below.refl w.heap.size w).alloc (Nat.le_refl _) (.cells #[.int .i64 c.stack, .int .i64 c.start, .slice A1 c.accept.length k1, .slice A2 c.call.length k2, .slice A3 c.ret.length k3, .slice A4 c.inner.length k4] 31)).alloc (by simp) (.cells #[.int .i64 d.stack, .int .i64 d.start, .slice B1 d.accept.length j1, .slice B2 d.call.length j2, .slice B3 d.ret.length j3, .slice B4 d.inner.length j4] 31)).alloc (by simp; omega) (.cells #[.int .i64 0, .int .i64 0, .slice none 0 0, .slice none 0 0, .slice none 0 0, .slice none 0 0] 31)
  have t1 := ((Bx.new w 31 #[.int .i64 c.stack, .int .i64 c.start, .slice A1 c.accept.length k1, .slice A2 c.call.length k2, .slice A3 c.ret.length k3, .slice A4 c.inner.length k4]).alloc (.cells #[.int .i64 d.stack, .int .i64 d.start, .slice B1 d.accept.length j1, .slice B2 d.call.length j2, .slice B3 d.ret.length j3, .slice B4 d.inner.length j4] 31)).alloc (.cells #[.int .i64 0, .int .i64 0, .slice none 0 0, .slice none 0 0, .slice none 0 0, .slice none 0 0] 31)
  have t2 := (Bx.new (w.alloc (.cells #[.int .i64 c.stack, .int .i64 c.start, .slice A1 c.accept.length k1, .slice A2 c.call.length k2, .slice A3 c.ret.length k3, .slice A4 c.inner.length k4] 31)) 31 #[.int .i64 d.stack, .int .i64 d.start, .slice B1 d.accept.length j1, .slice B2 d.call.length j2, .slice B3 d.ret.length j3, .slice B4 d.inner.length j4]).alloc (.cells #[.int .i64 0, .int .i64 0, .slice none 0 0, .slice none 0 0, .slice none 0 0, .slice none 0 0] 31)
  have t3 := Bx.new ((w.alloc (.cells #[.int .i64 c.stack, .int .i64 c.start, .slice A1 c.accept.length k1, .slice A2 c.call.length k2, .slice A3 c.ret.length k3, .slice A4 c.inner.length k4] 31)).alloc (.cells #[.int .i64 d.stack, .int .i64 d.start, .slice B1 d.accept.length j1, .slice B2 d.call.length j2, .slice B3 d.ret.length j3, .slice B4 d.inner.length j4] 31)) 31 #[.int .i64 0, .int .i64 0, .slice none 0 0, .slice none 0 0, .slice none 0 0, .slice none 0 0]
  simp only [World.size_alloc] at t2 t3
  have QC := Lib.hid (fun (W : World) (hW : Below w.heap.size w W) (hb : Bx W w.heap.size 31 #[.int .i64 c.stack, .int .i64 c.start, .slice A1 c.accept.length k1, .slice A2 c.call.length k2, .slice A3 c.ret.length k3, .slice A4 c.inner.length k4]) => spec_l02OkW W (wd_of hbc) hb ((bools_ok _).later h1 hW) ((push2_ok _).later h2 hW) ((ints3_ok _).later h3 hW) ((ints2_ok _).later h4 hW))
  have QD := Lib.hid (fun (W : World) (hW : Below w.heap.size w W) (hb : Bx W (w.heap.size + 1) 31 #[.int .i64 d.stack, .int .i64 d.start, .slice B1 d.accept.length j1, .slice B2 d.call.length j2, .slice B3 d.ret.length j3, .slice B4 d.inner.length j4]) => spec_l02OkW W (wd_of hbd) hb ((bools_ok _).later g1 hW) ((push2_ok _).later g2 hW) ((ints3_ok _).later g3 hW) ((ints2_ok _).later g4 hW))
  rw [hc] at QC
  rw [h] at QD
  clear h1 h2 h3 h4 g1 g2 g3 g4 hbc hbd h hc
  generalize c.stack = s0 at *
  generalize c.start = s1 at *
  generalize c.accept.length = n1 at *
  generalize c.call.length = n2 at *
  generalize c.ret.length = n3 at *
  generalize c.inner.length = n4 at *
  generalize d.stack = s2 at *
  generalize d.start = s3 at *
  generalize d.accept.length = m1 at *
  generalize d.call.length = m2 at *
  generalize d.ret.length = m3 at *
  generalize d.inner.length = m4 at *
  obtain ⟨W, hW⟩ : ∃ W0, W0 = ((w.alloc (.cells #[.int .i64 s0, .int .i64 s1, .slice A1 n1 k1, .slice A2 n2 k2, .slice A3 n3 k3, .slice A4 n4 k4] 31)).alloc (.cells #[.int .i64 s2, .int .i64 s3, .slice B1 m1 j1, .slice B2 m2 j2, .slice B3 m3 j3, .slice B4 m4 j4] 31)).alloc (.cells #[.int .i64 0, .int .i64 0, .slice none 0 0, .slice none 0 0, .slice none 0 0, .slice none 0 0] 31) := ⟨_, rfl⟩
  rw [← hW] at t1 t2 t3 hB
  have HT := Lib.hid (And.intro t1 (And.intro t2 (And.intro t3 hB)))
  have HW0 := Lib.hid hW
  have hlo : w.heap.size ≤ w.heap.size + 1 + 1 := by omega
  clear hW t1 t2 t3 hB
  go_enter Try.func18, Try.ntmps18
  go_upto_region 1 with fail
  rw [← HW0.out]
  obtain ⟨t1, t2, t3, hB⟩ := HT.out
  go_wp2_with fail
  refine (QC.out _ hB t1).mono ?_
  rintro e wa ⟨rfl, hb1⟩
  replace t1 := t1.later hb1
  replace t2 := t2.later hb1
  replace t3 := t3.later hb1
  replace hB := hB.trans (hb1.mono hB.size)
  clear hb1
  go_wp2_with fail
  refine (QD.out _ hB t2).mono ?_
  rintro e wb ⟨rfl, hb2⟩
  replace t1 := t1.later hb2
  replace t2 := t2.later hb2
  replace t3 := t3.later hb2
  replace hB := hB.trans (hb2.mono hB.size)
  clear hb2
  clear t1 t2
  have q0 := t3.frozen 0
  have q1 := t3.frozen 1
  have q2 := t3.frozen 2
  have q3 := t3.frozen 3
  have q4 := t3.frozen 4
  have q5 := t3.frozen 5
  obtain ⟨c0, c1, c2, c3, c4, c5, cl⟩ := id t3.all6
  have HH := Lib.hid (And.intro t3 hB)
  clear t3 hB
  go_wp2
  clear c0 c1 c2 c3 c4 c5 cl q0 q1 q2 q3 q4 q5
  obtain ⟨t3, hB⟩ := HH.out
  have x0_ := t3.set 0 (.int .i64 0)
  have x1_ := x0_.set 1 (.int .i64 0)
  have x2_ := x1_.set 2 (.slice none 0 0)
  have x3_ := x2_.set 3 (.slice none 0 0)
  have x4_ := x3_.set 4 (.slice none 0 0)
  have x5_ := x4_.set 5 (.slice none 0 0)
  have y0 := x5_.cell 0 (.int .i64 0) rfl
  have y1 := x5_.cell 1 (.int .i64 0) rfl
  have y2 := x5_.cell 2 (.slice none 0 0) rfl
  have y3 := x5_.cell 3 (.slice none 0 0) rfl
  have y4 := x5_.cell 4 (.slice none 0 0) rfl
  have y5 := x5_.cell 5 (.slice none 0 0) rfl
  have hBf := ((((((hB.setCell (p := ⟨w.heap.size + 1 + 1, 0, none⟩) hlo (.int .i64 0)).setCell (p := ⟨w.heap.size + 1 + 1, 1, none⟩) hlo (.int .i64 0)).setCell (p := ⟨w.heap.size + 1 + 1, 2, none⟩) hlo (.slice none 0 0)).setCell (p := ⟨w.heap.size + 1 + 1, 3, none⟩) hlo (.slice none 0 0)).setCell (p := ⟨w.heap.size + 1 + 1, 4, none⟩) hlo (.slice none 0 0)).setCell (p := ⟨w.heap.size + 1 + 1, 5, none⟩) hlo (.slice none 0 0))
  exact bodyPost_ret (v := .tuple #[.agg #[.int .i64 0, .int .i64 0, .slice none 0 0, .slice none 0 0, .slice none 0 0, .slice none 0 0], .int .i64 1]) (by simp [results, Try.results18, go_sem, y0, y1, y2, y3, y4, y5]) rfl ⟨_, [], rfl, nil_ck _ _, hBf⟩
set_option maxHeartbeats 6400000 in
set_option maxRecDepth 100000 in
theorem spec_Either_no3 {base base' : Nat} {v v' : Value} {c d : Ck} {bs bs' : List Nat} (w : World) (hbc : BdC c) (hbd : BdC d) (hck : CkE base w v c bs) (hdk : CkE base' w v' d bs') (hc : okM c = true) (hd : okM d = true) (h : okM (pairC (fB false) c d) = false) :
    Calls Try.prog 18 #[v, v'] w (PostV CkE nilCk 3 w) := by
  obtain ⟨va, vc, vr, vi, _, _, _, _, rfl, h1, h2, h3, h4, _, _⟩ := hck
  obtain ⟨ua, uc, ur, ui, _, _, _, _, rfl, g1, g2, g3, g4, _, _⟩ := hdk
  have hokc := okC_of hc
  have hokd := okC_of hd
  obtain ⟨ga, ka, gc, kc, gr, kr, gi, ki, rfl, rfl, rfl, rfl⟩ := heads_of h1 h2 h3 h4 hokc
  obtain ⟨ha, la, hc_, lc, hr, lr, hi, li, rfl, rfl, rfl, rfl⟩ := heads_of g1 g2 g3 g4 hokd
  obtain ⟨S, hS⟩ : ∃ S : Nat, c.stack = (S : Int) := ⟨c.stack.toNat, by have := hokc.st1; omega⟩
  obtain ⟨M, hM⟩ : ∃ S : Nat, d.stack = (S : Int) := ⟨d.stack.toNat, by have := hokd.st1; omega⟩
  obtain ⟨s1, hs1⟩ : ∃ s, s = c.start := ⟨_, rfl⟩
  obtain ⟨s2, hs2⟩ : ∃ s, s = d.start := ⟨_, rfl⟩
  obtain ⟨nc, hnc⟩ : ∃ n, n = c.accept.length := ⟨_, rfl⟩
  obtain ⟨nd, hnd⟩ : ∃ n, n = d.accept.length := ⟨_, rfl⟩
  rw [← hnc] at h1 h2 h3 h4 ⊢
  rw [← hnd] at g1 g2 g3 g4 ⊢
  rw [hS, hM, ← hs1, ← hs2]
  have hB := (((Below.refl w.heap.size w).alloc (Nat.le_refl _) (.cells #[.int .i64 (S : Int), .int .i64 s1, .slice (some ⟨ga, 0, none⟩) nc ka, .slice (some ⟨gc, 0, none⟩) nc kc, .slice (some ⟨gr, 0, none⟩) nc kr, .slice (some ⟨gi, 0, none⟩) nc ki] 31)).alloc (by simp) (.cells #[.int .i64 (M : Int), .int .i64 s2, .slice (some ⟨ha, 0, none⟩) nd la, .slice (some ⟨hc_, 0, none⟩) nd lc, .slice (some ⟨hr, 0, none⟩) nd lr, .slice (some ⟨hi, 0, none⟩) nd li] 31)).alloc (by simp; omega) (.cells #[.int .i64 0, .int .i64 0, .slice none 0 0, .slice none 0 0, .slice none 0 0, .slice none 0 0] 31)
  have t1 := ((Bx.new w 31 #[.int .i64 (S : Int), .int .i64 s1, .slice (some ⟨ga, 0, none⟩) nc ka, .slice (some ⟨gc, 0, none⟩) nc kc, .slice (some ⟨gr, 0, none⟩) nc kr, .slice (some ⟨gi, 0, none⟩) nc ki]).alloc (.cells #[.int .i64 (M : Int), .int .i64 s2, .slice (some ⟨ha, 0, none⟩) nd la, .slice (some ⟨hc_, 0, none⟩) nd lc, .slice (some ⟨hr, 0, none⟩) nd lr, .slice (some ⟨hi, 0, none⟩) nd li] 31)).alloc (.cells #[.int .i64 0, .int .i64 0, .slice none 0 0, .slice none 0 0, .slice none 0 0, .slice none 0 0] 31)
  have t2 := (Bx.new (w.alloc (.cells #[.int .i64 (S : Int), .int .i64 s1, .slice (some ⟨ga, 0, none⟩) nc ka, .slice (some ⟨gc, 0, none⟩) nc kc, .slice (some ⟨gr, 0, none⟩) nc kr, .slice (some ⟨gi, 0, none⟩) nc ki] 31)) 31 #[.int .i64 (M : Int), .int .i64 s2, .slice (some ⟨ha, 0, none⟩) nd la, .slice (some ⟨hc_, 0, none⟩) nd lc, .slice (some ⟨hr, 0, none⟩) nd lr, .slice (some ⟨hi, 0, none⟩) nd li]).alloc (.cells #[.int .i64 0, .int .i64 0, .slice none 0 0, .slice none 0 0, .slice none 0 0, .slice none 0 0] 31)
  have t3 := Bx.new ((w.alloc (.cells #[.int .i64 (S : Int), .int .i64 s1, .slice (some ⟨ga, 0, none⟩) nc ka, .slice (some ⟨gc, 0, none⟩) nc kc, .slice (some ⟨gr, 0, none⟩) nc kr, .slice (some ⟨gi, 0, none⟩) nc ki] 31)).alloc (.cells #[.int .i64 (M : Int), .int .i64 s2, .slice (some ⟨ha, 0, none⟩) nd la, .slice (some ⟨hc_, 0, none⟩) nd lc, .slice (some ⟨hr, 0, none⟩) nd lr, .slice (some ⟨hi, 0, none⟩) nd li] 31)) 31 #[.int .i64 0, .int .i64 0, .slice none 0 0, .slice none 0 0, .slice none 0 0, .slice none 0 0]
  simp only [World.size_alloc] at t2 t3
  have QC := Lib.hid (fun (W : World) (hW : Below w.heap.size w W) (hb : Bx W w.heap.size 31 #[.int .i64 (S : Int), .int .i64 s1, .slice (some ⟨ga, 0, none⟩) nc ka, .slice (some ⟨gc, 0, none⟩) nc kc, .slice (some ⟨gr, 0, none⟩) nc kr, .slice (some ⟨gi, 0, none⟩) nc ki]) => spec_l02OkW W (wd_of hbc) (by rw [hS, ← hs1]; exact hb) ((bools_ok _).later h1 hW) ((push2_ok _).later h2 hW) ((ints3_ok _).later h3 hW) ((ints2_ok _).later h4 hW))
  have QD := Lib.hid (fun (W : World) (hW : Below w.heap.size w W) (hb : Bx W (w.heap.size + 1) 31 #[.int .i64 (M : Int), .int .i64 s2, .slice (some ⟨ha, 0, none⟩) nd la, .slice (some ⟨hc_, 0, none⟩) nd lc, .slice (some ⟨hr, 0, none⟩) nd lr, .slice (some ⟨hi, 0, none⟩) nd li]) => spec_l02OkW W (wd_of hbd) (by rw [hM, ← hs2]; exact hb) ((bools_ok _).later g1 hW) ((push2_ok _).later g2 hW) ((ints3_ok _).later g3 hW) ((ints2_ok _).later g4 hW))
  have QP := Lib.hid (fun (W : World) (hW : Below w.heap.size w W) (hb : Bx W w.heap.size 31 #[.int .i64 (S : Int), .int .i64 s1, .slice (some ⟨ga, 0, none⟩) nc ka, .slice (some ⟨gc, 0, none⟩) nc kc, .slice (some ⟨gr, 0, none⟩) nc kr, .slice (some ⟨gi, 0, none⟩) nc ki]) (hb' : Bx W (w.heap.size + 1) 31 #[.int .i64 (M : Int), .int .i64 s2, .slice (some ⟨ha, 0, none⟩) nd la, .slice (some ⟨hc_, 0, none⟩) nd lc, .slice (some ⟨hr, 0, none⟩) nd lr, .slice (some ⟨hi, 0, none⟩) nd li]) => spec_pairs false W hokc hokd hS hM hnc hnd (by rw [← hs1]; exact hb) (by rw [← hs2]; exact hb') ((bools_ok _).later h1 hW) ((push2_ok _).later h2 hW) ((ints3_ok _).later h3 hW) ((ints2_ok _).later h4 hW) ((bools_ok _).later g1 hW) ((push2_ok _).later g2 hW) ((ints3_ok _).later g3 hW) ((ints2_ok _).later g4 hW))
  have QT := Lib.hid (fun (W : World) (bs : List Nat) (v : Value) (b : Nat) (hv : CkE b W v (pairC (fB false) c d) bs) => told_no W (wd_pair (fB false) hokc hokd) hv h)
  rw [hc] at QC
  rw [hd] at QD
  clear h1 h2 h3 h4 g1 g2 g3 g4 hbc hbd h hc hd hokc hokd
  generalize pairC (fB false) c d = P at *
  clear hS hM hs1 hs2 hnc hnd
  obtain ⟨W, hW⟩ : ∃ W0, W0 = ((w.alloc (.cells #[.int .i64 (S : Int), .int .i64 s1, .slice (some ⟨ga, 0, none⟩) nc ka, .slice (some ⟨gc, 0, none⟩) nc kc, .slice (some ⟨gr, 0, none⟩) nc kr, .slice (some ⟨gi, 0, none⟩) nc ki] 31)).alloc (.cells #[.int .i64 (M : Int), .int .i64 s2, .slice (some ⟨ha, 0, none⟩) nd la, .slice (some ⟨hc_, 0, none⟩) nd lc, .slice (some ⟨hr, 0, none⟩) nd lr, .slice (some ⟨hi, 0, none⟩) nd li] 31)).alloc (.cells #[.int .i64 0, .int .i64 0, .slice none 0 0, .slice none 0 0, .slice none 0 0, .slice none 0 0] 31) := ⟨_, rfl⟩
  rw [← hW] at t1 t2 t3 hB
  have HT := Lib.hid (And.intro t1 (And.intro t2 (And.intro t3 hB)))
  have HW0 := Lib.hid hW
  have hlo : w.heap.size ≤ w.heap.size + 1 + 1 := by omega
  clear hW t1 t2 t3 hB
  go_enter Try.func18, Try.ntmps18
  go_upto_region 1 with fail
  rw [← HW0.out]
  obtain ⟨t1, t2, t3, hB⟩ := HT.out
  go_wp2_with fail
  refine (QC.out _ hB t1).mono ?_
  rintro e wa ⟨rfl, hb1⟩
  replace t1 := t1.later hb1
  replace t2 := t2.later hb1
  replace t3 := t3.later hb1
  replace hB := hB.trans (hb1.mono hB.size)
  clear hb1
  go_wp2_with fail
  refine (QD.out _ hB t2).mono ?_
  rintro e wb ⟨rfl, hb2⟩
  replace t1 := t1.later hb2
  replace t2 := t2.later hb2
  replace t3 := t3.later hb2
  replace hB := hB.trans (hb2.mono hB.size)
  clear hb2
  go_wp2_with fail
  refine (QP.out _ hB t1 t2).mono ?_
  rintro e wc ⟨vP, bP, rfl, hE, hb3⟩
  have hsz3 := hb3.size
  have hszB := hB.size
  have hlt3 := t3.lt
  replace t3 := t3.later hb3
  replace hB := hB.trans (hb3.mono hB.size)
  clear hb3 t1 t2
  obtain ⟨p1, p2, p3, p4, e1_, e2_, e3_, e4_, rfl, f1, f2, f3, f4, hbP, hnP⟩ := id hE
  obtain ⟨P1, l1, rfl⟩ := RowE.slice f1
  obtain ⟨P2, l2, rfl⟩ := ManyE.slice f2
  obtain ⟨P3, l3, rfl⟩ := ManyE.slice f3
  obtain ⟨P4, l4, rfl⟩ := ManyE.slice f4
  have HE := Lib.hid hE
  clear f1 f2 f3 f4 hbP hnP hE
  go_wp2_with fail
  refine (QT.out _ _ _ _ HE.out).mono ?_
  rintro e wd ⟨rfl, hb4⟩
  have hE4 := (ck_ok _).later HE.out hb4
  replace t3 := t3.later hb4
  replace hB := hB.trans (hb4.mono hB.size)
  clear hb4 HE
  clear hE4
  unfold nilV
  have q0 := t3.frozen 0
  have q1 := t3.frozen 1
  have q2 := t3.frozen 2
  have q3 := t3.frozen 3
  have q4 := t3.frozen 4
  have q5 := t3.frozen 5
  obtain ⟨c0, c1, c2, c3, c4, c5, cl⟩ := id t3.all6
  have HH := Lib.hid (And.intro t3 hB)
  clear t3 hB
  go_wp2
  clear c0 c1 c2 c3 c4 c5 cl q0 q1 q2 q3 q4 q5
  obtain ⟨t3, hB⟩ := HH.out
  have x0_ := t3.set 0 (.int .i64 0)
  have x1_ := x0_.set 1 (.int .i64 0)
  have x2_ := x1_.set 2 (.slice none 0 0)
  have x3_ := x2_.set 3 (.slice none 0 0)
  have x4_ := x3_.set 4 (.slice none 0 0)
  have x5_ := x4_.set 5 (.slice none 0 0)
  have y0 := x5_.cell 0 (.int .i64 0) rfl
  have y1 := x5_.cell 1 (.int .i64 0) rfl
  have y2 := x5_.cell 2 (.slice none 0 0) rfl
  have y3 := x5_.cell 3 (.slice none 0 0) rfl
  have y4 := x5_.cell 4 (.slice none 0 0) rfl
  have y5 := x5_.cell 5 (.slice none 0 0) rfl
  have hBf := ((((((hB.setCell (p := ⟨w.heap.size + 1 + 1, 0, none⟩) hlo (.int .i64 0)).setCell (p := ⟨w.heap.size + 1 + 1, 1, none⟩) hlo (.int .i64 0)).setCell (p := ⟨w.heap.size + 1 + 1, 2, none⟩) hlo (.slice none 0 0)).setCell (p := ⟨w.heap.size + 1 + 1, 3, none⟩) hlo (.slice none 0 0)).setCell (p := ⟨w.heap.size + 1 + 1, 4, none⟩) hlo (.slice none 0 0)).setCell (p := ⟨w.heap.size + 1 + 1, 5, none⟩) hlo (.slice none 0 0))
  exact bodyPost_ret (v := .tuple #[.agg #[.int .i64 0, .int .i64 0, .slice none 0 0, .slice none 0 0, .slice none 0 0, .slice none 0 0], .int .i64 3]) (by simp [results, Try.results18, go_sem, y0, y1, y2, y3, y4, y5]) rfl ⟨_, [], rfl, nil_ck _ _, hBf⟩
set_option maxHeartbeats 6400000 in
set_option maxRecDepth 100000 in
theorem spec_Either_yes {base base' : Nat} {v v' : Value} {c d : Ck} {bs bs' : List Nat} (w : World) (hbc : BdC c) (hbd : BdC d) (hck : CkE base w v c bs) (hdk : CkE base' w v' d bs') (hc : okM c = true) (hd : okM d = true) (h : okM (pairC (fB false) c d) = true) :
    Calls Try.prog 18 #[v, v'] w (PostV CkE (pairC (fB false) c d) 0 w) := by
  obtain ⟨va, vc, vr, vi, _, _, _, _, rfl, h1, h2, h3, h4, _, _⟩ := hck
  obtain ⟨ua, uc, ur, ui, _, _, _, _, rfl, g1, g2, g3, g4, _, _⟩ := hdk
  have hokc := okC_of hc
  have hokd := okC_of hd
  obtain ⟨ga, ka, gc, kc, gr, kr, gi, ki, rfl, rfl, rfl, rfl⟩ := heads_of h1 h2 h3 h4 hokc
  obtain ⟨ha, la, hc_, lc, hr, lr, hi, li, rfl, rfl, rfl, rfl⟩ := heads_of g1 g2 g3 g4 hokd
  obtain ⟨S, hS⟩ : ∃ S : Nat, c.stack = (S : Int) := ⟨c.stack.toNat, by have := hokc.st1; omega⟩
  obtain ⟨M, hM⟩ : ∃ S : Nat, d.stack = (S : Int) := ⟨d.stack.toNat, by have := hokd.st1; omega⟩
  obtain ⟨s1, hs1⟩ : ∃ s, s = c.start := ⟨_, rfl⟩
  obtain ⟨s2, hs2⟩ : ∃ s, s = d.start := ⟨_, rfl⟩
  obtain ⟨nc, hnc⟩ : ∃ n, n = c.accept.length := ⟨_, rfl⟩
  obtain ⟨nd, hnd⟩ : ∃ n, n = d.accept.length := ⟨_, rfl⟩
  rw [← hnc] at h1 h2 h3 h4 ⊢
  rw [← hnd] at g1 g2 g3 g4 ⊢
  rw [hS, hM, ← hs1, ← hs2]
  have hB := (((Below.refl w.heap.size w).alloc (Nat.le_refl _) (.cells #[.int .i64 (S : Int), .int .i64 s1, .slice (some ⟨ga, 0, none⟩) nc ka, .slice (some ⟨gc, 0, none⟩) nc kc, .slice (some ⟨gr, 0, none⟩) nc kr, .slice (some ⟨gi, 0, none⟩) nc ki] 31)).alloc (by simp) (.cells #[.int .i64 (M : Int), .int .i64 s2, .slice (some ⟨ha, 0, none⟩) nd la, .slice (some ⟨hc_, 0, none⟩) nd lc, .slice (some ⟨hr, 0, none⟩) nd lr, .slice (some ⟨hi, 0, none⟩) nd li] 31)).alloc (by simp; omega) (.cells #[.int .i64 0, .int .i64 0, .slice none 0 0, .slice none 0 0, .slice none 0 0, .slice none 0 0] 31)
  have t1 := ((Bx.new w 31 #[.int .i64 (S : Int), .int .i64 s1, .slice (some ⟨ga, 0, none⟩) nc ka, .slice (some ⟨gc, 0, none⟩) nc kc, .slice (some ⟨gr, 0, none⟩) nc kr, .slice (some ⟨gi, 0, none⟩) nc ki]).alloc (.cells #[.int .i64 (M : Int), .int .i64 s2, .slice (some ⟨ha, 0, none⟩) nd la, .slice (some ⟨hc_, 0, none⟩) nd lc, .slice (some ⟨hr, 0, none⟩) nd lr, .slice (some ⟨hi, 0, none⟩) nd li] 31)).alloc (.cells #[.int .i64 0, .int .i64 0, .slice none 0 0, .slice none 0 0, .slice none 0 0, .slice none 0 0] 31)
  have t2 := (Bx.new (w.alloc (.cells #[.int .i64 (S : Int), .int .i64 s1, .slice (some ⟨ga, 0, none⟩) nc ka, .slice (some ⟨gc, 0, none⟩) nc kc, .slice (some ⟨gr, 0, none⟩) nc kr, .slice (some ⟨gi, 0, none⟩) nc ki] 31)) 31 #[.int .i64 (M : Int), .int .i64 s2, .slice (some ⟨ha, 0, none⟩) nd la, .slice (some ⟨hc_, 0, none⟩) nd lc, .slice (some ⟨hr, 0, none⟩) nd lr, .slice (some ⟨hi, 0, none⟩) nd li]).alloc (.cells #[.int .i64 0, .int .i64 0, .slice none 0 0, .slice none 0 0, .slice none 0 0, .slice none 0 0] 31)
  have t3 := Bx.new ((w.alloc (.cells #[.int .i64 (S : Int), .int .i64 s1, .slice (some ⟨ga, 0, none⟩) nc ka, .slice (some ⟨gc, 0, none⟩) nc kc, .slice (some ⟨gr, 0, none⟩) nc kr, .slice (some ⟨gi, 0, none⟩) nc ki] 31)).alloc (.cells #[.int .i64 (M : Int), .int .i64 s2, .slice (some ⟨ha, 0, none⟩) nd la, .slice (some ⟨hc_, 0, none⟩) nd lc, .slice (some ⟨hr, 0, none⟩) nd lr, .slice (some ⟨hi, 0, none⟩) nd li] 31)) 31 #[.int .i64 0, .int .i64 0, .slice none 0 0, .slice none 0 0, .slice none 0 0, .slice none 0 0]
  simp only [World.size_alloc] at t2 t3
  have QC := Lib.hid (fun (W : World) (hW : Below w.heap.size w W) (hb : Bx W w.heap.size 31 #[.int .i64 (S : Int), .int .i64 s1, .slice (some ⟨ga, 0, none⟩) nc ka, .slice (some ⟨gc, 0, none⟩) nc kc, .slice (some ⟨gr, 0, none⟩) nc kr, .slice (some ⟨gi, 0, none⟩) nc ki]) => spec_l02OkW W (wd_of hbc) (by rw [hS, ← hs1]; exact hb) ((bools_ok _).later h1 hW) ((push2_ok _).later h2 hW) ((ints3_ok _).later h3 hW) ((ints2_ok _).later h4 hW))
  have QD := Lib.hid (fun (W : World) (hW : Below w.heap.size w W) (hb : Bx W (w.heap.size + 1) 31 #[.int .i64 (M : Int), .int .i64 s2, .slice (some ⟨ha, 0, none⟩) nd la, .slice (some ⟨hc_, 0, none⟩) nd lc, .slice (some ⟨hr, 0, none⟩) nd lr, .slice (some ⟨hi, 0, none⟩) nd li]) => spec_l02OkW W (wd_of hbd) (by rw [hM, ← hs2]; exact hb) ((bools_ok _).later g1 hW) ((push2_ok _).later g2 hW) ((ints3_ok _).later g3 hW) ((ints2_ok _).later g4 hW))
  have QP := Lib.hid (fun (W : World) (hW : Below w.heap.size w W) (hb : Bx W w.heap.size 31 #[.int .i64 (S : Int), .int .i64 s1, .slice (some ⟨ga, 0, none⟩) nc ka, .slice (some ⟨gc, 0, none⟩) nc kc, .slice (some ⟨gr, 0, none⟩) nc kr, .slice (some ⟨gi, 0, none⟩) nc ki]) (hb' : Bx W (w.heap.size + 1) 31 #[.int .i64 (M : Int), .int .i64 s2, .slice (some ⟨ha, 0, none⟩) nd la, .slice (some ⟨hc_, 0, none⟩) nd lc, .slice (some ⟨hr, 0, none⟩) nd lr, .slice (some ⟨hi, 0, none⟩) nd li]) => spec_pairs false W hokc hokd hS hM hnc hnd (by rw [← hs1]; exact hb) (by rw [← hs2]; exact hb') ((bools_ok _).later h1 hW) ((push2_ok _).later h2 hW) ((ints3_ok _).later h3 hW) ((ints2_ok _).later h4 hW) ((bools_ok _).later g1 hW) ((push2_ok _).later g2 hW) ((ints3_ok _).later g3 hW) ((ints2_ok _).later g4 hW))
  have QT := Lib.hid (fun (W : World) (bs : List Nat) (v : Value) (b : Nat) (hv : CkE b W v (pairC (fB false) c d) bs) => told_yes W (wd_pair (fB false) hokc hokd) hv h)
  rw [hc] at QC
  rw [hd] at QD
  clear h1 h2 h3 h4 g1 g2 g3 g4 hbc hbd h hc hd hokc hokd
  generalize pairC (fB false) c d = P at *
  clear hS hM hs1 hs2 hnc hnd
  obtain ⟨W, hW⟩ : ∃ W0, W0 = ((w.alloc (.cells #[.int .i64 (S : Int), .int .i64 s1, .slice (some ⟨ga, 0, none⟩) nc ka, .slice (some ⟨gc, 0, none⟩) nc kc, .slice (some ⟨gr, 0, none⟩) nc kr, .slice (some ⟨gi, 0, none⟩) nc ki] 31)).alloc (.cells #[.int .i64 (M : Int), .int .i64 s2, .slice (some ⟨ha, 0, none⟩) nd la, .slice (some ⟨hc_, 0, none⟩) nd lc, .slice (some ⟨hr, 0, none⟩) nd lr, .slice (some ⟨hi, 0, none⟩) nd li] 31)).alloc (.cells #[.int .i64 0, .int .i64 0, .slice none 0 0, .slice none 0 0, .slice none 0 0, .slice none 0 0] 31) := ⟨_, rfl⟩
  rw [← hW] at t1 t2 t3 hB
  have HT := Lib.hid (And.intro t1 (And.intro t2 (And.intro t3 hB)))
  have HW0 := Lib.hid hW
  have hlo : w.heap.size ≤ w.heap.size + 1 + 1 := by omega
  clear hW t1 t2 t3 hB
  go_enter Try.func18, Try.ntmps18
  go_upto_region 1 with fail
  rw [← HW0.out]
  obtain ⟨t1, t2, t3, hB⟩ := HT.out
  go_wp2_with fail
  refine (QC.out _ hB t1).mono ?_
  rintro e wa ⟨rfl, hb1⟩
  replace t1 := t1.later hb1
  replace t2 := t2.later hb1
  replace t3 := t3.later hb1
  replace hB := hB.trans (hb1.mono hB.size)
  clear hb1
  go_wp2_with fail
  refine (QD.out _ hB t2).mono ?_
  rintro e wb ⟨rfl, hb2⟩
  replace t1 := t1.later hb2
  replace t2 := t2.later hb2
  replace t3 := t3.later hb2
  replace hB := hB.trans (hb2.mono hB.size)
  clear hb2
  go_wp2_with fail
  refine (QP.out _ hB t1 t2).mono ?_
  rintro e wc ⟨vP, bP, rfl, hE, hb3⟩
  have hsz3 := hb3.size
  have hszB := hB.size
  have hlt3 := t3.lt
  replace t3 := t3.later hb3
  replace hB := hB.trans (hb3.mono hB.size)
  clear hb3 t1 t2
  obtain ⟨p1, p2, p3, p4, e1_, e2_, e3_, e4_, rfl, f1, f2, f3, f4, hbP, hnP⟩ := id hE
  obtain ⟨P1, l1, rfl⟩ := RowE.slice f1
  obtain ⟨P2, l2, rfl⟩ := ManyE.slice f2
  obtain ⟨P3, l3, rfl⟩ := ManyE.slice f3
  obtain ⟨P4, l4, rfl⟩ := ManyE.slice f4
  have HE := Lib.hid hE
  clear f1 f2 f3 f4 hbP hnP hE
  go_wp2_with fail
  refine (QT.out _ _ _ _ HE.out).mono ?_
  rintro e wd ⟨rfl, hb4⟩
  have hE4 := (ck_ok _).later HE.out hb4
  replace t3 := t3.later hb4
  replace hB := hB.trans (hb4.mono hB.size)
  clear hb4 HE
  have hPlt := fun k hk => ((ck_ok _).lt hE4 k hk).1
  generalize P.stack = ps at *
  generalize P.start = pt at *
  generalize P.accept.length = q1_ at *
  generalize P.call.length = q2_ at *
  generalize P.ret.length = q3_ at *
  generalize P.inner.length = q4_ at *
  have HF := Lib.hid (And.intro hE4 hPlt)
  clear hE4 hPlt
  have q0 := t3.frozen 0
  have q1 := t3.frozen 1
  have q2 := t3.frozen 2
  have q3 := t3.frozen 3
  have q4 := t3.frozen 4
  have q5 := t3.frozen 5
  obtain ⟨c0, c1, c2, c3, c4, c5, cl⟩ := id t3.all6
  have HH := Lib.hid (And.intro t3 hB)
  clear t3 hB
  go_wp2
  clear c0 c1 c2 c3 c4 c5 cl q0 q1 q2 q3 q4 q5
  obtain ⟨t3, hB⟩ := HH.out
  have x0_ := t3.set 0 (.int .i64 ps)
  have x1_ := x0_.set 1 (.int .i64 pt)
  have x2_ := x1_.set 2 (.slice P1 q1_ l1)
  have x3_ := x2_.set 3 (.slice P2 q2_ l2)
  have x4_ := x3_.set 4 (.slice P3 q3_ l3)
  have x5_ := x4_.set 5 (.slice P4 q4_ l4)
  have y0 := x5_.cell 0 (.int .i64 ps) rfl
  have y1 := x5_.cell 1 (.int .i64 pt) rfl
  have y2 := x5_.cell 2 (.slice P1 q1_ l1) rfl
  have y3 := x5_.cell 3 (.slice P2 q2_ l2) rfl
  have y4 := x5_.cell 4 (.slice P3 q3_ l3) rfl
  have y5 := x5_.cell 5 (.slice P4 q4_ l4) rfl
  have hBf := ((((((hB.setCell (p := ⟨w.heap.size + 1 + 1, 0, none⟩) hlo (.int .i64 ps)).setCell (p := ⟨w.heap.size + 1 + 1, 1, none⟩) hlo (.int .i64 pt)).setCell (p := ⟨w.heap.size + 1 + 1, 2, none⟩) hlo (.slice P1 q1_ l1)).setCell (p := ⟨w.heap.size + 1 + 1, 3, none⟩) hlo (.slice P2 q2_ l2)).setCell (p := ⟨w.heap.size + 1 + 1, 4, none⟩) hlo (.slice P3 q3_ l3)).setCell (p := ⟨w.heap.size + 1 + 1, 5, none⟩) hlo (.slice P4 q4_ l4))
  obtain ⟨hE4, hPlt⟩ := HF.out
  have hE5 := keepE (ck_ok _) hE4 (Below.refl _ _) (B := w.heap.size + 1 + 1) (fun b hb => by have := hPlt b hb; omega) 0 (.int .i64 ps)
  have hE6 := keepE (ck_ok _) hE5 (Below.refl _ _) (B := w.heap.size + 1 + 1) (fun b hb => by have := hPlt b hb; omega) 1 (.int .i64 pt)
  have hE7 := keepE (ck_ok _) hE6 (Below.refl _ _) (B := w.heap.size + 1 + 1) (fun b hb => by have := hPlt b hb; omega) 2 (.slice P1 q1_ l1)
  have hE8 := keepE (ck_ok _) hE7 (Below.refl _ _) (B := w.heap.size + 1 + 1) (fun b hb => by have := hPlt b hb; omega) 3 (.slice P2 q2_ l2)
  have hE9 := keepE (ck_ok _) hE8 (Below.refl _ _) (B := w.heap.size + 1 + 1) (fun b hb => by have := hPlt b hb; omega) 4 (.slice P3 q3_ l3)
  have hE10 := keepE (ck_ok _) hE9 (Below.refl _ _) (B := w.heap.size + 1 + 1) (fun b hb => by have := hPlt b hb; omega) 5 (.slice P4 q4_ l4)
  exact bodyPost_ret (v := .tuple #[.agg #[.int .i64 ps, .int .i64 pt, .slice P1 q1_ l1, .slice P2 q2_ l2, .slice P3 q3_ l3, .slice P4 q4_ l4], .int .i64 0]) (by simp [results, Try.results18, go_sem, y0, y1, y2, y3, y4, y5]) rfl ⟨_, _, rfl, ckp_base hszB hE10, hBf⟩
theorem spec_Either (c d : Ck) (base base' : Nat) (v v' : Value) (bs bs' : List Nat) (w : World) (hbc : BdC c) (hbd : BdC d) (hck : CkE base w v c bs) (hdk : CkE base' w v' d bs') :
    Calls Try.prog 18 #[v, v'] w (PostV CkE (if okM c && okM d && okM (pairC (fun x y => x || y) c d) then pairC (fun x y => x || y) c d else nilCk) (if okM c && okM d then (if okM (pairC (fun x y => x || y) c d) then 0 else 3) else 1) w) := by
  have hf : (fun x y => x || y) = fB false := by funext x y; rfl
  rw [hf]
  cases h1 : okM c with
  | false => exact spec_Either_no1 w hbc hbd hck hdk h1
  | true =>
    cases h2 : okM d with
    | false => exact spec_Either_no2 w hbc hbd hck hdk h1 h2
    | true =>
      cases h3 : okM (pairC (fB false) c d) with
      | false => exact spec_Either_no3 w hbc hbd hck hdk h1 h2 h3
      | true => exact spec_Either_yes w hbc hbd hck hdk h1 h2 h3
theorem both_EitherCheckers (c d : Ck) : ∃ (rk : Ck) (r1 : Int), BdC rk ∧
    (∀ base v bs base' v' bs' w, BdC c → BdC d → CkE base w v c bs → CkE base' w v' d bs' → Calls Try.prog 18 #[v, v'] w (PostV CkE rk r1 w)) ∧
    (∀ base v bs base' v' bs' w, BdC c → BdC d → CkE base w v c bs → CkE base' w v' d bs' → Calls Try.prog 19 #[v, v'] w (PostV CkE rk r1 w)) := by
  refine ⟨_, _, ?_, fun base v bs base' v' bs' w hbc hbd hck hdk => spec_Either c d base base' v v' bs bs' w hbc hbd hck hdk, fun base v bs base' v' bs' w hbc hbd hck hdk => impl_Either c d base base' v v' bs bs' w hbc hbd hck hdk⟩
  cases h : okM c && okM d && okM (pairC (fun x y => x || y) c d) with
  | true =>
    rw [if_pos rfl]
    simp only [Bool.and_eq_true] at h
    exact bd_of_ok (okC_of h.2)
  | false =>
    rw [if_neg (by simp)]
    exact nil_bd
end Go.Proofs.Ytfaiifiohomdmaa
