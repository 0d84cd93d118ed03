/- The rows at a state of a checker in memory; the numbers of the moves from it, of the program. -/
import Derived.Test.YtglbmmgancecnaaDoorRowI
import Derived.Test.YtglbmmgancecnaaDoorCtM
import Derived.Test.YtglbmmgancecnaaDoorOk
import Derived.Deep.AppendLies
import Derived.Deep.Cut
namespace Go.Proofs.YtglbmmgancecnaaDoor
open Go.RowKit
set_option linter.unusedVariables false
set_option linter.unusedSimpArgs false

theorem ints_flat (xs : List Int) : (xs.flatMap fun x => [Value.int .i64 x]) = xs.map fun x => Value.int .i64 x := by
  induction xs with
  | nil => rfl
  | cons x xs ih => rw [List.flatMap_cons, ih]; rfl
/-- What lies in memory at a state. -/
structure LiesAt (w : World) (b : Bool) (x y : Int × Int) (r q : List Int) (i j : Int) (s ga gc gr gi gp kp g2 k2 g3 k3 g4 k4 gj kj : Nat) : Prop where
  la : ga < w.heap.size
  lc : gc < w.heap.size
  lr : gr < w.heap.size
  li : gi < w.heap.size
  lp : gp < w.heap.size
  l2 : g2 < w.heap.size
  l3 : g3 < w.heap.size
  l4 : g4 < w.heap.size
  lj : gj < w.heap.size
  ca : w.cell? ⟨ga, s, none⟩ = some (.bool b)
  cc : w.cell? ⟨gc, s, none⟩ = some (.slice (some ⟨gp, 0, none⟩) 2 kp)
  p0 : w.cell? ⟨gp, 0, none⟩ = some (.int .i64 x.1)
  p1 : w.cell? ⟨gp, 1, none⟩ = some (.int .i64 x.2)
  p2 : w.cell? ⟨gp, 2, none⟩ = some (.int .i64 y.1)
  p3 : w.cell? ⟨gp, 3, none⟩ = some (.int .i64 y.2)
  cr : w.cell? ⟨gr, s, none⟩ = some (.slice (some ⟨g2, 0, none⟩) 2 k2)
  r0 : w.cell? ⟨g2, 0, none⟩ = some (.slice (some ⟨g3, 0, none⟩) r.length k3)
  r1 : w.cell? ⟨g2, 1, none⟩ = some (.slice (some ⟨g4, 0, none⟩) q.length k4)
  rc : ∀ (t : Nat) u, r[t]? = some u → w.cell? ⟨g3, t, none⟩ = some (.int .i64 u)
  qc : ∀ (t : Nat) u, q[t]? = some u → w.cell? ⟨g4, t, none⟩ = some (.int .i64 u)
  ci : w.cell? ⟨gi, s, none⟩ = some (.slice (some ⟨gj, 0, none⟩) 2 kj)
  i0 : w.cell? ⟨gj, 0, none⟩ = some (.int .i64 i)
  i1 : w.cell? ⟨gj, 1, none⟩ = some (.int .i64 j)
theorem LiesAt.later {w w' : World} {b : Bool} {x y : Int × Int} {r q : List Int} {i j : Int} {s ga gc gr gi gp kp g2 k2 g3 k3 g4 k4 gj kj : Nat} (h : LiesAt w b x y r q i j s ga gc gr gi gp kp g2 k2 g3 k3 g4 k4 gj kj) (hB : Below w.heap.size w w') : LiesAt w' b x y r q i j s ga gc gr gi gp kp g2 k2 g3 k3 g4 k4 gj kj := by
  have hs := hB.size
  obtain ⟨l1, l2, l3, l4, l5, l6, l7, l8, l9, a, c, p0, p1, p2, p3, r, r0, r1, rc, qc, i, i0, i1⟩ := h
  exact ⟨by omega, by omega, by omega, by omega, by omega, by omega, by omega, by omega, by omega,
    (hB.cell (p := ⟨_, _, none⟩) l1).trans a, (hB.cell (p := ⟨_, _, none⟩) l2).trans c,
    (hB.cell (p := ⟨_, _, none⟩) l5).trans p0, (hB.cell (p := ⟨_, _, none⟩) l5).trans p1, (hB.cell (p := ⟨_, _, none⟩) l5).trans p2, (hB.cell (p := ⟨_, _, none⟩) l5).trans p3,
    (hB.cell (p := ⟨_, _, none⟩) l3).trans r, (hB.cell (p := ⟨_, _, none⟩) l6).trans r0, (hB.cell (p := ⟨_, _, none⟩) l6).trans r1,
    fun t u hu => (hB.cell (p := ⟨_, _, none⟩) l7).trans (rc t u hu), fun t u hu => (hB.cell (p := ⟨_, _, none⟩) l8).trans (qc t u hu),
    (hB.cell (p := ⟨_, _, none⟩) l4).trans i, (hB.cell (p := ⟨_, _, none⟩) l9).trans i0, (hB.cell (p := ⟨_, _, none⟩) l9).trans i1⟩
theorem lies_of {base : Nat} {w : World} {va vc vr vi : Value} {c : Ck} {b1 b2 b3 b4 : List Nat} {s : Nat} {x y : Int × Int} {r q : List Int} {i j : Int}
    (h1 : BoolsE base w va c.accept b1) (h2 : Push2E base w vc c.call b2) (h3 : Ints3E base w vr c.ret b3) (h4 : Ints2E base w vi c.inner b4) (hA : AtC c s x y r q i j) (hs : s < c.accept.length) :
    ∃ ga ka gc kc gr kr gi ki gp kp g2 k2 g3 k3 g4 k4 gj kj, va = .slice (some ⟨ga, 0, none⟩) c.accept.length ka ∧ vc = .slice (some ⟨gc, 0, none⟩) c.call.length kc ∧ vr = .slice (some ⟨gr, 0, none⟩) c.ret.length kr ∧ vi = .slice (some ⟨gi, 0, none⟩) c.inner.length ki ∧
      LiesAt w (c.accept[s]?.getD false) x y r q i j s ga gc gr gi gp kp g2 k2 g3 k3 g4 k4 gj kj := by
  obtain ⟨A, ka, rfl⟩ := RowE.slice h1
  obtain ⟨ga, rfl, la, _⟩ := RowE.head h1 hs
  obtain ⟨b, hb⟩ : ∃ b, c.accept[s]? = some b := ⟨_, List.getElem?_eq_getElem hs⟩
  have ha : w.cell? ⟨ga, s, none⟩ = some (.bool b) := by
    have := RowE.cell h1 (fun _ => rfl) hb (i := 0) (u := .bool b) rfl
    simpa using this
  obtain ⟨gc, kc, uc, _, rfl, cc, ec, lc, _⟩ := h2.at_ (push_ok _) hA.call
  obtain ⟨gr, kr, ur, _, rfl, cr, er, lr, _⟩ := h3.at_ (ints2_ok _) hA.ret
  obtain ⟨gi, ki, ui, _, rfl, ci, ei, li, _⟩ := h4.at_ (ints_ok _) hA.inner
  obtain ⟨A1, kp, rfl⟩ := RowE.slice ec
  obtain ⟨gp, rfl, lp, _⟩ := RowE.head ec (j := 0) (by simp)
  have hp0 := PushE.cell' ec (j := 0) (x := x) rfl
  have hp1 := PushE.cell' ec (j := 1) (x := y) rfl
  obtain ⟨g2, k2, u3, _, rfl, c3, e3, l2, _⟩ := er.at_ (ints_ok _) (j := 0) (x := r) rfl
  obtain ⟨g2', k2', u4, _, hv, c4, e4, _, _⟩ := er.at_ (ints_ok _) (j := 1) (x := q) rfl
  simp only [Value.slice.injEq, Option.some.injEq, Addr.mk.injEq, and_true, true_and] at hv
  obtain ⟨rfl, rfl⟩ := hv
  obtain ⟨A3, k3, rfl⟩ := RowE.slice e3
  obtain ⟨g3, rfl, l3, _⟩ := RowE.head e3 hA.r0
  obtain ⟨A4, k4, rfl⟩ := RowE.slice e4
  obtain ⟨g4, rfl, l4, _⟩ := RowE.head e4 hA.q0
  obtain ⟨A5, kj, rfl⟩ := RowE.slice ei
  obtain ⟨gj, rfl, lj, _⟩ := RowE.head ei (j := 0) (by simp)
  have hi0 := IntsE.cell' ei (j := 0) (x := i) rfl
  have hi1 := IntsE.cell' ei (j := 1) (x := j) rfl
  refine ⟨ga, ka, gc, kc, gr, kr, gi, ki, gp, kp, g2, k2, g3, k3, g4, k4, gj, kj, rfl, rfl, rfl, rfl, ⟨la, lc, lr, li, lp, l2, l3, l4, lj, ?_, cc, hp0.1, hp0.2, hp1.1, hp1.2, cr, c3, c4, fun t u hu => IntsE.cell' e3 hu, fun t u hu => IntsE.cell' e4 hu, ci, hi0, hi1⟩⟩
  rw [hb]; exact ha

theorem new_two (W : World) (o : Obj) (cs : Array Value) (t : TypeId) : Bx ((W.alloc o).alloc (.cells cs t)) (W.heap.size + 1) t cs := by
  have h := Bx.new (W.alloc o) t cs
  rwa [World.size_alloc] at h
/-- A row of numbers behind an append. -/
theorem grow_ints {W0 wr W2 w5 : World} {v : Value} {xs ys : List Int} {zs : List Value} {row : Option Nat} {bs : List Nat} {g n cap : Nat} (hE : IntsE W0.heap.size wr v xs bs) (hB : Below W0.heap.size W0 wr) (hB2 : Below wr.heap.size wr W2)
    (hown : w5.ownsRow W0.heap.size 2 1 (.slice (some ⟨g, 0, none⟩) n cap) n zs) (hg : W2.grownBy w5 row) (hz : zs = (xs ++ ys).map fun x => Value.int .i64 x) (hrow : row = v.ownBlock) (hn : n = (xs ++ ys).length) :
    IntsE W0.heap.size w5 (.slice (some ⟨g, 0, none⟩) n cap) (xs ++ ys) [g] ∧ Below W0.heap.size W0 w5 := by
  subst hz hrow
  have hs := hB.size
  have hs2 := hB2.size
  refine ⟨⟨?_, rfl⟩, (hB.trans (hB2.mono hs)).grown hg (by omega) fun k hk => ((ints_ok _).lt hE k (by rw [hE.2, hk]; simp)).1⟩
  rw [← hn, ints_flat]
  exact hown
theorem news_ints {w : World} {g : Nat} {xs : List Int} (h : ∀ (t : Nat) u, xs[t]? = some u → w.cell? ⟨g, t, none⟩ = some (.int .i64 u)) : ∀ j u, (xs.map fun x => Value.int .i64 x)[j]? = some u → w.cell? ((⟨g, 0, none⟩ : Addr).add j) = some u := by
  intro j u hu
  have e : (⟨g, 0, none⟩ : Addr).add j = ⟨g, j, none⟩ := by unfold Addr.add; split <;> simp_all
  rw [e]
  rw [List.getElem?_map, Option.map_eq_some_iff] at hu
  obtain ⟨x, hx, rfl⟩ := hu
  exact h j x hx
theorem ones_ints (xs : List Int) : ∀ u ∈ (xs.map fun x => Value.int .i64 x), u.oneCell' = true := by
  intro u hu
  obtain ⟨x, _, rfl⟩ := List.mem_map.1 hu
  rfl

set_option maxHeartbeats 12800000 in
set_option maxRecDepth 100000 in
theorem impl_moveNumbers {b : Bool} {x y : Int × Int} {r q : List Int} {i j : Int} {s ga gc gr gi gp kp g2 k2 g3 k3 g4 k4 gj kj n ka kc kr ki : Nat} (stack start : Int) (w : World) (hs : s < n) (hn : n ≤ 1000)
    (h : LiesAt w b x y r q i j s ga gc gr gi gp kp g2 k2 g3 k3 g4 k4 gj kj) (hr : r.length ≤ 81) (hq : q.length ≤ 81) (hr0 : 0 < r.length) (hq0 : 0 < q.length) :
    Calls Tryd.prog 22 #[.agg #[.int .i64 stack, .int .i64 start, .slice (some ⟨ga, 0, none⟩) n ka, .slice (some ⟨gc, 0, none⟩) n kc, .slice (some ⟨gr, 0, none⟩) n kr, .slice (some ⟨gi, 0, none⟩) n ki], .int .i64 (s : Int)] w
      fun e w' => ∃ g m cap, e = .returned (.slice (some ⟨g, 0, none⟩) m cap) ∧ ([x.1, x.2, y.1, y.2] ++ (r ++ (q ++ [i, j]))).length = m ∧ g < w'.heap.size ∧ (∀ (t : Nat) u, ([x.1, x.2, y.1, y.2] ++ (r ++ (q ++ [i, j])))[t]? = some u → w'.cell? ⟨g, t, none⟩ = some (.int .i64 u)) ∧ Below w.heap.size w w' := by
  obtain ⟨i0, hi, hz0, hz1, hz2⟩ := info_parts toInfo_i64
  have x1 := Bx.new w 32 #[.int .i64 stack, .int .i64 start, .slice (some ⟨ga, 0, none⟩) n ka, .slice (some ⟨gc, 0, none⟩) n kc, .slice (some ⟨gr, 0, none⟩) n kr, .slice (some ⟨gi, 0, none⟩) n ki]
  have hB0 := (Below.refl w.heap.size w).alloc (Nat.le_refl _) (.cells #[.int .i64 stack, .int .i64 start, .slice (some ⟨ga, 0, none⟩) n ka, .slice (some ⟨gc, 0, none⟩) n kc, .slice (some ⟨gr, 0, none⟩) n kr, .slice (some ⟨gi, 0, none⟩) n ki] 32)
  have hL0 := h.later hB0
  obtain ⟨W0, hW0⟩ : ∃ W0, W0 = w.alloc (.cells #[.int .i64 stack, .int .i64 start, .slice (some ⟨ga, 0, none⟩) n ka, .slice (some ⟨gc, 0, none⟩) n kc, .slice (some ⟨gr, 0, none⟩) n kr, .slice (some ⟨gi, 0, none⟩) n ki] 32) := ⟨_, rfl⟩
  rw [← hW0] at x1 hB0 hL0
  have HW0 := Lib.hid hW0
  have HL := Lib.hid hL0
  have HB0 := Lib.hid hB0
  have hszW := hB0.size
  obtain ⟨rl, hrl⟩ : ∃ m, m = r.length := ⟨_, rfl⟩
  obtain ⟨ql, hql⟩ : ∃ m, m = q.length := ⟨_, rfl⟩
  have t3 := hL0.cc
  have X1 := Lib.hid x1
  obtain ⟨c0, c1, c2, c3, c4, c5, cl⟩ := id x1.all6
  obtain ⟨L, hLL⟩ : ∃ L, L = [x.1, x.2, y.1, y.2] ++ (r ++ (q ++ [i, j])) := ⟨_, rfl⟩
  rw [← hLL]
  have HLL := Lib.hid hLL
  clear hW0 h hL0 hB0 x1 hLL
  go_enter Tryd.func22, Tryd.ntmps22
  go_upto_region 1 with fail
  rw [← HW0.out]
  go_wp2
  clear c0 c1 c2 c3 c4 c5 t3
  go_loopw [5, 16] (fun v k wr => ∃ (m : Nat) (bs : List Nat), m ≤ 2 ∧ k = .int .i64 m ∧ Hid (IntsE W0.heap.size wr v ([x.1, x.2, y.1, y.2].take (2 * m)) bs) ∧ Hid (Below W0.heap.size W0 wr) ∧ W0.heap.size ≤ wr.heap.size) (fun _ k _ => 2 - (intOf k).toNat)
  case atStart => exact ⟨0, [], Nat.zero_le _, rfl, ⟨by simpa using World.ownsRow_nil _ _ _ _, rfl⟩, Below.refl _ _, Nat.le_refl _⟩
  case round =>
    obtain ⟨m, bs, hm, rfl, HE, HB, hsz⟩ := hrel
    have hL := HL.out.later HB.out
    by_cases hlt : m < 2
    · have t0 := hL.p0
      have t1 := hL.p1
      have t2 := hL.p2
      have t3 := hL.p3
      clear hL
      rcases (show m = 0 ∨ m = 1 by omega) with rfl | rfl
      · have HEl := Lib.hid (fun W2 (hW : Below wr.heap.size wr W2) => (ints_ok _).later HE.out hW)
        have HG := Lib.hid (fun (W2 : World) hW => fun (w5 : World) (g n cap : Nat) (zs : List Value) (row : Option Nat) => grow_ints (ys := [x.1, x.2]) (W2 := W2) (w5 := w5) (g := g) (n := n) (cap := cap) (zs := zs) (row := row) HE.out HB.out hW)
        go_wp2_with (at_builtin; refine wpList_append_lies _ rfl _ _ 43 rfl W0.heap.size 2 i0 (.int .i64 0) 1 8 Tryd.underlying43 hi hz0 hz1 hz2 rfl (by decide) _ _ _ rfl (HEl.out _ (((Below.refl _ _).alloc (Nat.le_refl _) _).alloc (by simp) _)).1 ⟨_, 0, none⟩ 2 2 [.int .i64 x.1, .int .i64 x.2] rfl rfl (World.news_of_block (new_two _ _ _ _)) (ones_ints [x.1, x.2]) (by decide) ?c1 ?c2 ?c3 _ rfl ?_)
        case c1 => simp [maxLen]
        case c2 => simp
        case c3 => simp; omega
        intro g1 cap1 w5 hown hg5 hat hltg
        obtain ⟨H1, H2⟩ := HG.out _ (((Below.refl _ _).alloc (Nat.le_refl _) _).alloc (by simp) _) _ _ _ _ _ _ hown hg5 (by first | rfl | simp [ints_flat]) rfl (by first | rfl | simp)
        have H1 := Lib.hid H1
        have H2 := Lib.hid H2
        have hs5 := H2.out.size
        clear hown hg5 hat
        go_wp2
        go_roundw
        case rel => exact ⟨1, [g1], by omega, by go_num, H1.out, H2, hs5⟩
        case measure => simp [intOf]
      · have HEl := Lib.hid (fun W2 (hW : Below wr.heap.size wr W2) => (ints_ok _).later HE.out hW)
        have HG := Lib.hid (fun (W2 : World) hW => fun (w5 : World) (g n cap : Nat) (zs : List Value) (row : Option Nat) => grow_ints (ys := [y.1, y.2]) (W2 := W2) (w5 := w5) (g := g) (n := n) (cap := cap) (zs := zs) (row := row) HE.out HB.out hW)
        go_wp2_with (at_builtin; refine wpList_append_lies _ rfl _ _ 43 rfl W0.heap.size 2 i0 (.int .i64 0) 1 8 Tryd.underlying43 hi hz0 hz1 hz2 rfl (by decide) _ _ _ rfl (HEl.out _ (((Below.refl _ _).alloc (Nat.le_refl _) _).alloc (by simp) _)).1 ⟨_, 0, none⟩ 2 2 [.int .i64 y.1, .int .i64 y.2] rfl rfl (World.news_of_block (new_two _ _ _ _)) (ones_ints [y.1, y.2]) (by decide) ?c1 ?c2 ?c3 _ rfl ?_)
        case c1 => simp [maxLen]
        case c2 => simp
        case c3 => simp; omega
        intro g1 cap1 w5 hown hg5 hat hltg
        obtain ⟨H1, H2⟩ := HG.out _ (((Below.refl _ _).alloc (Nat.le_refl _) _).alloc (by simp) _) _ _ _ _ _ _ hown hg5 (by first | rfl | simp [ints_flat]) rfl (by first | rfl | simp)
        have H1 := Lib.hid H1
        have H2 := Lib.hid H2
        have hs5 := H2.out.size
        clear hown hg5 hat
        go_wp2
        go_roundw
        case rel => exact ⟨2, [g1], by omega, by go_num, H1.out, H2, hs5⟩
        case measure => simp [intOf]
    · have e : m = 2 := by omega
      subst e
      have hv := HE.out
      simp only [show 2 * 2 = 4 from rfl, List.take_succ_cons, List.take_zero] at hv
      obtain ⟨V, cv, rfl⟩ := RowE.slice hv
      have HV := Lib.hid hv
      obtain ⟨c0, c1, c2, c3, c4, c5, cl'⟩ := id (X1.out.later HB.out).all6
      have t3 := hL.cr
      clear HE hv hL
      go_wp2
      clear c0 c1 c2 c3 c4 c5 t3
      go_loopw [5, 34] (fun v k wr => ∃ (m : Nat) (l : List Int) (bs : List Nat), m ≤ 2 ∧ k = .int .i64 m ∧ l = (([r, q] : List (List Int)).take m).flatten ∧ Hid (IntsE W0.heap.size wr v ([x.1, x.2, y.1, y.2] ++ l) bs) ∧ Hid (Below W0.heap.size W0 wr) ∧ W0.heap.size ≤ wr.heap.size) (fun _ k _ => 2 - (intOf k).toNat)
      case atStart => exact ⟨0, [], _, Nat.zero_le _, rfl, rfl, HV, HB, hsz⟩
      case round =>
        obtain ⟨m, l, bs, hm, rfl, hl, HE, HB, hsz2⟩ := hrel
        have hL := HL.out.later HB.out
        by_cases hlt : m < 2
        · rcases (show m = 0 ∨ m = 1 by omega) with rfl | rfl
          all_goals (simp only [List.take_zero, List.take_succ_cons, List.flatten_nil, List.flatten_cons, List.append_nil] at hl; subst hl)
          · have HEl := Lib.hid (fun W2 (hW : Below wr.heap.size wr W2) => (ints_ok _).later HE.out hW)
            have HG := Lib.hid (fun (w5 : World) (g n cap : Nat) (zs : List Value) (row : Option Nat) => grow_ints (ys := r) (W2 := wr) (w5 := w5) (g := g) (n := n) (cap := cap) (zs := zs) (row := row) HE.out HB.out (Below.refl _ _))
            have HN := Lib.hid (news_ints hL.rc)
            have tc := hL.r0
            clear hL
            go_wp2_with (at_builtin; refine wpList_append_lies _ rfl _ _ 43 rfl W0.heap.size 2 i0 (.int .i64 0) 1 8 Tryd.underlying43 hi hz0 hz1 hz2 rfl (by decide) _ _ _ rfl HE.out.1 ⟨g3, 0, none⟩ r.length _ _ rfl (by rw [List.length_map, Nat.mul_one]) HN.out (ones_ints r) ?c0 ?c1 ?c2 ?c3 _ rfl ?_)
            case c0 => assumption
            case c1 => simp [maxLen]; omega
            case c2 => simp; omega
            case c3 => exact hsz2
            intro g1 cap1 w5 hown hg5 hat hltg
            obtain ⟨H1, H2⟩ := HG.out _ _ _ _ _ _ hown hg5 (by simp [ints_flat]) (by first | rfl | simp) (by simp; try omega)
            have H1 := Lib.hid H1
            have H2 := Lib.hid H2
            have hs5 := H2.out.size
            clear hown hg5 hat
            go_wp2
            go_roundw
            case rel => refine ⟨_, _, _, _, _, _, _, _, _, _, ?_, rfl⟩; exact ⟨1, _, [g1], by omega, by go_num, rfl, Lib.hid (by simpa using H1.out), H2, hs5⟩
            case measure => simp [intOf]
          · have HEl := Lib.hid (fun W2 (hW : Below wr.heap.size wr W2) => (ints_ok _).later HE.out hW)
            have HG := Lib.hid (fun (w5 : World) (g n cap : Nat) (zs : List Value) (row : Option Nat) => grow_ints (ys := q) (W2 := wr) (w5 := w5) (g := g) (n := n) (cap := cap) (zs := zs) (row := row) HE.out HB.out (Below.refl _ _))
            have HN := Lib.hid (news_ints hL.qc)
            have tc := hL.r1
            clear hL
            go_wp2_with (at_builtin; refine wpList_append_lies _ rfl _ _ 43 rfl W0.heap.size 2 i0 (.int .i64 0) 1 8 Tryd.underlying43 hi hz0 hz1 hz2 rfl (by decide) _ _ _ rfl HE.out.1 ⟨g4, 0, none⟩ q.length _ _ rfl (by rw [List.length_map, Nat.mul_one]) HN.out (ones_ints q) ?c0 ?c1 ?c2 ?c3 _ rfl ?_)
            case c0 => assumption
            case c1 => simp [maxLen]; omega
            case c2 => simp; omega
            case c3 => exact hsz2
            intro g1 cap1 w5 hown hg5 hat hltg
            obtain ⟨H1, H2⟩ := HG.out _ _ _ _ _ _ hown hg5 (by simp [ints_flat]) (by first | rfl | simp) (by simp; try omega)
            have H1 := Lib.hid H1
            have H2 := Lib.hid H2
            have hs5 := H2.out.size
            clear hown hg5 hat
            go_wp2
            go_roundw
            case rel => refine ⟨_, _, _, _, _, _, _, _, _, _, ?_, rfl⟩; exact ⟨2, _, [g1], by omega, by go_num, rfl, Lib.hid (by simpa using H1.out), H2, hs5⟩
            case measure => simp [intOf]
        · have e : m = 2 := by omega
          subst e
          simp only [List.take_zero, List.take_succ_cons, List.flatten_nil, List.flatten_cons, List.append_nil] at hl
          subst hl
          have hv := HE.out
          obtain ⟨V2, cv2, rfl⟩ := RowE.slice hv
          have HG := Lib.hid (fun (w5 : World) (g n cap : Nat) (zs : List Value) (row : Option Nat) => grow_ints (ys := [i, j]) (W2 := wr) (w5 := w5) (g := g) (n := n) (cap := cap) (zs := zs) (row := row) HE.out HB.out (Below.refl _ _))
          have HN := Lib.hid (news_ints (g := gj) (w := wr) (xs := [i, j]) (by
            intro t u hu
            match t, hu with
            | 0, hu => rw [← Option.some.inj hu]; exact hL.i0
            | 1, hu => rw [← Option.some.inj hu]; exact hL.i1))
          obtain ⟨c0, c1, c2, c3, c4, c5, cl'⟩ := id (X1.out.later HB.out).all6
          have tc := hL.ci
          clear hL hv
          go_wp2_with (at_builtin; refine wpList_append_lies _ rfl _ _ 43 rfl W0.heap.size 2 i0 (.int .i64 0) 1 8 Tryd.underlying43 hi hz0 hz1 hz2 rfl (by decide) _ _ _ rfl HE.out.1 ⟨gj, 0, none⟩ 2 _ _ rfl (by rfl) HN.out (ones_ints [i, j]) (by decide) ?c1 ?c2 ?c3 _ rfl ?_)
          case c1 => simp [maxLen]; omega
          case c2 => simp; omega
          case c3 => exact hsz2
          intro g1 cap1 w5 hown hg5 hat hltg
          obtain ⟨H1, H2⟩ := HG.out _ _ _ _ _ _ hown hg5 (by simp [ints_flat]) (by first | rfl | simp) (by simp; try omega)
          have H1 := Lib.hid H1
          have H2 := Lib.hid H2
          clear hown hg5 hat c0 c1 c2 c3 c4 c5 tc
          go_wp2
          go_ret
          refine ⟨g1, _, cap1, rfl, ?_, hltg, fun t u hu => IntsE.cell' H1.out (by rw [HLL.out] at hu; simpa using hu), HB0.out.trans (H2.out.mono HB0.out.size)⟩
          rw [HLL.out]; simp; try omega
end Go.Proofs.YtglbmmgancecnaaDoor
