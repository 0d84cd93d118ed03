/- What lies at a state of a checker; three rows that grow side by side. -/
import Derived.Test.YticmekdfdilcpaaPairM
import Derived.Test.YticmekdfdilcpaaBoxAt
namespace Go.Proofs.Yticmekdfdilcpaa
open Go.RowKit
set_option linter.unusedVariables false

/-- What lies in memory at a state: the cells of its row of moves at calls, at returns, at inner letters. -/
structure StA (w : World) (a : Bool) (cs : List (Int × Int)) (rs : List (List Int)) (ns : List Int) (s ga gc gr gi gp kp g2 k2 gj kj : Nat) : Prop where
  la : ga < w.heap.size
  lc : gc < w.heap.size
  lr : gr < w.heap.size
  li : gi < w.heap.size
  lp : gp < w.heap.size
  l2 : g2 < w.heap.size
  lj : gj < w.heap.size
  ca : w.cell? ⟨ga, s, none⟩ = some (.bool a)
  cc : w.cell? ⟨gc, s, none⟩ = some (.slice (some ⟨gp, 0, none⟩) 2 kp)
  pc : ∀ (k : Nat) p, cs[k]? = some p → w.cell? ⟨gp, k * 2, none⟩ = some (.int .i64 p.1) ∧ w.cell? ⟨gp, k * 2 + 1, none⟩ = some (.int .i64 p.2)
  cr : w.cell? ⟨gr, s, none⟩ = some (.slice (some ⟨g2, 0, none⟩) 2 k2)
  rc : ∀ (k : Nat) r, rs[k]? = some r → ∃ g3 k3, g3 < w.heap.size ∧ w.cell? ⟨g2, k, none⟩ = some (.slice (some ⟨g3, 0, none⟩) r.length k3) ∧ ∀ (x : Nat) z, r[x]? = some z → w.cell? ⟨g3, x, none⟩ = some (.int .i64 z)
  ci : w.cell? ⟨gi, s, none⟩ = some (.slice (some ⟨gj, 0, none⟩) 2 kj)
  ic : ∀ (k : Nat) z, ns[k]? = some z → w.cell? ⟨gj, k, none⟩ = some (.int .i64 z)
theorem heads_of {base : Nat} {w : World} {va vc vr vi : Value} {c : Ck} {b1 b2 b3 b4 : List Nat} (h1 : BoolsE base w va c.accept b1) (h2 : Push2E base w vc c.call b2) (h3 : Ints3E base w vr c.ret b3) (h4 : Ints2E base w vi c.inner b4) (hA : OkC c) :
    ∃ ga ka gc kc gr kr gi ki, va = .slice (some ⟨ga, 0, none⟩) c.accept.length ka ∧ vc = .slice (some ⟨gc, 0, none⟩) c.accept.length kc ∧ vr = .slice (some ⟨gr, 0, none⟩) c.accept.length kr ∧ vi = .slice (some ⟨gi, 0, none⟩) c.accept.length ki := by
  obtain ⟨A, ka, rfl⟩ := RowE.slice h1
  obtain ⟨ga, rfl, _, _⟩ := RowE.head h1 (j := 0) (by have := hA.n1; omega)
  obtain ⟨x2, y2, e2, _⟩ := hA.call 0 hA.n1
  obtain ⟨x3, y3, e3, _⟩ := hA.ret 0 hA.n1
  obtain ⟨x4, y4, e4, _⟩ := hA.inner 0 hA.n1
  obtain ⟨gc, kc, _, _, rfl, _⟩ := h2.at_ (push_ok _) e2
  obtain ⟨gr, kr, _, _, rfl, _⟩ := h3.at_ (ints2_ok _) e3
  obtain ⟨gi, ki, _, _, rfl, _⟩ := h4.at_ (ints_ok _) e4
  exact ⟨ga, ka, gc, kc, gr, kr, gi, ki, rfl, by rw [hA.lc], by rw [hA.lr], by rw [hA.li]⟩
theorem st_at {base : Nat} {w : World} {c : Ck} {b1 b2 b3 b4 : List Nat} {n ga ka gc kc gr kr gi ki : Nat} (h1 : BoolsE base w (.slice (some ⟨ga, 0, none⟩) n ka) c.accept b1) (h2 : Push2E base w (.slice (some ⟨gc, 0, none⟩) n kc) c.call b2) (h3 : Ints3E base w (.slice (some ⟨gr, 0, none⟩) n kr) c.ret b3) (h4 : Ints2E base w (.slice (some ⟨gi, 0, none⟩) n ki) c.inner b4) (hA : OkC c) {s : Nat} (hs : s < c.accept.length) :
    ∃ a cs rs ns gp kp g2 k2 gj kj, c.accept[s]? = some a ∧ c.call[s]? = some cs ∧ c.ret[s]? = some rs ∧ c.inner[s]? = some ns ∧ StA w a cs rs ns s ga gc gr gi gp kp g2 k2 gj kj := by
  obtain ⟨a, ha⟩ : ∃ a, c.accept[s]? = some a := ⟨_, List.getElem?_eq_getElem hs⟩
  obtain ⟨x2, y2, e2, _⟩ := hA.call s hs
  obtain ⟨x3, y3, e3, q3, q3'⟩ := hA.ret s hs
  obtain ⟨x4, y4, e4, _⟩ := hA.inner s hs
  obtain ⟨ga', hv1, la, _⟩ := RowE.head h1 hs
  obtain rfl : ga = ga' := by simpa using hv1
  obtain ⟨gc', _, u2, _, hv2, cc, E2, lc, _⟩ := h2.at_ (push_ok _) e2
  simp only [Value.slice.injEq, Option.some.injEq, Addr.mk.injEq, and_true] at hv2
  obtain ⟨rfl, _⟩ := hv2
  obtain ⟨gr', _, u3, _, hv3, cr, E3, lr, _⟩ := h3.at_ (ints2_ok _) e3
  simp only [Value.slice.injEq, Option.some.injEq, Addr.mk.injEq, and_true] at hv3
  obtain ⟨rfl, _⟩ := hv3
  obtain ⟨gi', _, u4, _, hv4, ci, E4, li, _⟩ := h4.at_ (ints_ok _) e4
  simp only [Value.slice.injEq, Option.some.injEq, Addr.mk.injEq, and_true] at hv4
  obtain ⟨rfl, _⟩ := hv4
  obtain ⟨A2, kp, rfl⟩ := RowE.slice E2
  obtain ⟨gp, rfl, lp, _⟩ := RowE.head E2 (j := 0) (by simp)
  obtain ⟨A3, k2, rfl⟩ := ManyE.slice E3
  obtain ⟨A4, kj, rfl⟩ := RowE.slice E4
  obtain ⟨gj, rfl, lj, _⟩ := RowE.head E4 (j := 0) (by simp)
  obtain ⟨g2, _, _, _, hv5, _, _, l2, _⟩ := E3.at_ (ints_ok _) (j := 0) (x := x3) rfl
  simp only [Value.slice.injEq] at hv5
  obtain ⟨rfl, _⟩ := hv5
  have hst := hA.st1
  have hac : w.cell? ⟨ga, s, none⟩ = some (.bool a) := by
    have := RowE.cell h1 (fun _ => rfl) ha (i := 0) (u := .bool a) rfl
    simpa using this
  refine ⟨a, _, _, _, gp, kp, g2, k2, gj, kj, ha, e2, e3, e4, ⟨la, lc, lr, li, lp, l2, lj, hac, cc, fun k p hp => PushE.cell' E2 hp, cr, fun k r hr => ?_, ci, fun k z hz => IntsE.cell' E4 hz⟩⟩
  obtain ⟨g2', _, u, _, hv6, hc6, E6, _, _⟩ := E3.at_ (ints_ok _) hr
  simp only [Value.slice.injEq, Option.some.injEq, Addr.mk.injEq, and_true] at hv6
  obtain ⟨rfl, _⟩ := hv6
  have hl : 1 ≤ r.length := by
    match k, hr with
    | 0, hr => simp at hr; subst hr; have := (listB_yes q3).1; omega
    | 1, hr => simp at hr; subst hr; have := (listB_yes q3').1; omega
    | k + 2, hr => simp at hr
  obtain ⟨A6, k3, rfl⟩ := RowE.slice E6
  obtain ⟨g3, rfl, l3, _⟩ := RowE.head E6 (j := 0) (by omega)
  exact ⟨g3, k3, l3, hc6, fun x z hz => IntsE.cell' E6 hz⟩

/-- Three rows that grow side by side, in blocks of their own. -/
structure Tri (Z : Nat) (X W : World) (vp vr vi : Value) (xs : List (Int × Int)) (ys : List (List Int)) (zs : List Int) (e1 e2 e3 : List Nat) : Prop where
  p : PushE Z W vp xs e1
  r : Ints2E Z W vr ys e2
  i : IntsE Z W vi zs e3
  d12 : ∀ k ∈ e1, k ∉ e2
  d13 : ∀ k ∈ e1, k ∉ e3
  d23 : ∀ k ∈ e2, k ∉ e3
  below : Below Z X W
theorem Tri.later {Z : Nat} {X W W' : World} {vp vr vi : Value} {xs : List (Int × Int)} {ys : List (List Int)} {zs : List Int} {e1 e2 e3 : List Nat} (h : Tri Z X W vp vr vi xs ys zs e1 e2 e3) (hZ : Z ≤ W.heap.size) (hb : Below W.heap.size W W') : Tri Z X W' vp vr vi xs ys zs e1 e2 e3 :=
  ⟨(push_ok _).later h.p hb, (ints2_ok _).later h.r hb, (ints_ok _).later h.i hb, h.d12, h.d13, h.d23, h.below.trans (hb.mono hZ)⟩
theorem Tri.addP {Z : Nat} {X W w5 : World} {vp vr vi : Value} {xs : List (Int × Int)} {ys : List (List Int)} {zs : List Int} {e1 e2 e3 : List Nat} {n g cap : Nat} {x : Int × Int} (h : Tri Z X W vp vr vi xs ys zs e1 e2 e3) (hZ : Z ≤ W.heap.size) (hn : xs.length = n)
    (hown : w5.ownsRow Z 97 2 (.slice (some ⟨g, 0, none⟩) (n + 1) cap) (n + 1) ((xs.flatMap fun x => [Value.int .i64 x.1, .int .i64 x.2]) ++ [.int .i64 x.1, .int .i64 x.2])) (hg : W.grownBy w5 vp.ownBlock) (hat : vp.ownBlock = some g ∨ g = W.heap.size) :
    Tri Z X w5 (.slice (some ⟨g, 0, none⟩) (n + 1) cap) vr vi (xs ++ [x]) ys zs [g] e2 e3 := by
  have hm : ∀ k, vp.ownBlock = some k → k ∈ e1 := fun k hk => by rw [h.p.2, hk]; simp
  have t2 := fun k hk => (ints2_ok _).lt h.r k hk
  have t3 := fun k hk => (ints_ok _).lt h.i k hk
  refine ⟨⟨?_, rfl⟩, (ints2_ok _).kept h.r fun b hb => hg.block b (t2 b hb).2 (fun e => h.d12 b (hm b e.symm) hb), (ints_ok _).kept h.i fun b hb => hg.block b (t3 b hb).2 (fun e => h.d13 b (hm b e.symm) hb), ?_, ?_, h.d23, h.below.grown hg hZ fun k hk => ((push_ok _).lt h.p k (hm k hk)).1⟩
  · rw [List.length_append, hn, List.flatMap_append]; exact hown
  · intro k hk h2
    rw [List.mem_singleton.1 hk] at h2
    rcases hat with h1 | h1
    · exact h.d12 g (hm g h1) h2
    · have := (t2 g h2).2; omega
  · intro k hk h2
    rw [List.mem_singleton.1 hk] at h2
    rcases hat with h1 | h1
    · exact h.d13 g (hm g h1) h2
    · have := (t3 g h2).2; omega
theorem Tri.addI {Z : Nat} {X W w5 : World} {vp vr vi : Value} {xs : List (Int × Int)} {ys : List (List Int)} {zs : List Int} {e1 e2 e3 : List Nat} {n g cap : Nat} {x : Int} (h : Tri Z X W vp vr vi xs ys zs e1 e2 e3) (hZ : Z ≤ W.heap.size) (hn : zs.length = n)
    (hown : w5.ownsRow Z 2 1 (.slice (some ⟨g, 0, none⟩) (n + 1) cap) (n + 1) ((zs.flatMap fun x => [Value.int .i64 x]) ++ [.int .i64 x])) (hg : W.grownBy w5 vi.ownBlock) (hat : vi.ownBlock = some g ∨ g = W.heap.size) :
    Tri Z X w5 vp vr (.slice (some ⟨g, 0, none⟩) (n + 1) cap) xs ys (zs ++ [x]) e1 e2 [g] := by
  have hm : ∀ k, vi.ownBlock = some k → k ∈ e3 := fun k hk => by rw [h.i.2, hk]; simp
  have t1 := fun k hk => (push_ok _).lt h.p k hk
  have t2 := fun k hk => (ints2_ok _).lt h.r k hk
  refine ⟨(push_ok _).kept h.p fun b hb => hg.block b (t1 b hb).2 (fun e => h.d13 b hb (hm b e.symm)), (ints2_ok _).kept h.r fun b hb => hg.block b (t2 b hb).2 (fun e => h.d23 b hb (hm b e.symm)), ⟨?_, rfl⟩, h.d12, ?_, ?_, h.below.grown hg hZ fun k hk => ((ints_ok _).lt h.i k (hm k hk)).1⟩
  · rw [List.length_append, hn, List.flatMap_append]; exact hown
  · intro k hk h2
    rw [List.mem_singleton.1 h2] at hk
    rcases hat with h1 | h1
    · exact h.d13 g hk (hm g h1)
    · have := (t1 g hk).2; omega
  · intro k hk h2
    rw [List.mem_singleton.1 h2] at hk
    rcases hat with h1 | h1
    · exact h.d23 g hk (hm g h1)
    · have := (t2 g hk).2; omega
theorem Tri.addR {Z : Nat} {X W w5 : World} {vp vr vi u : Value} {xs : List (Int × Int)} {ys : List (List Int)} {zs : List Int} {e1 e2 e3 cs : List Nat} {n g cap : Nat} {y : List Int} {vs : List Value} (h : Tri Z X W vp vr vi xs ys zs e1 e2 e3) (hZ : Z ≤ W.heap.size) (hn : ys.length = n)
    (hu : IntsE Z W u y cs) (hc1 : ∀ k ∈ e1, k ∉ cs) (hc2 : ∀ k ∈ e2, k ∉ cs) (hc3 : ∀ k ∈ e3, k ∉ cs)
    (hrow : W.ownsRow Z 22 1 vr n vs) (hown : w5.ownsRow Z 22 1 (.slice (some ⟨g, 0, none⟩) (n + 1) cap) (n + 1) (vs ++ [u])) (hg : W.grownBy w5 vr.ownBlock) (hat : vr.ownBlock = some g ∨ g = W.heap.size) :
    ∃ e2', Tri Z X w5 vp (.slice (some ⟨g, 0, none⟩) (n + 1) cap) vi xs (ys ++ [y]) zs e1 e2' e3 := by
  have hm : ∀ k, vr.ownBlock = some k → k ∈ e2 := h.r.held.choose_spec.2
  have t1 := fun k hk => (push_ok _).lt h.p k hk
  have t3 := fun k hk => (ints_ok _).lt h.i k hk
  obtain ⟨e2', hS, he⟩ := many_grow (ints_ok _) h.r hn hrow hu hc2 hown hg rfl hat
  have hgg : g ∈ e2 ∨ g = W.heap.size := by rcases hat with h1 | h1; exact .inl (hm g h1); exact .inr h1
  refine ⟨e2', (push_ok _).kept h.p fun b hb => hg.block b (t1 b hb).2 (fun e => h.d12 b hb (hm b e.symm)), hS, (ints_ok _).kept h.i fun b hb => hg.block b (t3 b hb).2 (fun e => h.d23 b (hm b e.symm) hb), ?_, h.d13, ?_, h.below.grown hg hZ fun k hk => ((ints2_ok _).lt h.r k (hm k hk)).1⟩
  · intro k hk h2
    rcases he k h2 with h3 | h3 | h3
    · exact h.d12 k hk h3
    · exact hc1 k hk h3
    · subst h3
      rcases hgg with h4 | h4
      · exact h.d12 _ hk h4
      · have := (t1 _ hk).2; omega
  · intro k h2 hk
    rcases he k h2 with h3 | h3 | h3
    · exact h.d23 k h3 hk
    · exact hc3 k hk h3
    · subst h3
      rcases hgg with h4 | h4
      · exact h.d23 _ h4 hk
      · have := (t3 _ hk).2; omega
/-- Three empty rows. -/
theorem Tri.new (X : World) : Tri X.heap.size X (((X.alloc (.cells #[] 97)).alloc (.cells #[] 22)).alloc (.cells #[] 2)) (.slice (some ⟨X.heap.size, 0, none⟩) 0 0) (.slice (some ⟨X.heap.size + 1, 0, none⟩) 0 0) (.slice (some ⟨X.heap.size + 1 + 1, 0, none⟩) 0 0) [] [] [] [X.heap.size] [X.heap.size + 1] [X.heap.size + 1 + 1] := by
  have x1 := ((Bx.new X 97 #[]).alloc (.cells #[] 22)).alloc (.cells #[] 2)
  have x2 := (Bx.new (X.alloc (.cells #[] 97)) 22 #[]).alloc (.cells #[] 2)
  have x3 := Bx.new ((X.alloc (.cells #[] 97)).alloc (.cells #[] 22)) 2 #[]
  simp only [World.size_alloc] at x2 x3
  refine ⟨rowE_lit 0 x1 (Nat.le_refl _) rfl rfl rfl (by unfold maxLen; omega), ?_, rowE_lit 0 x3 (by omega) rfl rfl rfl (by unfold maxLen; omega), by simp, by simp; omega, by simp, ((((Below.refl _ _).alloc (Nat.le_refl _) _).alloc (by simp) _).alloc (by simp; omega) _)⟩
  refine ⟨[], [], ⟨rfl, .inr ⟨X.heap.size + 1, 0, #[], rfl, by omega, x2, Nat.le_refl _, by unfold maxLen; omega, rfl, rfl⟩⟩, rfl, fun j x u cs h => by simp at h, by simp [Value.ownBlock], by simp⟩
end Go.Proofs.Yticmekdfdilcpaa
