/- Checkers that own their memory: eqChecker, markChecker, heldChecker. -/
import Derived.Test.YticmekdfdilcpaaMany
namespace Go.Proofs.Yticmekdfdilcpaa
open Go.RowKit

structure Ck where
  stack : Int
  start : Int
  accept : List Bool
  call : List (List (Int × Int))
  ret : List (List (List Int))
  inner : List (List Int)

def CkE (base : Nat) : EP Ck := fun w v c bs => ∃ va vc vr vi b1 b2 b3 b4, v = .agg #[.int .i64 c.stack, .int .i64 c.start, va, vc, vr, vi] ∧
  BoolsE base w va c.accept b1 ∧ Push2E base w vc c.call b2 ∧ Ints3E base w vr c.ret b3 ∧ Ints2E base w vi c.inner b4 ∧ bs = b1 ++ (b2 ++ (b3 ++ b4)) ∧ bs.Nodup

theorem ck_ok (base : Nat) : EP.Ok base (CkE base) where
  kept := by
    rintro w w' v c bs ⟨va, vc, vr, vi, b1, b2, b3, b4, rfl, h1, h2, h3, h4, rfl, hn⟩ hs
    exact ⟨va, vc, vr, vi, b1, b2, b3, b4, rfl, (bools_ok base).kept h1 (fun b hb => hs b (by simp [hb])), (push2_ok base).kept h2 (fun b hb => hs b (by simp [hb])), (ints3_ok base).kept h3 (fun b hb => hs b (by simp [hb])), (ints2_ok base).kept h4 (fun b hb => hs b (by simp [hb])), rfl, hn⟩
  lt := by
    rintro w v c bs ⟨va, vc, vr, vi, b1, b2, b3, b4, rfl, h1, h2, h3, h4, rfl, hn⟩ b hb
    simp only [List.mem_append] at hb
    rcases hb with hb | hb | hb | hb
    · exact (bools_ok base).lt h1 b hb
    · exact (push2_ok base).lt h2 b hb
    · exact (ints3_ok base).lt h3 b hb
    · exact (ints2_ok base).lt h4 b hb
  nodup := by rintro w v c bs ⟨va, vc, vr, vi, b1, b2, b3, b4, rfl, h1, h2, h3, h4, rfl, hn⟩; exact hn

theorem CkE.form {base : Nat} {w : World} {v : Value} {c : Ck} {bs : List Nat} (h : CkE base w v c bs) : ∃ (a : Option Addr) (na ca : Nat) (b : Option Addr) (nb cb : Nat) (r : Option Addr) (nr cr : Nat) (i : Option Addr) (ni ci : Nat),
    v = .agg #[.int .i64 c.stack, .int .i64 c.start, .slice a na ca, .slice b nb cb, .slice r nr cr, .slice i ni ci] := by
  obtain ⟨va, vc, vr, vi, _, _, _, _, rfl, h1, h2, h3, h4, _⟩ := h
  obtain ⟨A, x, rfl⟩ := RowE.slice h1
  obtain ⟨B, y, rfl⟩ := ManyE.slice h2
  obtain ⟨R, z, rfl⟩ := ManyE.slice h3
  obtain ⟨I, u, rfl⟩ := ManyE.slice h4
  exact ⟨A, _, x, B, _, y, R, _, z, I, _, u, rfl⟩
def szC (c : Ck) : Nat := c.accept.length + (szL lenP c.call + (szL (szL lenI) c.ret + szL lenI c.inner))
structure BdC (c : Ck) : Prop where
  accept : Bd1 c.accept
  call : Bd2 c.call
  ret : Bd3 c.ret
  inner : Bd2 c.inner
  sum : szC c ≤ 2100000

/-- A box of six cells. -/
structure Box6 (W : World) (B : Nat) (v0 v1 v2 v3 v4 v5 : Value) : Prop where
  c0 : W.cell? ⟨B, 0, none⟩ = some v0
  c1 : W.cell? ⟨B, 1, none⟩ = some v1
  c2 : W.cell? ⟨B, 2, none⟩ = some v2
  c3 : W.cell? ⟨B, 3, none⟩ = some v3
  c4 : W.cell? ⟨B, 4, none⟩ = some v4
  c5 : W.cell? ⟨B, 5, none⟩ = some v5
  lt : B < W.heap.size
theorem Box6.same {W W' : World} {B : Nat} {v0 v1 v2 v3 v4 v5 : Value} (h : Box6 W B v0 v1 v2 v3 v4 v5) (hs : W'.heap[B]? = W.heap[B]?) : Box6 W' B v0 v1 v2 v3 v4 v5 := by
  have k := fun o => World.cell?_of_block (w := W) (w' := W') (a := ⟨B, o, none⟩) hs
  refine ⟨(k 0).trans h.c0, (k 1).trans h.c1, (k 2).trans h.c2, (k 3).trans h.c3, (k 4).trans h.c4, (k 5).trans h.c5, ?_⟩
  have h1 := h.lt
  rw [Array.getElem?_eq_getElem h1] at hs
  exact (Array.getElem?_eq_some_iff.1 hs).1
theorem Box6.later {W W' : World} {B : Nat} {v0 v1 v2 v3 v4 v5 : Value} (h : Box6 W B v0 v1 v2 v3 v4 v5) (hb : Below W.heap.size W W') : Box6 W' B v0 v1 v2 v3 v4 v5 := h.same (hb.block B h.lt)
theorem Box6.off {W W' : World} {B : Nat} {v0 v1 v2 v3 v4 v5 : Value} {bs : List Nat} (h : Box6 W B v0 v1 v2 v3 v4 v5) (ht : Turned bs W W') (hB : B ∉ bs) : Box6 W' B v0 v1 v2 v3 v4 v5 := h.same (ht.block B h.lt hB)
theorem Box6.new (W : World) (v0 v1 v2 v3 v4 v5 : Value) (t : TypeId) : Box6 (W.alloc (.cells #[v0, v1, v2, v3, v4, v5] t)) W.heap.size v0 v1 v2 v3 v4 v5 := by
  refine ⟨?_, ?_, ?_, ?_, ?_, ?_, by simp⟩ <;> simp [go_sem]

set_option maxHeartbeats 3200000 in
set_option maxRecDepth 100000 in
theorem eq_checker {base base' : Nat} {v v' : Value} {c : Ck} {bs bs' : List Nat} (w : World) (hc : BdC c) (ha : CkE base w v c bs) (hb : CkE base' w v' c bs') :
    Calls Try.prog 16 #[v, v'] w (SeenPost (.bool true) w) := by
  obtain ⟨va, vc, vr, vi, b1, b2, b3, b4, rfl, h1, h2, h3, h4, _, _⟩ := ha
  obtain ⟨va', vc', vr', vi', b1', b2', b3', b4', rfl, h1', h2', h3', h4', _, _⟩ := hb
  have q1 := Lib.hid fun (W : World) (hw : Below w.heap.size w W) => eq_bools W hc.accept ((bools_ok base).later h1 hw) ((bools_ok base').later h1' hw)
  have q2 := Lib.hid fun (W : World) (hw : Below w.heap.size w W) => eq_pushes2 W hc.call ((push2_ok base).later h2 hw) ((push2_ok base').later h2' hw)
  have q3 := Lib.hid fun (W : World) (hw : Below w.heap.size w W) => eq_ints3 W hc.ret ((ints3_ok base).later h3 hw) ((ints3_ok base').later h3' hw)
  have q4 := Lib.hid fun (W : World) (hw : Below w.heap.size w W) => eq_ints2 W hc.inner ((ints2_ok base).later h4 hw) ((ints2_ok base').later h4' hw)
  generalize c.stack = k0
  generalize c.start = k1
  have hbx := (Box6.new w (.int .i64 k0) (.int .i64 k1) va vc vr vi 46).later ((Below.refl _ _).alloc (Nat.le_refl _) (.cells #[.int .i64 k0, .int .i64 k1, va', vc', vr', vi'] 46))
  have hbx' := Box6.new (w.alloc (.cells #[.int .i64 k0, .int .i64 k1, va, vc, vr, vi] 46)) (.int .i64 k0) (.int .i64 k1) va' vc' vr' vi' 46
  rw [World.size_alloc] at hbx'
  have hB : Below w.heap.size w ((w.alloc (.cells #[.int .i64 k0, .int .i64 k1, va, vc, vr, vi] 46)).alloc (.cells #[.int .i64 k0, .int .i64 k1, va', vc', vr', vi'] 46)) := ((Below.refl _ _).alloc (Nat.le_refl _) _).alloc (by simp) _
  clear h1 h2 h3 h4 h1' h2' h3' h4' hc
  go_enter Try.func16, Try.ntmps16
  go_wp2_with fail
  refine (q1.out _ hB).mono ?_
  rintro e w1 ⟨rfl, hb1⟩
  have hbx1 := hbx.later hb1
  have hbx1' := hbx'.later hb1
  have hB1 := hB.trans (hb1.mono hB.size)
  obtain ⟨c0, c1, c2, c3, c4, c5, cl⟩ := hbx1
  obtain ⟨d0, d1, d2, d3, d4, d5, dl⟩ := hbx1'
  go_wp2_with fail
  refine (q2.out _ hB1).mono ?_
  rintro e w2 ⟨rfl, hb2⟩
  obtain ⟨c0, c1, c2, c3, c4, c5, cl⟩ := (hbx.later hb1).later hb2
  obtain ⟨d0, d1, d2, d3, d4, d5, dl⟩ := (hbx'.later hb1).later hb2
  have hB2 := hB1.trans (hb2.mono hB1.size)
  go_wp2_with fail
  refine (q3.out _ hB2).mono ?_
  rintro e w3 ⟨rfl, hb3⟩
  obtain ⟨c0, c1, c2, c3, c4, c5, cl⟩ := ((hbx.later hb1).later hb2).later hb3
  obtain ⟨d0, d1, d2, d3, d4, d5, dl⟩ := ((hbx'.later hb1).later hb2).later hb3
  have hB3 := hB2.trans (hb3.mono hB2.size)
  go_wp2_with fail
  refine (q4.out _ hB3).mono ?_
  rintro e w4 ⟨rfl, hb4⟩
  have hB4 := hB3.trans (hb4.mono hB3.size)
  go_wp2
  go_ret
  exact ⟨rfl, hB4⟩

def mkC (k : Nat) (c : Ck) : Ck :=
  { stack := c.stack, start := c.start, accept := mkB k c.accept, call := mkP2 (k + c.accept.length) c.call, ret := mkI3 (k + c.accept.length + szL lenP c.call) c.ret,
    inner := mkI2 (k + c.accept.length + szL lenP c.call + szL (szL lenI) c.ret) c.inner }

set_option maxHeartbeats 3200000 in
set_option maxRecDepth 100000 in
theorem mark_checker {base : Nat} {v : Value} {c : Ck} {bs : List Nat} (k0 : Nat) (w : World) (hc : BdC c) (hk : k0 ≤ 4000000) (ha : CkE base w v c bs) :
    Calls Try.prog 17 #[v, .int .i64 (k0 : Int)] w (MarkPost (CkE base) v (mkC k0 c) bs (k0 + szC c) w) := by
  have hlt := (ck_ok base).lt ha
  obtain ⟨va, vc, vr, vi, b1, b2, b3, b4, rfl, h1, h2, h3, h4, hbs, hn⟩ := ha
  have hsum := hc.sum
  rw [szC] at hsum
  obtain ⟨k1, hk1⟩ : ∃ k1, k1 = k0 + c.accept.length := ⟨_, rfl⟩
  obtain ⟨k2, hk2⟩ : ∃ k2, k2 = k1 + szL lenP c.call := ⟨_, rfl⟩
  obtain ⟨k3, hk3⟩ : ∃ k3, k3 = k2 + szL (szL lenI) c.ret := ⟨_, rfl⟩
  obtain ⟨k4, hk4⟩ : ∃ k4, k4 = k3 + szL lenI c.inner := ⟨_, rfl⟩
  have b1s : ∀ b ∈ b1, b < w.heap.size := fun b hb => (hlt b (by rw [hbs]; simp [hb])).2
  have b2s : ∀ b ∈ b2, b < w.heap.size := fun b hb => (hlt b (by rw [hbs]; simp [hb])).2
  have b3s : ∀ b ∈ b3, b < w.heap.size := fun b hb => (hlt b (by rw [hbs]; simp [hb])).2
  have b4s : ∀ b ∈ b4, b < w.heap.size := fun b hb => (hlt b (by rw [hbs]; simp [hb])).2
  rw [hbs] at hn
  have n1 := List.nodup_append.1 hn
  have n2 := List.nodup_append.1 n1.2.1
  have n3 := List.nodup_append.1 n2.2.1
  have d12 : ∀ b ∈ b2, b ∉ b1 := fun b hb hb' => n1.2.2 b hb' b (by simp [hb]) rfl
  have d13 : ∀ b ∈ b3, b ∉ b1 := fun b hb hb' => n1.2.2 b hb' b (by simp [hb]) rfl
  have d14 : ∀ b ∈ b4, b ∉ b1 := fun b hb hb' => n1.2.2 b hb' b (by simp [hb]) rfl
  have d23 : ∀ b ∈ b3, b ∉ b2 := fun b hb hb' => n2.2.2 b hb' b (by simp [hb]) rfl
  have d24 : ∀ b ∈ b4, b ∉ b2 := fun b hb hb' => n2.2.2 b hb' b (by simp [hb]) rfl
  have d34 : ∀ b ∈ b4, b ∉ b3 := fun b hb hb' => n3.2.2 b hb' b hb rfl
  have d21 : ∀ b ∈ b1, b ∉ b2 := fun b hb hb' => d12 b hb' hb
  have d31 : ∀ b ∈ b1, b ∉ b3 := fun b hb hb' => d13 b hb' hb
  have d41 : ∀ b ∈ b1, b ∉ b4 := fun b hb hb' => d14 b hb' hb
  have d32 : ∀ b ∈ b2, b ∉ b3 := fun b hb hb' => d23 b hb' hb
  have d42 : ∀ b ∈ b2, b ∉ b4 := fun b hb hb' => d24 b hb' hb
  have d43 : ∀ b ∈ b3, b ∉ b4 := fun b hb hb' => d34 b hb' hb
  have q1 := Lib.hid fun (W : World) (h : BoolsE base W va c.accept b1) => mark_bools k0 W hc.accept (by omega) h
  have q2 := Lib.hid fun (W : World) (h : Push2E base W vc c.call b2) => mark_pushes2 k1 W hc.call (by omega) h
  have q3 := Lib.hid fun (W : World) (h : Ints3E base W vr c.ret b3) => mark_ints3 k2 W hc.ret (by omega) h
  have q4 := Lib.hid fun (W : World) (h : Ints2E base W vi c.inner b4) => mark_ints2 k3 W hc.inner (by omega) h
  rw [← hk1] at q1
  rw [← hk2] at q2
  rw [← hk3] at q3
  rw [← hk4] at q4
  have hmk : mkC k0 c = { stack := c.stack, start := c.start, accept := mkB k0 c.accept, call := mkP2 k1 c.call, ret := mkI3 k2 c.ret, inner := mkI2 k3 c.inner } := by rw [mkC, hk3, hk2, hk1]
  have hke : k0 + szC c = k4 := by rw [szC, hk4, hk3, hk2, hk1]; omega
  rw [hmk, hke]
  have l1 : k1 ≤ 8388608 := by omega
  have l2 : k2 ≤ 8388608 := by omega
  have l3 : k3 ≤ 8388608 := by omega
  have l4 : k4 ≤ 8388608 := by omega
  have hbx := Box6.new w (.int .i64 c.stack) (.int .i64 c.start) va vc vr vi 46
  have hB : Below w.heap.size w (w.alloc (.cells #[.int .i64 c.stack, .int .i64 c.start, va, vc, vr, vi] 46)) := (Below.refl _ _).alloc (Nat.le_refl _) _
  have e1 := (bools_ok base).later h1 hB
  have e2 := (push2_ok base).later h2 hB
  have e3 := (ints3_ok base).later h3 hB
  have e4 := (ints2_ok base).later h4 hB
  have x1 : w.heap.size ∉ b1 := fun h => by have := b1s _ h; omega
  have x2 : w.heap.size ∉ b2 := fun h => by have := b2s _ h; omega
  have x3 : w.heap.size ∉ b3 := fun h => by have := b3s _ h; omega
  have T0 : Turned bs w (w.alloc (.cells #[.int .i64 c.stack, .int .i64 c.start, va, vc, vr, vi] 46)) := Turned.of_below hB
  have m1 : ∀ b ∈ b1, b ∈ bs := fun b hb => by rw [hbs]; simp [hb]
  have m2 : ∀ b ∈ b2, b ∈ bs := fun b hb => by rw [hbs]; simp [hb]
  have m3 : ∀ b ∈ b3, b ∈ bs := fun b hb => by rw [hbs]; simp [hb]
  have m4 : ∀ b ∈ b4, b ∈ bs := fun b hb => by rw [hbs]; simp [hb]
  have Hbs := Lib.hid hbs
  have Hn := Lib.hid hn
  have D := Lib.hid (And.intro d12 (And.intro d13 (And.intro d14 (And.intro d23 (And.intro d24 (And.intro d34 (And.intro d21 (And.intro d31 (And.intro d41 (And.intro d32 (And.intro d42 d43)))))))))))
  have M := Lib.hid (And.intro m1 (And.intro m2 (And.intro m3 m4)))
  clear hlt h1 h2 h3 h4 hbs hn n1 n2 n3 hsum hk1 hk2 hk3 hk4 hmk hke b1s b2s b3s b4s d12 d13 d14 d23 d24 d34 d21 d31 d41 d32 d42 d43 m1 m2 m3 m4
  obtain ⟨p0, p1, p2, p3, p4, p5, pl⟩ := id hbx
  go_enter Try.func17, Try.ntmps17
  go_wp2_with fail
  refine (q1.out _ e1).mono ?_
  rintro e w1 ⟨rfl, f1, t1⟩
  have f2 := (push2_ok base).off e2 t1 D.out.1
  have f3 := (ints3_ok base).off e3 t1 D.out.2.1
  have f4 := (ints2_ok base).off e4 t1 D.out.2.2.1
  have hbx1 := hbx.off t1 x1
  clear p0 p1 p2 p3 p4 p5 pl
  obtain ⟨p0, p1, p2, p3, p4, p5, pl⟩ := id hbx1
  go_wp2_with fail
  refine (q2.out _ f2).mono ?_
  rintro e w2 ⟨rfl, g2, t2⟩
  have g1 := (bools_ok base).off f1 t2 D.out.2.2.2.2.2.2.1
  have g3 := (ints3_ok base).off f3 t2 D.out.2.2.2.1
  have g4 := (ints2_ok base).off f4 t2 D.out.2.2.2.2.1
  have hbx2 := hbx1.off t2 x2
  clear p0 p1 p2 p3 p4 p5 pl
  obtain ⟨p0, p1, p2, p3, p4, p5, pl⟩ := id hbx2
  go_wp2_with fail
  refine (q3.out _ g3).mono ?_
  rintro e w3 ⟨rfl, i3, t3⟩
  have i1 := (bools_ok base).off g1 t3 D.out.2.2.2.2.2.2.2.1
  have i2 := (push2_ok base).off g2 t3 D.out.2.2.2.2.2.2.2.2.2.1
  have i4 := (ints2_ok base).off g4 t3 D.out.2.2.2.2.2.1
  have hbx3 := hbx2.off t3 x3
  clear p0 p1 p2 p3 p4 p5 pl
  obtain ⟨p0, p1, p2, p3, p4, p5, pl⟩ := id hbx3
  go_wp2_with fail
  refine (q4.out _ i4).mono ?_
  rintro e w4 ⟨rfl, j4, t4⟩
  have j1 := (bools_ok base).off i1 t4 D.out.2.2.2.2.2.2.2.2.1
  have j2 := (push2_ok base).off i2 t4 D.out.2.2.2.2.2.2.2.2.2.2.1
  have j3 := (ints3_ok base).off i3 t4 D.out.2.2.2.2.2.2.2.2.2.2.2
  go_wp2
  go_ret
  exact ⟨rfl, ⟨va, vc, vr, vi, b1, b2, b3, b4, rfl, j1, j2, j3, j4, Hbs.out, by rw [Hbs.out]; exact Hn.out⟩, (((T0.trans (t1.mono M.out.1)).trans (t2.mono M.out.2.1)).trans (t3.mono M.out.2.2.1)).trans (t4.mono M.out.2.2.2)⟩

end Go.Proofs.Yticmekdfdilcpaa
