/- Checkers that own their memory: eqChecker, markChecker, heldChecker. -/
import Derived.Test.YtglbmmgancecnaaDoorMany
namespace Go.Proofs.YtglbmmgancecnaaDoor
open Go.RowKit

structure Ck where
  stack : Int
  start : Int
  accept : List Bool
  call : List (List (Int × Int))
  ret : List (List (List Int))
  inner : List (List Int)

def CkE (base : Nat) : EP Ck := fun w v c bs => ∃ va vc vr vi b1 b2 b3 b4, v = .agg #[.int .i64 c.stack, .int .i64 c.start, va, vc, vr, vi] ∧
  BoolsE base w va c.accept b1 ∧ Push2E base w vc c.call b2 ∧ Ints3E base w vr c.ret b3 ∧ Ints2E base w vi c.inner b4 ∧ bs = b1 ++ (b2 ++ (b3 ++ b4)) ∧ bs.Nodup

theorem ck_ok (base : Nat) : EP.Ok base (CkE base) where
  kept := by
    rintro w w' v c bs ⟨va, vc, vr, vi, b1, b2, b3, b4, rfl, h1, h2, h3, h4, rfl, hn⟩ hs
    exact ⟨va, vc, vr, vi, b1, b2, b3, b4, rfl, (bools_ok base).kept h1 (fun b hb => hs b (by simp [hb])), (push2_ok base).kept h2 (fun b hb => hs b (by simp [hb])), (ints3_ok base).kept h3 (fun b hb => hs b (by simp [hb])), (ints2_ok base).kept h4 (fun b hb => hs b (by simp [hb])), rfl, hn⟩
  lt := by
    rintro w v c bs ⟨va, vc, vr, vi, b1, b2, b3, b4, rfl, h1, h2, h3, h4, rfl, hn⟩ b hb
    simp only [List.mem_append] at hb
    rcases hb with hb | hb | hb | hb
    · exact (bools_ok base).lt h1 b hb
    · exact (push2_ok base).lt h2 b hb
    · exact (ints3_ok base).lt h3 b hb
    · exact (ints2_ok base).lt h4 b hb
  nodup := by rintro w v c bs ⟨va, vc, vr, vi, b1, b2, b3, b4, rfl, h1, h2, h3, h4, rfl, hn⟩; exact hn

theorem CkE.form {base : Nat} {w : World} {v : Value} {c : Ck} {bs : List Nat} (h : CkE base w v c bs) : ∃ (a : Option Addr) (na ca : Nat) (b : Option Addr) (nb cb : Nat) (r : Option Addr) (nr cr : Nat) (i : Option Addr) (ni ci : Nat),
    v = .agg #[.int .i64 c.stack, .int .i64 c.start, .slice a na ca, .slice b nb cb, .slice r nr cr, .slice i ni ci] := by
  obtain ⟨va, vc, vr, vi, _, _, _, _, rfl, h1, h2, h3, h4, _⟩ := h
  obtain ⟨A, x, rfl⟩ := RowE.slice h1
  obtain ⟨B, y, rfl⟩ := ManyE.slice h2
  obtain ⟨R, z, rfl⟩ := ManyE.slice h3
  obtain ⟨I, u, rfl⟩ := ManyE.slice h4
  exact ⟨A, _, x, B, _, y, R, _, z, I, _, u, rfl⟩
def szC (c : Ck) : Nat := c.accept.length + (szL lenP c.call + (szL (szL lenI) c.ret + szL lenI c.inner))
structure BdC (c : Ck) : Prop where
  accept : Bd1 c.accept
  call : Bd2 c.call
  ret : Bd3 c.ret
  inner : Bd2 c.inner
  sum : szC c ≤ 2100000

/-- A box of six cells. -/
structure Box6 (W : World) (B : Nat) (v0 v1 v2 v3 v4 v5 : Value) : Prop where
  c0 : W.cell? ⟨B, 0, none⟩ = some v0
  c1 : W.cell? ⟨B, 1, none⟩ = some v1
  c2 : W.cell? ⟨B, 2, none⟩ = some v2
  c3 : W.cell? ⟨B, 3, none⟩ = some v3
  c4 : W.cell? ⟨B, 4, none⟩ = some v4
  c5 : W.cell? ⟨B, 5, none⟩ = some v5
  lt : B < W.heap.size
theorem Box6.same {W W' : World} {B : Nat} {v0 v1 v2 v3 v4 v5 : Value} (h : Box6 W B v0 v1 v2 v3 v4 v5) (hs : W'.heap[B]? = W.heap[B]?) : Box6 W' B v0 v1 v2 v3 v4 v5 := by
  have k := fun o => World.cell?_of_block (w := W) (w' := W') (a := ⟨B, o, none⟩) hs
  refine ⟨(k 0).trans h.c0, (k 1).trans h.c1, (k 2).trans h.c2, (k 3).trans h.c3, (k 4).trans h.c4, (k 5).trans h.c5, ?_⟩
  have h1 := h.lt
  rw [Array.getElem?_eq_getElem h1] at hs
  exact (Array.getElem?_eq_some_iff.1 hs).1
theorem Box6.later {W W' : World} {B : Nat} {v0 v1 v2 v3 v4 v5 : Value} (h : Box6 W B v0 v1 v2 v3 v4 v5) (hb : Below W.heap.size W W') : Box6 W' B v0 v1 v2 v3 v4 v5 := h.same (hb.block B h.lt)
theorem Box6.off {W W' : World} {B : Nat} {v0 v1 v2 v3 v4 v5 : Value} {bs : List Nat} (h : Box6 W B v0 v1 v2 v3 v4 v5) (ht : Turned bs W W') (hB : B ∉ bs) : Box6 W' B v0 v1 v2 v3 v4 v5 := h.same (ht.block B h.lt hB)
theorem Box6.new (W : World) (v0 v1 v2 v3 v4 v5 : Value) (t : TypeId) : Box6 (W.alloc (.cells #[v0, v1, v2, v3, v4, v5] t)) W.heap.size v0 v1 v2 v3 v4 v5 := by
  refine ⟨?_, ?_, ?_, ?_, ?_, ?_, by simp⟩ <;> simp [go_sem]

set_option maxHeartbeats 3200000 in
set_option maxRecDepth 100000 in
theorem eq_checker {base base' : Nat} {v v' : Value} {c : Ck} {bs bs' : List Nat} (w : World) (hc : BdC c) (ha : CkE base w v c bs) (hb : CkE base' w v' c bs') :
    Calls Tryd.prog 8 #[v, v'] w (SeenPost (.bool true) w) := by
  obtain ⟨va, vc, vr, vi, b1, b2, b3, b4, rfl, h1, h2, h3, h4, _, _⟩ := ha
  obtain ⟨va', vc', vr', vi', b1', b2', b3', b4', rfl, h1', h2', h3', h4', _, _⟩ := hb
  have q1 := Lib.hid fun (W : World) (hw : Below w.heap.size w W) => eq_bools W hc.accept ((bools_ok base).later h1 hw) ((bools_ok base').later h1' hw)
  have q2 := Lib.hid fun (W : World) (hw : Below w.heap.size w W) => eq_pushes2 W hc.call ((push2_ok base).later h2 hw) ((push2_ok base').later h2' hw)
  have q3 := Lib.hid fun (W : World) (hw : Below w.heap.size w W) => eq_ints3 W hc.ret ((ints3_ok base).later h3 hw) ((ints3_ok base').later h3' hw)
  have q4 := Lib.hid fun (W : World) (hw : Below w.heap.size w W) => eq_ints2 W hc.inner ((ints2_ok base).later h4 hw) ((ints2_ok base').later h4' hw)
  generalize c.stack = k0
  generalize c.start = k1
  have hbx := (Box6.new w (.int .i64 k0) (.int .i64 k1) va vc vr vi 32).later ((Below.refl _ _).alloc (Nat.le_refl _) (.cells #[.int .i64 k0, .int .i64 k1, va', vc', vr', vi'] 32))
  have hbx' := Box6.new (w.alloc (.cells #[.int .i64 k0, .int .i64 k1, va, vc, vr, vi] 32)) (.int .i64 k0) (.int .i64 k1) va' vc' vr' vi' 32
  rw [World.size_alloc] at hbx'
  have hB : Below w.heap.size w ((w.alloc (.cells #[.int .i64 k0, .int .i64 k1, va, vc, vr, vi] 32)).alloc (.cells #[.int .i64 k0, .int .i64 k1, va', vc', vr', vi'] 32)) := ((Below.refl _ _).alloc (Nat.le_refl _) _).alloc (by simp) _
  clear h1 h2 h3 h4 h1' h2' h3' h4' hc
  go_enter Tryd.func8, Tryd.ntmps8
  go_wp2_with fail
  refine (q1.out _ hB).mono ?_
  rintro e w1 ⟨rfl, hb1⟩
  have hbx1 := hbx.later hb1
  have hbx1' := hbx'.later hb1
  have hB1 := hB.trans (hb1.mono hB.size)
  obtain ⟨c0, c1, c2, c3, c4, c5, cl⟩ := hbx1
  obtain ⟨d0, d1, d2, d3, d4, d5, dl⟩ := hbx1'
  go_wp2_with fail
  refine (q2.out _ hB1).mono ?_
  rintro e w2 ⟨rfl, hb2⟩
  obtain ⟨c0, c1, c2, c3, c4, c5, cl⟩ := (hbx.later hb1).later hb2
  obtain ⟨d0, d1, d2, d3, d4, d5, dl⟩ := (hbx'.later hb1).later hb2
  have hB2 := hB1.trans (hb2.mono hB1.size)
  go_wp2_with fail
  refine (q3.out _ hB2).mono ?_
  rintro e w3 ⟨rfl, hb3⟩
  obtain ⟨c0, c1, c2, c3, c4, c5, cl⟩ := ((hbx.later hb1).later hb2).later hb3
  obtain ⟨d0, d1, d2, d3, d4, d5, dl⟩ := ((hbx'.later hb1).later hb2).later hb3
  have hB3 := hB2.trans (hb3.mono hB2.size)
  go_wp2_with fail
  refine (q4.out _ hB3).mono ?_
  rintro e w4 ⟨rfl, hb4⟩
  have hB4 := hB3.trans (hb4.mono hB3.size)
  go_wp2
  go_ret
  exact ⟨rfl, hB4⟩

def mkC (k : Nat) (c : Ck) : Ck :=
  { stack := c.stack, start := c.start, accept := mkB k c.accept, call := mkP2 (k + c.accept.length) c.call, ret := mkI3 (k + c.accept.length + szL lenP c.call) c.ret,
    inner := mkI2 (k + c.accept.length + szL lenP c.call + szL (szL lenI) c.ret) c.inner }

end Go.Proofs.YtglbmmgancecnaaDoor
