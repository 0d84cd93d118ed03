/- Rewriter that own their memory, and the laws' own functions on them. -/
import Derived.Test.YtmkamodmnplclaaChk
import Derived.Test.YtmkamodmnplclaaBox
import Derived.Test.YtmkamodmnplclaaConv
import Derived.Test.YtmkamodmnplclaaRows3
import Derived.Test.YtmkamodmnplclaaOmm
namespace Go.Proofs.Ytmkamodmnplclaa
open Go.RowKit Go.ChangeShapes Go.WideShapes Go.Deep
set_option linter.unusedVariables false

structure Rw where
  stack : Int
  start : Int
  call : List (List (Int × Int × ByteArray))
  ret : List (List (List (Int × ByteArray)))
  inner : List (List (Int × ByteArray))

def RwE (base : Nat) : EP Rw := fun w v c bs => ∃ v0 v1 v2 b0 b1 b2, v = .agg #[.int .i64 c.stack, .int .i64 c.start, v0, v1, v2] ∧
  Op2E base w v0 c.call b0 ∧ Om3E base w v1 c.ret b1 ∧ Om2E base w v2 c.inner b2 ∧ bs = b0 ++ (b1 ++ (b2)) ∧ bs.Nodup

theorem rewriter_ok (base : Nat) : EP.Ok base (RwE base) where
  kept := by
    rintro w w' v c bs ⟨v0, v1, v2, b0, b1, b2, rfl, h0, h1, h2, rfl, hn⟩ hs
    exact ⟨v0, v1, v2, b0, b1, b2, rfl, (op2_ok base).kept h0 (fun b hb => hs b (by simp [hb])), (om3_ok base).kept h1 (fun b hb => hs b (by simp [hb])), (om2_ok base).kept h2 (fun b hb => hs b (by simp [hb])), rfl, hn⟩
  lt := by
    rintro w v c bs ⟨v0, v1, v2, b0, b1, b2, rfl, h0, h1, h2, rfl, hn⟩ b hb
    simp only [List.mem_append] at hb
    rcases hb with hb | hb | hb
    · exact (op2_ok base).lt h0 b hb
    · exact (om3_ok base).lt h1 b hb
    · exact (om2_ok base).lt h2 b hb
  nodup := by rintro w v c bs ⟨v0, v1, v2, b0, b1, b2, rfl, h0, h1, h2, rfl, hn⟩; exact hn

theorem RwE.form {base : Nat} {w : World} {v : Value} {c : Rw} {bs : List Nat} (h : RwE base w v c bs) : ∃ (A0 : Option Addr) (n0 k0 : Nat) (A1 : Option Addr) (n1 k1 : Nat) (A2 : Option Addr) (n2 k2 : Nat),
    v = .agg #[.int .i64 c.stack, .int .i64 c.start, .slice A0 n0 k0, .slice A1 n1 k1, .slice A2 n2 k2] := by
  obtain ⟨v0, v1, v2, _, _, _, rfl, h0, h1, h2, _⟩ := h
  obtain ⟨A0, k0, rfl⟩ := ManyE.slice h0
  obtain ⟨A1, k1, rfl⟩ := ManyE.slice h1
  obtain ⟨A2, k2, rfl⟩ := ManyE.slice h2
  exact ⟨A0, _, k0, A1, _, k1, A2, _, k2, rfl⟩
def szRw (c : Rw) : Nat := (szL lenOp) c.call + ((szL (szL lenOm)) c.ret + ((szL lenOm) c.inner))
structure BdRw (c : Rw) : Prop where
  call : Bd2 c.call
  ret : Bd3 c.ret
  inner : Bd2 c.inner
  sum : szRw c ≤ 3200000

set_option maxHeartbeats 3200000 in
set_option maxRecDepth 100000 in
theorem eq_rewriter {base base' : Nat} {v v' : Value} {c : Rw} {bs bs' : List Nat} (w : World) (hc : BdRw c) (ha : RwE base w v c bs) (hb : RwE base' w v' c bs') :
    Calls Try.prog 19 #[v, v'] w (SeenPost (.bool true) w) := by
  obtain ⟨v0, v1, v2, b0, b1, b2, rfl, h0, h1, h2, _, _⟩ := ha
  obtain ⟨u0, u1, u2, _, _, _, rfl, g0, g1, g2, _, _⟩ := hb
  have q0 := Lib.hid fun (W : World) (hw : Below w.heap.size w W) => eq_ops2 W hc.call ((op2_ok base).later h0 hw) ((op2_ok base').later g0 hw)
  have q1 := Lib.hid fun (W : World) (hw : Below w.heap.size w W) => eq_oms3 W hc.ret ((om3_ok base).later h1 hw) ((om3_ok base').later g1 hw)
  have q2 := Lib.hid fun (W : World) (hw : Below w.heap.size w W) => eq_oms2 W hc.inner ((om2_ok base).later h2 hw) ((om2_ok base').later g2 hw)
  generalize c.stack = s0
  generalize c.start = s1
  have x1 := (Bx.new w 36 #[.int .i64 s0, .int .i64 s1, v0, v1, v2]).alloc (.cells #[.int .i64 s0, .int .i64 s1, u0, u1, u2] 36)
  have x2 := Bx.new (w.alloc (.cells #[.int .i64 s0, .int .i64 s1, v0, v1, v2] 36)) 36 #[.int .i64 s0, .int .i64 s1, u0, u1, u2]
  rw [World.size_alloc] at x2
  have hB : Below w.heap.size w ((w.alloc (.cells #[.int .i64 s0, .int .i64 s1, v0, v1, v2] 36)).alloc (.cells #[.int .i64 s0, .int .i64 s1, u0, u1, u2] 36)) := ((Below.refl _ _).alloc (Nat.le_refl _) _).alloc (by simp) _
  clear h0 h1 h2 g0 g1 g2 hc
  obtain ⟨p0, p1, p2, p3, p4, pl⟩ := x1.all5
  obtain ⟨d0, d1, d2, d3, d4, dl⟩ := x2.all5
  go_enter Try.func19, Try.ntmps19
  go_wp2_with fail
  refine (q0.out _ hB).mono ?_
  rintro e w0 ⟨rfl, hb0⟩
  replace x1 := x1.later hb0
  replace x2 := x2.later hb0
  replace hB := hB.trans (hb0.mono hB.size)
  clear p0 p1 p2 p3 p4 pl d0 d1 d2 d3 d4 dl
  obtain ⟨p0, p1, p2, p3, p4, pl⟩ := x1.all5
  obtain ⟨d0, d1, d2, d3, d4, dl⟩ := x2.all5
  go_wp2_with fail
  refine (q1.out _ hB).mono ?_
  rintro e w1 ⟨rfl, hb1⟩
  replace x1 := x1.later hb1
  replace x2 := x2.later hb1
  replace hB := hB.trans (hb1.mono hB.size)
  clear p0 p1 p2 p3 p4 pl d0 d1 d2 d3 d4 dl
  obtain ⟨p0, p1, p2, p3, p4, pl⟩ := x1.all5
  obtain ⟨d0, d1, d2, d3, d4, dl⟩ := x2.all5
  go_wp2_with fail
  refine (q2.out _ hB).mono ?_
  rintro e w2 ⟨rfl, hb2⟩
  replace x1 := x1.later hb2
  replace x2 := x2.later hb2
  replace hB := hB.trans (hb2.mono hB.size)
  go_wp2
  go_ret
  exact ⟨rfl, hB⟩

def mkRw (k : Nat) (c : Rw) : Rw :=
  { stack := c.stack, start := c.start, call := mkOp2 (k) c.call, ret := mkOm3 (k + (szL lenOp) c.call) c.ret, inner := mkOm2 (k + (szL lenOp) c.call + (szL (szL lenOm)) c.ret) c.inner }
set_option maxHeartbeats 3200000 in
set_option maxRecDepth 100000 in
theorem mark_rewriter {base : Nat} {v : Value} {c : Rw} {bs : List Nat} (k0 : Nat) (w : World) (hc : BdRw c) (hk : k0 ≤ 4000000) (ha : RwE base w v c bs) :
    Calls Try.prog 20 #[v, .int .i64 (k0 : Int)] w (MarkPost (RwE base) v (mkRw k0 c) bs (k0 + szRw c) w) := by
  have hlt := (rewriter_ok base).lt ha
  obtain ⟨v0, v1, v2, b0, b1, b2, rfl, h0, h1, h2, hbs, hn⟩ := ha
  have hsum := hc.sum
  rw [szRw] at hsum
  obtain ⟨k1, hk1⟩ : ∃ k, k = k0 + (szL lenOp) c.call := ⟨_, rfl⟩
  obtain ⟨k2, hk2⟩ : ∃ k, k = k1 + (szL (szL lenOm)) c.ret := ⟨_, rfl⟩
  obtain ⟨k3, hk3⟩ : ∃ k, k = k2 + (szL lenOm) c.inner := ⟨_, rfl⟩
  have s100 : ∀ b ∈ b0, b < w.heap.size := fun b hb => (hlt b (by rw [hbs]; simp [hb])).2
  have s101 : ∀ b ∈ b1, b < w.heap.size := fun b hb => (hlt b (by rw [hbs]; simp [hb])).2
  have s102 : ∀ b ∈ b2, b < w.heap.size := fun b hb => (hlt b (by rw [hbs]; simp [hb])).2
  have dis : ∀ (x y : List Nat), (x ++ y).Nodup → ∀ b ∈ y, b ∉ x := fun x y h b hb hb' => (List.nodup_append.1 h).2.2 b hb' b hb rfl
  rw [hbs] at hn
  have d01 : ∀ b ∈ b1, b ∉ b0 := fun b hb => dis _ _ hn b (by simp [hb])
  have d10 : ∀ b ∈ b0, b ∉ b1 := fun b hb hb' => d01 b hb' hb
  have d02 : ∀ b ∈ b2, b ∉ b0 := fun b hb => dis _ _ hn b (by simp [hb])
  have d20 : ∀ b ∈ b0, b ∉ b2 := fun b hb hb' => d02 b hb' hb
  have hn1 := (List.nodup_append.1 hn).2.1
  have d12 : ∀ b ∈ b2, b ∉ b1 := fun b hb => dis _ _ hn1 b (by simp [hb])
  have d21 : ∀ b ∈ b1, b ∉ b2 := fun b hb hb' => d12 b hb' hb
  have hn2 := (List.nodup_append.1 hn1).2.1
  have q0 := Lib.hid fun (W : World) (h : Op2E base W v0 c.call b0) => mark_ops2 k0 W hc.call (by first | omega | (unfold szL at *; omega)) h
  rw [show k0 + (szL lenOp) c.call = k1 from hk1.symm] at q0
  have q1 := Lib.hid fun (W : World) (h : Om3E base W v1 c.ret b1) => mark_oms3 k1 W hc.ret (by first | omega | (unfold szL at *; omega)) h
  rw [show k1 + (szL (szL lenOm)) c.ret = k2 from hk2.symm] at q1
  have q2 := Lib.hid fun (W : World) (h : Om2E base W v2 c.inner b2) => mark_oms2 k2 W hc.inner (by first | omega | (unfold szL at *; omega)) h
  rw [show k2 + (szL lenOm) c.inner = k3 from hk3.symm] at q2
  have hmk : mkRw k0 c = { stack := c.stack, start := c.start, call := mkOp2 k0 c.call, ret := mkOm3 k1 c.ret, inner := mkOm2 k2 c.inner } := by rw [mkRw, hk2, hk1]
  have hke : k0 + szRw c = k3 := by rw [szRw, hk3, hk2, hk1]; omega
  rw [hmk, hke]
  have l1 : k1 ≤ 8388608 := by omega
  have l2 : k2 ≤ 8388608 := by omega
  have l3 : k3 ≤ 8388608 := by omega
  have hbx := Bx.new w 36 #[.int .i64 c.stack, .int .i64 c.start, v0, v1, v2]
  have hB : Below w.heap.size w (w.alloc (.cells #[.int .i64 c.stack, .int .i64 c.start, v0, v1, v2] 36)) := (Below.refl _ _).alloc (Nat.le_refl _) _
  have e0 := (op2_ok base).later h0 hB
  have e1 := (om3_ok base).later h1 hB
  have e2 := (om2_ok base).later h2 hB
  have x0 : w.heap.size ∉ b0 := fun h => by have := s100 _ h; omega
  have x1 : w.heap.size ∉ b1 := fun h => by have := s101 _ h; omega
  have x2 : w.heap.size ∉ b2 := fun h => by have := s102 _ h; omega
  have T0 : Turned bs w (w.alloc (.cells #[.int .i64 c.stack, .int .i64 c.start, v0, v1, v2] 36)) := Turned.of_below hB
  have m0 : ∀ b ∈ b0, b ∈ bs := fun b hb => by rw [hbs]; simp [hb]
  have m1 : ∀ b ∈ b1, b ∈ bs := fun b hb => by rw [hbs]; simp [hb]
  have m2 : ∀ b ∈ b2, b ∈ bs := fun b hb => by rw [hbs]; simp [hb]
  have Hbs := Lib.hid hbs
  have Hn := Lib.hid hn
  have D01 := Lib.hid d01
  have D02 := Lib.hid d02
  have D10 := Lib.hid d10
  have D12 := Lib.hid d12
  have D20 := Lib.hid d20
  have D21 := Lib.hid d21
  have M0 := Lib.hid m0
  have X0 := Lib.hid x0
  have M1 := Lib.hid m1
  have X1 := Lib.hid x1
  have M2 := Lib.hid m2
  have X2 := Lib.hid x2
  clear hlt h0 h1 h2 hbs hn dis hn1 hn2 hsum hmk hke hk1 hk2 hk3 s100 s101 s102 d01 d02 d10 d12 d20 d21 m0 m1 m2 x0 x1 x2
  obtain ⟨p0, p1, p2, p3, p4, pl⟩ := hbx.all5
  go_enter Try.func20, Try.ntmps20
  go_wp2_with fail
  refine (q0.out _ e0).mono ?_
  rintro e w0 ⟨rfl, f0, t0⟩
  replace e1 := (om3_ok base).off e1 t0 D01.out
  replace e2 := (om2_ok base).off e2 t0 D02.out
  replace hbx := hbx.off t0 X0.out
  clear p0 p1 p2 p3 p4 pl
  obtain ⟨p0, p1, p2, p3, p4, pl⟩ := hbx.all5
  go_wp2_with fail
  refine (q1.out _ e1).mono ?_
  rintro e w1 ⟨rfl, f1, t1⟩
  replace f0 := (op2_ok base).off f0 t1 D10.out
  replace e2 := (om2_ok base).off e2 t1 D12.out
  replace hbx := hbx.off t1 X1.out
  clear p0 p1 p2 p3 p4 pl
  obtain ⟨p0, p1, p2, p3, p4, pl⟩ := hbx.all5
  go_wp2_with fail
  refine (q2.out _ e2).mono ?_
  rintro e w2 ⟨rfl, f2, t2⟩
  replace f0 := (op2_ok base).off f0 t2 D20.out
  replace f1 := (om3_ok base).off f1 t2 D21.out
  go_wp2
  go_ret
  exact ⟨rfl, ⟨v0, v1, v2, b0, b1, b2, rfl, f0, f1, f2, Hbs.out, by rw [Hbs.out]; exact Hn.out⟩, (((T0.trans (t0.mono M0.out)).trans (t1.mono M1.out)).trans (t2.mono M2.out))⟩

set_option maxHeartbeats 3200000 in
set_option maxRecDepth 100000 in
theorem held_rewriter {base : Nat} {v : Value} {c : Rw} {bs : List Nat} (k0 : Nat) (w : World) (hc : BdRw c) (hk : k0 ≤ 4000000) (ha : RwE base w v (mkRw k0 c) bs) :
    Calls Try.prog 21 #[v, .int .i64 (k0 : Int)] w (SeenPost (.int .i64 ((k0 + szRw c : Nat) : Int)) w) := by
  obtain ⟨v0, v1, v2, b0, b1, b2, rfl, h0, h1, h2, _, _⟩ := ha
  have hsum := hc.sum
  rw [szRw] at hsum
  obtain ⟨k1, hk1⟩ : ∃ k, k = k0 + (szL lenOp) c.call := ⟨_, rfl⟩
  obtain ⟨k2, hk2⟩ : ∃ k, k = k1 + (szL (szL lenOm)) c.ret := ⟨_, rfl⟩
  obtain ⟨k3, hk3⟩ : ∃ k, k = k2 + (szL lenOm) c.inner := ⟨_, rfl⟩
  have g0 : Op2E base w v0 (mkOp2 k0 c.call) b0 := by exact h0
  have g1 : Om3E base w v1 (mkOm3 k1 c.ret) b1 := by rw [hk1]; exact h1
  have g2 : Om2E base w v2 (mkOm2 k2 c.inner) b2 := by rw [hk2, hk1]; exact h2
  have q0 := Lib.hid fun (W : World) (hw : Below w.heap.size w W) => held_ops2 k0 W hc.call (by first | omega | (unfold szL at *; omega)) ((op2_ok base).later g0 hw)
  rw [show k0 + (szL lenOp) c.call = k1 from hk1.symm] at q0
  have q1 := Lib.hid fun (W : World) (hw : Below w.heap.size w W) => held_oms3 k1 W hc.ret (by first | omega | (unfold szL at *; omega)) ((om3_ok base).later g1 hw)
  rw [show k1 + (szL (szL lenOm)) c.ret = k2 from hk2.symm] at q1
  have q2 := Lib.hid fun (W : World) (hw : Below w.heap.size w W) => held_oms2 k2 W hc.inner (by first | omega | (unfold szL at *; omega)) ((om2_ok base).later g2 hw)
  rw [show k2 + (szL lenOm) c.inner = k3 from hk3.symm] at q2
  have hke : k0 + szRw c = k3 := by rw [szRw, hk3, hk2, hk1]; omega
  rw [hke]
  have l1 : k1 ≤ 8388608 := by omega
  have l2 : k2 ≤ 8388608 := by omega
  have l3 : k3 ≤ 8388608 := by omega
  obtain ⟨s0, hs0⟩ : ∃ s, s = (mkRw k0 c).stack := ⟨_, rfl⟩
  obtain ⟨s1, hs1⟩ : ∃ s, s = (mkRw k0 c).start := ⟨_, rfl⟩
  rw [← hs0, ← hs1]
  have hbx := Bx.new w 36 #[.int .i64 s0, .int .i64 s1, v0, v1, v2]
  have hB : Below w.heap.size w (w.alloc (.cells #[.int .i64 s0, .int .i64 s1, v0, v1, v2] 36)) := (Below.refl _ _).alloc (Nat.le_refl _) _
  clear h0 h1 h2 g0 g1 g2 hsum hk1 hk2 hk3 hke hs0 hs1
  obtain ⟨p0, p1, p2, p3, p4, pl⟩ := hbx.all5
  go_enter Try.func21, Try.ntmps21
  go_wp2_with fail
  refine (q0.out _ hB).mono ?_
  rintro e w0 ⟨rfl, hb0⟩
  replace hbx := hbx.later hb0
  replace hB := hB.trans (hb0.mono hB.size)
  clear p0 p1 p2 p3 p4 pl
  obtain ⟨p0, p1, p2, p3, p4, pl⟩ := hbx.all5
  go_wp2_with fail
  refine (q1.out _ hB).mono ?_
  rintro e w1 ⟨rfl, hb1⟩
  replace hbx := hbx.later hb1
  replace hB := hB.trans (hb1.mono hB.size)
  clear p0 p1 p2 p3 p4 pl
  obtain ⟨p0, p1, p2, p3, p4, pl⟩ := hbx.all5
  go_wp2_with fail
  refine (q2.out _ hB).mono ?_
  rintro e w2 ⟨rfl, hb2⟩
  replace hbx := hbx.later hb2
  replace hB := hB.trans (hb2.mono hB.size)
  go_wp2
  go_ret
  exact ⟨rfl, hB⟩

structure WfRw (c : Rw) : Prop where
  stack : I64 c.stack
  start : I64 c.start
  call : ∀ x ∈ c.call, WfOp x
  ret : ∀ x ∈ c.ret, ∀ y ∈ x, WfOm y
  inner : ∀ x ∈ c.inner, WfOm x
/-- A laws.Rewriter that came in. -/
def RwR : RP Rw := fun w v c => ∃ v0 v1 v2, v = .agg #[.int .i64 c.stack, .int .i64 c.start, v0, v1, v2] ∧ Op2R w v0 c.call ∧ Om3R w v1 c.ret ∧ Om2R w v2 c.inner
theorem rewriter_r : RP.Ok RwR where
  later := by
    rintro w w' v c ⟨v0, v1, v2, rfl, h0, h1, h2⟩ hb
    exact ⟨v0, v1, v2, rfl, ops2_r.later h0 hb, oms3_r.later h1 hb, oms2_r.later h2 hb⟩
theorem RwR.form {w : World} {v : Value} {c : Rw} (h : RwR w v c) : ∃ (A0 : Option Addr) (n0 k0 : Nat) (A1 : Option Addr) (n1 k1 : Nat) (A2 : Option Addr) (n2 k2 : Nat),
    v = .agg #[.int .i64 c.stack, .int .i64 c.start, .slice A0 n0 k0, .slice A1 n1 k1, .slice A2 n2 k2] := by
  obtain ⟨v0, v1, v2, rfl, h0, h1, h2⟩ := h
  obtain ⟨A0, k0, rfl, _⟩ := h0
  obtain ⟨A1, k1, rfl, _⟩ := h1
  obtain ⟨A2, k2, rfl, _⟩ := h2
  exact ⟨A0, _, k0, A1, _, k1, A2, _, k2, rfl⟩

theorem cells_Rewriter : Try.prog.cellsOf 48 = 5 := by kernel_rfl
theorem cells_Rewriter_i : Try.prog.cellsOf 2 = 1 := by kernel_rfl
theorem cells_Rewriter_0 : Try.prog.cellsOf 44 = 1 := by kernel_rfl
theorem cells_Rewriter_1 : Try.prog.cellsOf 45 = 1 := by kernel_rfl
theorem cells_Rewriter_2 : Try.prog.cellsOf 46 = 1 := by kernel_rfl
section
variable {H : Type} {enc : TypeId × Value → H} {w : World} {held : Bool}
set_option maxRecDepth 100000 in
theorem open_rewriter {r : Reach} {b0 : Nat} {v : Value} {d : DataW H} {p : List MemPlace} (hv : Value.okWide Try.prog w r b0 48 v) (h : DataW.Trod enc Try.prog w 0 (fun _ => true) held 48 v d p) : ∃ c, RwR w v c ∧ WfRw c := by
  obtain ⟨cs, rfl, hsz⟩ := okWide_struct Try.underlying48 hv
  rw [cells_Rewriter] at hsz
  obtain ⟨fuel, hf⟩ := h
  obtain ⟨xs, n, _, _, _, hxl, hg⟩ := DataW.trod_struct Try.underlying48 hf
  obtain ⟨l⟩ := cs
  match l, hsz with
  | [c0, c1, c2, c3, c4], _ =>
    have hx : ∀ i, i < 5 → ∃ y, xs[i]? = some y := fun i hi => ⟨xs[i]'(by rw [hxl]; exact hi), List.getElem?_eq_getElem _⟩
    obtain ⟨y0, e0⟩ := hx 0 (by decide)
    obtain ⟨y1, e1⟩ := hx 1 (by decide)
    obtain ⟨y2, e2⟩ := hx 2 (by decide)
    obtain ⟨y3, e3⟩ := hx 3 (by decide)
    obtain ⟨y4, e4⟩ := hx 4 (by decide)
    have g0 : DataW.trod enc Try.prog w 0 (fun _ => true) held n 2 (([c0, c1, c2, c3, c4].drop 0).take (Try.prog.cellsOf 2)) = some y0 := (hg 0 _ rfl).trans e0
    have g1 : DataW.trod enc Try.prog w 0 (fun _ => true) held n 2 (([c0, c1, c2, c3, c4].drop 1).take (Try.prog.cellsOf 2)) = some y1 := (hg 1 _ rfl).trans e1
    have g2 : DataW.trod enc Try.prog w 0 (fun _ => true) held n 44 (([c0, c1, c2, c3, c4].drop 2).take (Try.prog.cellsOf 44)) = some y2 := (hg 2 _ rfl).trans e2
    have g3 : DataW.trod enc Try.prog w 0 (fun _ => true) held n 45 (([c0, c1, c2, c3, c4].drop 3).take (Try.prog.cellsOf 45)) = some y3 := (hg 3 _ rfl).trans e3
    have g4 : DataW.trod enc Try.prog w 0 (fun _ => true) held n 46 (([c0, c1, c2, c3, c4].drop 4).take (Try.prog.cellsOf 46)) = some y4 := (hg 4 _ rfl).trans e4
    rw [cells_Rewriter_i] at g0
    rw [cells_Rewriter_i] at g1
    rw [cells_Rewriter_0] at g2
    rw [cells_Rewriter_1] at g3
    rw [cells_Rewriter_2] at g4
    simp only [List.drop_zero, List.drop_succ_cons, List.take_succ_cons, List.take_zero] at g0 g1 g2 g3 g4
    obtain ⟨a0, ha0, wa0⟩ := read_int g0
    obtain ⟨a1, ha1, wa1⟩ := read_int g1
    obtain ⟨x0, r0, w0⟩ := read_ops2 g2
    obtain ⟨x1, r1, w1⟩ := read_oms3 g3
    obtain ⟨x2, r2, w2⟩ := read_oms2 g4
    simp only [List.cons.injEq, and_true] at ha0 ha1
    exact ⟨⟨a0, a1, x0, x1, x2⟩, ⟨c2, c3, c4, by rw [ha0, ha1], r0, r1, r2⟩, ⟨wa0, wa1, w0, w1, w2⟩⟩
end

/-- While toRewriter runs: the argument's box, the result's, and that of what is made. -/
structure StgRw (w W : World) (c1 c2 c3 : Array Value) : Prop where
  b1 : Bx W w.heap.size 48 c1
  b2 : Bx W (w.heap.size + 1) 36 c2
  b3 : Bx W (w.heap.size + 1 + 1) 36 c3
  below : Below w.heap.size w W
theorem StgRw.size {w W : World} {c1 c2 c3 : Array Value} (h : StgRw w W c1 c2 c3) : w.heap.size + 1 + 1 + 1 ≤ W.heap.size := h.b3.lt
theorem StgRw.next {w W W' : World} {c1 c2 c3 : Array Value} (h : StgRw w W c1 c2 c3) (hb : Below W.heap.size W W') (i : Nat) (u : Value) : StgRw w (W'.setCell ⟨w.heap.size + 1 + 1, i, none⟩ u) c1 c2 (c3.setIfInBounds i u) :=
  ⟨(h.b1.later hb).other i u (by omega), (h.b2.later hb).other i u (by omega), (h.b3.later hb).set i u, (h.below.trans (hb.mono h.below.size)).setCell (p := ⟨w.heap.size + 1 + 1, i, none⟩) (by simp; omega) u⟩
set_option maxHeartbeats 3200000 in
set_option maxRecDepth 100000 in
theorem to_rewriter {v : Value} {c : Rw} (w : World) (hc : BdRw c) (ha : RwR w v c) : Calls Try.prog 34 #[v] w (NewPost RwE c w) := by
  obtain ⟨v0, v1, v2, rfl, h0, h1, h2⟩ := ha
  have q0 := Lib.hid fun (W : World) (hw : Below w.heap.size w W) => to_ops2 W hc.call (ops2_r.later h0 hw)
  have q1 := Lib.hid fun (W : World) (hw : Below w.heap.size w W) => to_oms3 W hc.ret (oms3_r.later h1 hw)
  have q2 := Lib.hid fun (W : World) (hw : Below w.heap.size w W) => to_oms2 W hc.inner (oms2_r.later h2 hw)
  clear h0 h1 h2 hc
  obtain ⟨s0, s1, x0, x1, x2⟩ := c
  dsimp only at q0 q1 q2 ⊢
  obtain ⟨W0, hW0⟩ : ∃ W0, W0 = ((w.alloc (.cells #[.int .i64 s0, .int .i64 s1, v0, v1, v2] 48)).alloc (.cells #[.int .i64 0, .int .i64 0, .slice none 0 0, .slice none 0 0, .slice none 0 0] 36)).alloc (.cells #[.int .i64 s0, .int .i64 s1, .slice none 0 0, .slice none 0 0, .slice none 0 0] 36) := ⟨_, rfl⟩
  have y1 : Bx W0 w.heap.size 48 #[.int .i64 s0, .int .i64 s1, v0, v1, v2] := by rw [hW0]; exact ((Bx.new w _ _).alloc _).alloc _
  have y2 : Bx W0 (w.heap.size + 1) 36 #[.int .i64 0, .int .i64 0, .slice none 0 0, .slice none 0 0, .slice none 0 0] := by
    rw [hW0]
    have := (Bx.new (w.alloc (.cells #[.int .i64 s0, .int .i64 s1, v0, v1, v2] 48)) 36 #[.int .i64 0, .int .i64 0, .slice none 0 0, .slice none 0 0, .slice none 0 0]).alloc (.cells #[.int .i64 s0, .int .i64 s1, .slice none 0 0, .slice none 0 0, .slice none 0 0] 36)
    rwa [World.size_alloc] at this
  have y3 : Bx W0 (w.heap.size + 1 + 1) 36 #[.int .i64 s0, .int .i64 s1, .slice none 0 0, .slice none 0 0, .slice none 0 0] := by
    rw [hW0]
    have := Bx.new ((w.alloc (.cells #[.int .i64 s0, .int .i64 s1, v0, v1, v2] 48)).alloc (.cells #[.int .i64 0, .int .i64 0, .slice none 0 0, .slice none 0 0, .slice none 0 0] 36)) 36 #[.int .i64 s0, .int .i64 s1, .slice none 0 0, .slice none 0 0, .slice none 0 0]
    rwa [World.size_alloc, World.size_alloc] at this
  have hB0 : Below w.heap.size w W0 := by rw [hW0]; exact (((Below.refl _ _).alloc (Nat.le_refl _) _).alloc (by simp) _).alloc (by simp; omega) _
  have hz0 : W0.heap.size = w.heap.size + 1 + 1 + 1 := by rw [hW0]; simp
  have S0 : StgRw w W0 #[.int .i64 s0, .int .i64 s1, v0, v1, v2] #[.int .i64 0, .int .i64 0, .slice none 0 0, .slice none 0 0, .slice none 0 0] #[.int .i64 s0, .int .i64 s1, .slice none 0 0, .slice none 0 0, .slice none 0 0] := ⟨y1, y2, y3, hB0⟩
  have HW0 := Lib.hid hW0
  have hS := S0.size
  clear hW0 y1 y2 y3
  go_enter Try.func34, Try.ntmps34
  go_wp2_with fail
  rw [← HW0.out]
  refine (q0.out _ hB0).mono ?_
  rintro e w0 ⟨r0, bs0, rfl, E0, hb0⟩
  obtain ⟨A0, k0, rfl⟩ := ManyE.slice E0
  have S1 := S0.next hb0 2 (.slice A0 x0.length k0)
  have l0 := (op2_ok _).lt E0
  have t0 := S1.size
  have F0 := E0
  replace E0 := keepE (op2_ok _) E0 (Below.refl _ _) (B := w.heap.size + 1 + 1) (fun b hb => by have := l0 b hb; omega) 2 (.slice A0 x0.length k0)
  have c0 := (S0.b1.later hb0).cell 3 (v1) rfl
  have c1 := (S0.b3.later hb0).cell 2 (.slice none 0 0) rfl
  have c2 := (S0.b3.later hb0).frozen 2
  go_wp2_with fail
  refine (q1.out _ S1.below).mono ?_
  clear c0 c1 c2
  rintro e w1 ⟨r1, bs1, rfl, E1, hb1⟩
  obtain ⟨A1, k1, rfl⟩ := ManyE.slice E1
  have S2 := S1.next hb1 3 (.slice A1 x1.length k1)
  have l1 := (om3_ok _).lt E1
  have t1 := S2.size
  simp only [size_set] at l1
  simp only [size_set] at t0
  replace E0 := keepE (op2_ok _) E0 hb1 (B := w.heap.size + 1 + 1) (fun b hb => by have := l0 b hb; omega) 3 (.slice A1 x1.length k1)
  have F1 := E1
  replace E1 := keepE (om3_ok _) E1 (Below.refl _ _) (B := w.heap.size + 1 + 1) (fun b hb => by have := l1 b hb; omega) 3 (.slice A1 x1.length k1)
  have c0 := (S1.b1.later hb1).cell 4 (v2) rfl
  have c1 := (S1.b3.later hb1).cell 3 (.slice none 0 0) rfl
  have c2 := (S1.b3.later hb1).frozen 3
  go_wp2_with fail
  refine (q2.out _ S2.below).mono ?_
  clear c0 c1 c2
  rintro e w2 ⟨r2, bs2, rfl, E2, hb2⟩
  obtain ⟨A2, k2, rfl⟩ := ManyE.slice E2
  have S3 := S2.next hb2 4 (.slice A2 x2.length k2)
  have l2 := (om2_ok _).lt E2
  have t2 := S3.size
  simp only [size_set] at l2
  simp only [size_set] at t1
  replace E0 := keepE (op2_ok _) E0 hb2 (B := w.heap.size + 1 + 1) (fun b hb => by have := l0 b hb; omega) 4 (.slice A2 x2.length k2)
  replace E1 := keepE (om3_ok _) E1 hb2 (B := w.heap.size + 1 + 1) (fun b hb => by have := l1 b hb; omega) 4 (.slice A2 x2.length k2)
  have F2 := E2
  replace E2 := keepE (om2_ok _) E2 (Below.refl _ _) (B := w.heap.size + 1 + 1) (fun b hb => by have := l2 b hb; omega) 4 (.slice A2 x2.length k2)
  have c1 := (S2.b3.later hb2).cell 4 (.slice none 0 0) rfl
  have c2 := (S2.b3.later hb2).frozen 4
  simp only [size_set] at t2
  have d0 := S3.b3.cell 0 (.int .i64 s0) rfl
  have d1 := S3.b3.cell 1 (.int .i64 s1) rfl
  have d2 := S3.b3.cell 2 (.slice A0 x0.length k0) rfl
  have d3 := S3.b3.cell 3 (.slice A1 x1.length k1) rfl
  have d4 := S3.b3.cell 4 (.slice A2 x2.length k2) rfl
  have p1 := S3.b2
  have e0 := p1.cell 0 (.int .i64 0) rfl
  have f0 := p1.frozen 0
  have e1 := p1.cell 1 (.int .i64 0) rfl
  have f1 := p1.frozen 1
  have e2 := p1.cell 2 (.slice none 0 0) rfl
  have f2 := p1.frozen 2
  have e3 := p1.cell 3 (.slice none 0 0) rfl
  have f3 := p1.frozen 3
  have e4 := p1.cell 4 (.slice none 0 0) rfl
  have f4 := p1.frozen 4
  have pf := (((((p1.set 0 (.int .i64 s0)).set 1 (.int .i64 s1)).set 2 (.slice A0 x0.length k0)).set 3 (.slice A1 x1.length k1)).set 4 (.slice A2 x2.length k2))
  have g0 := pf.cell 0 (.int .i64 s0) rfl
  have g1 := pf.cell 1 (.int .i64 s1) rfl
  have g2 := pf.cell 2 (.slice A0 x0.length k0) rfl
  have g3 := pf.cell 3 (.slice A1 x1.length k1) rfl
  have g4 := pf.cell 4 (.slice A2 x2.length k2) rfl
  replace E0 := keepE (op2_ok _) E0 (Below.refl _ _) (B := w.heap.size + 1) (fun b hb => by have := l0 b hb; omega) 0 (.int .i64 s0)
  replace E0 := keepE (op2_ok _) E0 (Below.refl _ _) (B := w.heap.size + 1) (fun b hb => by have := l0 b hb; omega) 1 (.int .i64 s1)
  replace E0 := keepE (op2_ok _) E0 (Below.refl _ _) (B := w.heap.size + 1) (fun b hb => by have := l0 b hb; omega) 2 (.slice A0 x0.length k0)
  replace E0 := keepE (op2_ok _) E0 (Below.refl _ _) (B := w.heap.size + 1) (fun b hb => by have := l0 b hb; omega) 3 (.slice A1 x1.length k1)
  replace E0 := keepE (op2_ok _) E0 (Below.refl _ _) (B := w.heap.size + 1) (fun b hb => by have := l0 b hb; omega) 4 (.slice A2 x2.length k2)
  replace E1 := keepE (om3_ok _) E1 (Below.refl _ _) (B := w.heap.size + 1) (fun b hb => by have := l1 b hb; omega) 0 (.int .i64 s0)
  replace E1 := keepE (om3_ok _) E1 (Below.refl _ _) (B := w.heap.size + 1) (fun b hb => by have := l1 b hb; omega) 1 (.int .i64 s1)
  replace E1 := keepE (om3_ok _) E1 (Below.refl _ _) (B := w.heap.size + 1) (fun b hb => by have := l1 b hb; omega) 2 (.slice A0 x0.length k0)
  replace E1 := keepE (om3_ok _) E1 (Below.refl _ _) (B := w.heap.size + 1) (fun b hb => by have := l1 b hb; omega) 3 (.slice A1 x1.length k1)
  replace E1 := keepE (om3_ok _) E1 (Below.refl _ _) (B := w.heap.size + 1) (fun b hb => by have := l1 b hb; omega) 4 (.slice A2 x2.length k2)
  replace E2 := keepE (om2_ok _) E2 (Below.refl _ _) (B := w.heap.size + 1) (fun b hb => by have := l2 b hb; omega) 0 (.int .i64 s0)
  replace E2 := keepE (om2_ok _) E2 (Below.refl _ _) (B := w.heap.size + 1) (fun b hb => by have := l2 b hb; omega) 1 (.int .i64 s1)
  replace E2 := keepE (om2_ok _) E2 (Below.refl _ _) (B := w.heap.size + 1) (fun b hb => by have := l2 b hb; omega) 2 (.slice A0 x0.length k0)
  replace E2 := keepE (om2_ok _) E2 (Below.refl _ _) (B := w.heap.size + 1) (fun b hb => by have := l2 b hb; omega) 3 (.slice A1 x1.length k1)
  replace E2 := keepE (om2_ok _) E2 (Below.refl _ _) (B := w.heap.size + 1) (fun b hb => by have := l2 b hb; omega) 4 (.slice A2 x2.length k2)
  have hBf := (((((S3.below.setCell (p := ⟨w.heap.size + 1, 0, none⟩) (by simp) (.int .i64 s0)).setCell (p := ⟨w.heap.size + 1, 1, none⟩) (by simp) (.int .i64 s1)).setCell (p := ⟨w.heap.size + 1, 2, none⟩) (by simp) (.slice A0 x0.length k0)).setCell (p := ⟨w.heap.size + 1, 3, none⟩) (by simp) (.slice A1 x1.length k1)).setCell (p := ⟨w.heap.size + 1, 4, none⟩) (by simp) (.slice A2 x2.length k2))
  have m1 := hb1.size
  have m2 := hb2.size
  simp only [size_set] at m1 m2
  have hn : (bs0 ++ (bs1 ++ (bs2))).Nodup := by
    have dis : ∀ (x y : List Nat), x.Nodup → y.Nodup → (∀ b ∈ y, b ∉ x) → (x ++ y).Nodup := fun x y h1 h2 h3 => List.nodup_append.2 ⟨h1, h2, fun b hb b' hb' e => h3 b' hb' (e ▸ hb)⟩
    have n0 := (op2_ok _).nodup F0
    have n1 := (om3_ok _).nodup F1
    have n2 := (om2_ok _).nodup F2
    have z1 := dis _ _ n1 n2 (fun b hb hb' => by
      have := l1 b hb'
      try simp only [List.mem_append] at hb
      · have := l2 b hb; omega)
    have z0 := dis _ _ n0 z1 (fun b hb hb' => by
      have := l0 b hb'
      try simp only [List.mem_append] at hb
      rcases hb with hb | hb
      · have := l1 b hb; omega
      · have := l2 b hb; omega)
    exact z0
  have Hn := Lib.hid hn
  clear hn
  go_wp2
  have hz1 : w.heap.size ≤ W0.heap.size := by omega
  have hz2 : w.heap.size ≤ w0.heap.size := by omega
  have hz3 : w.heap.size ≤ w1.heap.size := by omega
  refine bodyPost_ret (v := .agg #[.int .i64 s0, .int .i64 s1, .slice A0 x0.length k0, .slice A1 x1.length k1, .slice A2 x2.length k2]) (by simp [results, Try.results34, go_sem, g0, g1, g2, g3, g4]) rfl ?_
  exact ⟨_, _, rfl, ⟨_, _, _, bs0, bs1, bs2, rfl, ops2_base hz1 _ _ _ _ E0, oms3_base (by simp only [size_set]; exact hz2) _ _ _ _ E1, oms2_base (by simp only [size_set]; exact hz3) _ _ _ _ E2, rfl, Hn.out⟩, hBf⟩

def cntRw (c : Rw) : Nat := cntOp2 c.call + (cntOm3 c.ret + (cntOm2 c.inner))
set_option maxHeartbeats 3200000 in
set_option maxRecDepth 100000 in
theorem sz_rewriter {v : Value} {c : Rw} (left : Nat) (w : World) (hl : left ≤ 1048576) (ha : RwR w v c) : Calls Try.prog 32 #[v, .int .i64 (left : Int)] w fun e w' => e = .returned (.int .i64 (dec left (cntRw c))) ∧ Below w.heap.size w w' := by
  obtain ⟨v0, v1, v2, rfl, h0, h1, h2⟩ := ha
  obtain ⟨s0, s1, x0, x1, x2⟩ := c
  dsimp only at h0 h1 h2 ⊢
  have hB : Below w.heap.size w (w.alloc (.cells #[.int .i64 s0, .int .i64 s1, v0, v1, v2] 48)) := (Below.refl _ _).alloc (Nat.le_refl _) _
  have bx := Bx.new w 48 #[.int .i64 s0, .int .i64 s1, v0, v1, v2]
  have q0 := Lib.hid fun (l : Nat) (hl : l ≤ 1048576) (W : World) (hW : Below w.heap.size w W) => sz_ops2 l W hl (ops2_r.later h0 hW)
  have q1 := Lib.hid fun (l : Nat) (hl : l ≤ 1048576) (W : World) (hW : Below w.heap.size w W) => sz_oms3 l W hl (oms3_r.later h1 hW)
  have q2 := Lib.hid fun (l : Nat) (hl : l ≤ 1048576) (W : World) (hW : Below w.heap.size w W) => sz_oms2 l W hl (oms2_r.later h2 hW)
  obtain ⟨a0, ha0⟩ : ∃ a, a = cntOp2 x0 := ⟨_, rfl⟩
  obtain ⟨a1, ha1⟩ : ∃ a, a = cntOm3 x1 := ⟨_, rfl⟩
  obtain ⟨a2, ha2⟩ : ∃ a, a = cntOm2 x2 := ⟨_, rfl⟩
  rw [← ha0] at q0
  rw [← ha1] at q1
  rw [← ha2] at q2
  have ht : cntRw ⟨s0, s1, x0, x1, x2⟩ = a0 + (a1 + (a2)) := by rw [cntRw, ha0, ha1, ha2]
  rw [ht]
  clear ha0 ha1 ha2 ht h0 h1 h2
  by_cases t0 : a0 ≤ left
  case' pos =>
    obtain ⟨l0, k0⟩ : ∃ x, left = x + a0 := ⟨left - a0, by omega⟩
    have g0 := q0.out left hl
    simp only [dec_yes t0, show left - a0 = l0 from by omega] at g0
    have G0 := Lib.hid g0
    have m0 : l0 ≤ 1048576 := by omega
    clear g0 t0
    by_cases t1 : a1 ≤ l0
    case' pos =>
      obtain ⟨l1, k1⟩ : ∃ x, l0 = x + a1 := ⟨l0 - a1, by omega⟩
      have g1 := q1.out l0 m0
      simp only [dec_yes t1, show l0 - a1 = l1 from by omega] at g1
      have G1 := Lib.hid g1
      have m1 : l1 ≤ 1048576 := by omega
      clear g1 t1
      by_cases t2 : a2 ≤ l1
      case' pos =>
        obtain ⟨l2, k2⟩ : ∃ x, l1 = x + a2 := ⟨l1 - a2, by omega⟩
        have g2 := q2.out l1 m1
        simp only [dec_yes t2, show l1 - a2 = l2 from by omega] at g2
        have G2 := Lib.hid g2
        have m2 : l2 ≤ 1048576 := by omega
        rw [dec_yes (by omega), show left - (a0 + (a1 + (a2))) = l2 from by omega]
        clear g2 t2 k0 k1 k2
        go_enter Try.func32, Try.ntmps32
        go_wp2_with fail
        refine (G0.out _ hB).mono ?_
        rintro e w0 ⟨rfl, hb0⟩
        replace bx := bx.later hb0
        replace hB := hB.trans (hb0.mono hB.size)
        obtain ⟨p0, p1, p2, p3, p4, pl⟩ := id bx.all5
        go_wp2_with fail
        refine (G1.out _ hB).mono ?_
        rintro e w1 ⟨rfl, hb1⟩
        replace bx := bx.later hb1
        replace hB := hB.trans (hb1.mono hB.size)
        obtain ⟨p0, p1, p2, p3, p4, pl⟩ := id bx.all5
        go_wp2_with fail
        refine (G2.out _ hB).mono ?_
        rintro e w2 ⟨rfl, hb2⟩
        replace bx := bx.later hb2
        replace hB := hB.trans (hb2.mono hB.size)
        obtain ⟨p0, p1, p2, p3, p4, pl⟩ := id bx.all5
        go_wp2
        go_ret
        exact ⟨rfl, hB⟩
      case neg =>
        have g2 := q2.out l1 m1
        simp only [dec_no t2] at g2
        have G2 := Lib.hid g2
        rw [dec_no (by omega)]
        clear g2 t2 k0 k1
        go_enter Try.func32, Try.ntmps32
        go_wp2_with fail
        refine (G0.out _ hB).mono ?_
        rintro e w0 ⟨rfl, hb0⟩
        replace bx := bx.later hb0
        replace hB := hB.trans (hb0.mono hB.size)
        obtain ⟨p0, p1, p2, p3, p4, pl⟩ := id bx.all5
        go_wp2_with fail
        refine (G1.out _ hB).mono ?_
        rintro e w1 ⟨rfl, hb1⟩
        replace bx := bx.later hb1
        replace hB := hB.trans (hb1.mono hB.size)
        obtain ⟨p0, p1, p2, p3, p4, pl⟩ := id bx.all5
        go_wp2_with fail
        refine (G2.out _ hB).mono ?_
        rintro e w2 ⟨rfl, hb2⟩
        replace bx := bx.later hb2
        replace hB := hB.trans (hb2.mono hB.size)
        obtain ⟨p0, p1, p2, p3, p4, pl⟩ := id bx.all5
        go_wp2
        go_ret
        exact ⟨rfl, hB⟩
    case neg =>
      have g1 := q1.out l0 m0
      simp only [dec_no t1] at g1
      have G1 := Lib.hid g1
      rw [dec_no (by omega)]
      clear g1 t1 k0
      go_enter Try.func32, Try.ntmps32
      go_wp2_with fail
      refine (G0.out _ hB).mono ?_
      rintro e w0 ⟨rfl, hb0⟩
      replace bx := bx.later hb0
      replace hB := hB.trans (hb0.mono hB.size)
      obtain ⟨p0, p1, p2, p3, p4, pl⟩ := id bx.all5
      go_wp2_with fail
      refine (G1.out _ hB).mono ?_
      rintro e w1 ⟨rfl, hb1⟩
      replace bx := bx.later hb1
      replace hB := hB.trans (hb1.mono hB.size)
      obtain ⟨p0, p1, p2, p3, p4, pl⟩ := id bx.all5
      go_wp2
      go_ret
      exact ⟨rfl, hB⟩
  case neg =>
    have g0 := q0.out left hl
    simp only [dec_no t0] at g0
    have G0 := Lib.hid g0
    rw [dec_no (by omega)]
    clear g0 t0 
    go_enter Try.func32, Try.ntmps32
    go_wp2_with fail
    refine (G0.out _ hB).mono ?_
    rintro e w0 ⟨rfl, hb0⟩
    replace bx := bx.later hb0
    replace hB := hB.trans (hb0.mono hB.size)
    obtain ⟨p0, p1, p2, p3, p4, pl⟩ := id bx.all5
    go_wp2
    go_ret
    exact ⟨rfl, hB⟩

theorem bd_of_rewriter {c : Rw} (h : cntRw c ≤ 1048576) : BdRw c := by
  unfold cntRw at h
  have g0 : cntOp2 c.call ≤ 1048576 := by omega
  have g1 : cntOm3 c.ret ≤ 1048576 := by omega
  have g2 : cntOm2 c.inner ≤ 1048576 := by omega
  refine ⟨bd2_ops g0, bd3_oms g1, bd2_oms g2, ?_⟩
  have z0 := le_ops2 c.call
  have z1 := le_oms3 c.ret
  have z2 := le_oms2 c.inner
  unfold szRw
  omega
end Go.Proofs.Ytmkamodmnplclaa
