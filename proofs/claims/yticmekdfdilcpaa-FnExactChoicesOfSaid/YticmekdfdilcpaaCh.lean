/- Choices that own their memory, and the laws' own functions on them. -/
import Derived.Test.YticmekdfdilcpaaChk
import Derived.Test.YticmekdfdilcpaaBox
import Derived.Test.YticmekdfdilcpaaConv
import Derived.Test.YticmekdfdilcpaaRows3
namespace Go.Proofs.Yticmekdfdilcpaa
open Go.RowKit Go.ChangeShapes Go.WideShapes Go.Deep
set_option linter.unusedVariables false

structure Ch where
  stack : Int
  starts : List Int
  accept : List Bool
  call : List (List (List (Int × Int)))
  ret : List (List (List (List Int)))
  inner : List (List (List Int))

def ChE (base : Nat) : EP Ch := fun w v c bs => ∃ v0 v1 v2 v3 v4 b0 b1 b2 b3 b4, v = .agg #[.int .i64 c.stack, v0, v1, v2, v3, v4] ∧
  IntsE base w v0 c.starts b0 ∧ BoolsE base w v1 c.accept b1 ∧ Push3E base w v2 c.call b2 ∧ Ints4E base w v3 c.ret b3 ∧ Ints3E base w v4 c.inner b4 ∧ bs = b0 ++ (b1 ++ (b2 ++ (b3 ++ (b4)))) ∧ bs.Nodup

theorem choices_ok (base : Nat) : EP.Ok base (ChE base) where
  kept := by
    rintro w w' v c bs ⟨v0, v1, v2, v3, v4, b0, b1, b2, b3, b4, rfl, h0, h1, h2, h3, h4, rfl, hn⟩ hs
    exact ⟨v0, v1, v2, v3, v4, b0, b1, b2, b3, b4, rfl, (ints_ok base).kept h0 (fun b hb => hs b (by simp [hb])), (bools_ok base).kept h1 (fun b hb => hs b (by simp [hb])), (push3_ok base).kept h2 (fun b hb => hs b (by simp [hb])), (ints4_ok base).kept h3 (fun b hb => hs b (by simp [hb])), (ints3_ok base).kept h4 (fun b hb => hs b (by simp [hb])), rfl, hn⟩
  lt := by
    rintro w v c bs ⟨v0, v1, v2, v3, v4, b0, b1, b2, b3, b4, rfl, h0, h1, h2, h3, h4, rfl, hn⟩ b hb
    simp only [List.mem_append] at hb
    rcases hb with hb | hb | hb | hb | hb
    · exact (ints_ok base).lt h0 b hb
    · exact (bools_ok base).lt h1 b hb
    · exact (push3_ok base).lt h2 b hb
    · exact (ints4_ok base).lt h3 b hb
    · exact (ints3_ok base).lt h4 b hb
  nodup := by rintro w v c bs ⟨v0, v1, v2, v3, v4, b0, b1, b2, b3, b4, rfl, h0, h1, h2, h3, h4, rfl, hn⟩; exact hn

theorem ChE.form {base : Nat} {w : World} {v : Value} {c : Ch} {bs : List Nat} (h : ChE base w v c bs) : ∃ (A0 : Option Addr) (n0 k0 : Nat) (A1 : Option Addr) (n1 k1 : Nat) (A2 : Option Addr) (n2 k2 : Nat) (A3 : Option Addr) (n3 k3 : Nat) (A4 : Option Addr) (n4 k4 : Nat),
    v = .agg #[.int .i64 c.stack, .slice A0 n0 k0, .slice A1 n1 k1, .slice A2 n2 k2, .slice A3 n3 k3, .slice A4 n4 k4] := by
  obtain ⟨v0, v1, v2, v3, v4, _, _, _, _, _, rfl, h0, h1, h2, h3, h4, _⟩ := h
  obtain ⟨A0, k0, rfl⟩ := RowE.slice h0
  obtain ⟨A1, k1, rfl⟩ := RowE.slice h1
  obtain ⟨A2, k2, rfl⟩ := ManyE.slice h2
  obtain ⟨A3, k3, rfl⟩ := ManyE.slice h3
  obtain ⟨A4, k4, rfl⟩ := ManyE.slice h4
  exact ⟨A0, _, k0, A1, _, k1, A2, _, k2, A3, _, k3, A4, _, k4, rfl⟩
def szH (c : Ch) : Nat := lenI c.starts + (List.length c.accept + ((szL (szL lenP)) c.call + ((szL (szL (szL lenI))) c.ret + ((szL (szL lenI)) c.inner))))
structure BdH (c : Ch) : Prop where
  starts : Bd1 c.starts
  accept : Bd1 c.accept
  call : Bd3 c.call
  ret : Bd4 c.ret
  inner : Bd3 c.inner
  sum : szH c ≤ 2100000

set_option maxHeartbeats 3200000 in
set_option maxRecDepth 100000 in
theorem eq_choices {base base' : Nat} {v v' : Value} {c : Ch} {bs bs' : List Nat} (w : World) (hc : BdH c) (ha : ChE base w v c bs) (hb : ChE base' w v' c bs') :
    Calls Try.prog 11 #[v, v'] w (SeenPost (.bool true) w) := by
  obtain ⟨v0, v1, v2, v3, v4, b0, b1, b2, b3, b4, rfl, h0, h1, h2, h3, h4, _, _⟩ := ha
  obtain ⟨u0, u1, u2, u3, u4, _, _, _, _, _, rfl, g0, g1, g2, g3, g4, _, _⟩ := hb
  have q0 := Lib.hid fun (W : World) (hw : Below w.heap.size w W) => eq_ints W hc.starts ((ints_ok base).later h0 hw) ((ints_ok base').later g0 hw)
  have q1 := Lib.hid fun (W : World) (hw : Below w.heap.size w W) => eq_bools W hc.accept ((bools_ok base).later h1 hw) ((bools_ok base').later g1 hw)
  have q2 := Lib.hid fun (W : World) (hw : Below w.heap.size w W) => eq_pushes3 W hc.call ((push3_ok base).later h2 hw) ((push3_ok base').later g2 hw)
  have q3 := Lib.hid fun (W : World) (hw : Below w.heap.size w W) => eq_ints4 W hc.ret ((ints4_ok base).later h3 hw) ((ints4_ok base').later g3 hw)
  have q4 := Lib.hid fun (W : World) (hw : Below w.heap.size w W) => eq_ints3 W hc.inner ((ints3_ok base).later h4 hw) ((ints3_ok base').later g4 hw)
  generalize c.stack = s0
  have x1 := (Bx.new w 33 #[.int .i64 s0, v0, v1, v2, v3, v4]).alloc (.cells #[.int .i64 s0, u0, u1, u2, u3, u4] 33)
  have x2 := Bx.new (w.alloc (.cells #[.int .i64 s0, v0, v1, v2, v3, v4] 33)) 33 #[.int .i64 s0, u0, u1, u2, u3, u4]
  rw [World.size_alloc] at x2
  have hB : Below w.heap.size w ((w.alloc (.cells #[.int .i64 s0, v0, v1, v2, v3, v4] 33)).alloc (.cells #[.int .i64 s0, u0, u1, u2, u3, u4] 33)) := ((Below.refl _ _).alloc (Nat.le_refl _) _).alloc (by simp) _
  clear h0 h1 h2 h3 h4 g0 g1 g2 g3 g4 hc
  obtain ⟨p0, p1, p2, p3, p4, p5, pl⟩ := x1.all6
  obtain ⟨d0, d1, d2, d3, d4, d5, dl⟩ := x2.all6
  go_enter Try.func11, Try.ntmps11
  go_wp2_with fail
  refine (q0.out _ hB).mono ?_
  rintro e w0 ⟨rfl, hb0⟩
  replace x1 := x1.later hb0
  replace x2 := x2.later hb0
  replace hB := hB.trans (hb0.mono hB.size)
  clear p0 p1 p2 p3 p4 p5 pl d0 d1 d2 d3 d4 d5 dl
  obtain ⟨p0, p1, p2, p3, p4, p5, pl⟩ := x1.all6
  obtain ⟨d0, d1, d2, d3, d4, d5, dl⟩ := x2.all6
  go_wp2_with fail
  refine (q1.out _ hB).mono ?_
  rintro e w1 ⟨rfl, hb1⟩
  replace x1 := x1.later hb1
  replace x2 := x2.later hb1
  replace hB := hB.trans (hb1.mono hB.size)
  clear p0 p1 p2 p3 p4 p5 pl d0 d1 d2 d3 d4 d5 dl
  obtain ⟨p0, p1, p2, p3, p4, p5, pl⟩ := x1.all6
  obtain ⟨d0, d1, d2, d3, d4, d5, dl⟩ := x2.all6
  go_wp2_with fail
  refine (q2.out _ hB).mono ?_
  rintro e w2 ⟨rfl, hb2⟩
  replace x1 := x1.later hb2
  replace x2 := x2.later hb2
  replace hB := hB.trans (hb2.mono hB.size)
  clear p0 p1 p2 p3 p4 p5 pl d0 d1 d2 d3 d4 d5 dl
  obtain ⟨p0, p1, p2, p3, p4, p5, pl⟩ := x1.all6
  obtain ⟨d0, d1, d2, d3, d4, d5, dl⟩ := x2.all6
  go_wp2_with fail
  refine (q3.out _ hB).mono ?_
  rintro e w3 ⟨rfl, hb3⟩
  replace x1 := x1.later hb3
  replace x2 := x2.later hb3
  replace hB := hB.trans (hb3.mono hB.size)
  clear p0 p1 p2 p3 p4 p5 pl d0 d1 d2 d3 d4 d5 dl
  obtain ⟨p0, p1, p2, p3, p4, p5, pl⟩ := x1.all6
  obtain ⟨d0, d1, d2, d3, d4, d5, dl⟩ := x2.all6
  go_wp2_with fail
  refine (q4.out _ hB).mono ?_
  rintro e w4 ⟨rfl, hb4⟩
  replace x1 := x1.later hb4
  replace x2 := x2.later hb4
  replace hB := hB.trans (hb4.mono hB.size)
  go_wp2
  go_ret
  exact ⟨rfl, hB⟩

def mkH (k : Nat) (c : Ch) : Ch :=
  { stack := c.stack, starts := mkI (k) c.starts, accept := mkB (k + lenI c.starts) c.accept, call := mkP3 (k + lenI c.starts + List.length c.accept) c.call, ret := mkI4 (k + lenI c.starts + List.length c.accept + (szL (szL lenP)) c.call) c.ret, inner := mkI3 (k + lenI c.starts + List.length c.accept + (szL (szL lenP)) c.call + (szL (szL (szL lenI))) c.ret) c.inner }
set_option maxHeartbeats 3200000 in
set_option maxRecDepth 100000 in
theorem mark_choices {base : Nat} {v : Value} {c : Ch} {bs : List Nat} (k0 : Nat) (w : World) (hc : BdH c) (hk : k0 ≤ 4000000) (ha : ChE base w v c bs) :
    Calls Try.prog 18 #[v, .int .i64 (k0 : Int)] w (MarkPost (ChE base) v (mkH k0 c) bs (k0 + szH c) w) := by
  have hlt := (choices_ok base).lt ha
  obtain ⟨v0, v1, v2, v3, v4, b0, b1, b2, b3, b4, rfl, h0, h1, h2, h3, h4, hbs, hn⟩ := ha
  have hsum := hc.sum
  rw [szH] at hsum
  obtain ⟨k1, hk1⟩ : ∃ k, k = k0 + lenI c.starts := ⟨_, rfl⟩
  obtain ⟨k2, hk2⟩ : ∃ k, k = k1 + List.length c.accept := ⟨_, rfl⟩
  obtain ⟨k3, hk3⟩ : ∃ k, k = k2 + (szL (szL lenP)) c.call := ⟨_, rfl⟩
  obtain ⟨k4, hk4⟩ : ∃ k, k = k3 + (szL (szL (szL lenI))) c.ret := ⟨_, rfl⟩
  obtain ⟨k5, hk5⟩ : ∃ k, k = k4 + (szL (szL lenI)) c.inner := ⟨_, rfl⟩
  have s100 : ∀ b ∈ b0, b < w.heap.size := fun b hb => (hlt b (by rw [hbs]; simp [hb])).2
  have s101 : ∀ b ∈ b1, b < w.heap.size := fun b hb => (hlt b (by rw [hbs]; simp [hb])).2
  have s102 : ∀ b ∈ b2, b < w.heap.size := fun b hb => (hlt b (by rw [hbs]; simp [hb])).2
  have s103 : ∀ b ∈ b3, b < w.heap.size := fun b hb => (hlt b (by rw [hbs]; simp [hb])).2
  have s104 : ∀ b ∈ b4, b < w.heap.size := fun b hb => (hlt b (by rw [hbs]; simp [hb])).2
  have dis : ∀ (x y : List Nat), (x ++ y).Nodup → ∀ b ∈ y, b ∉ x := fun x y h b hb hb' => (List.nodup_append.1 h).2.2 b hb' b hb rfl
  rw [hbs] at hn
  have d01 : ∀ b ∈ b1, b ∉ b0 := fun b hb => dis _ _ hn b (by simp [hb])
  have d10 : ∀ b ∈ b0, b ∉ b1 := fun b hb hb' => d01 b hb' hb
  have d02 : ∀ b ∈ b2, b ∉ b0 := fun b hb => dis _ _ hn b (by simp [hb])
  have d20 : ∀ b ∈ b0, b ∉ b2 := fun b hb hb' => d02 b hb' hb
  have d03 : ∀ b ∈ b3, b ∉ b0 := fun b hb => dis _ _ hn b (by simp [hb])
  have d30 : ∀ b ∈ b0, b ∉ b3 := fun b hb hb' => d03 b hb' hb
  have d04 : ∀ b ∈ b4, b ∉ b0 := fun b hb => dis _ _ hn b (by simp [hb])
  have d40 : ∀ b ∈ b0, b ∉ b4 := fun b hb hb' => d04 b hb' hb
  have hn1 := (List.nodup_append.1 hn).2.1
  have d12 : ∀ b ∈ b2, b ∉ b1 := fun b hb => dis _ _ hn1 b (by simp [hb])
  have d21 : ∀ b ∈ b1, b ∉ b2 := fun b hb hb' => d12 b hb' hb
  have d13 : ∀ b ∈ b3, b ∉ b1 := fun b hb => dis _ _ hn1 b (by simp [hb])
  have d31 : ∀ b ∈ b1, b ∉ b3 := fun b hb hb' => d13 b hb' hb
  have d14 : ∀ b ∈ b4, b ∉ b1 := fun b hb => dis _ _ hn1 b (by simp [hb])
  have d41 : ∀ b ∈ b1, b ∉ b4 := fun b hb hb' => d14 b hb' hb
  have hn2 := (List.nodup_append.1 hn1).2.1
  have d23 : ∀ b ∈ b3, b ∉ b2 := fun b hb => dis _ _ hn2 b (by simp [hb])
  have d32 : ∀ b ∈ b2, b ∉ b3 := fun b hb hb' => d23 b hb' hb
  have d24 : ∀ b ∈ b4, b ∉ b2 := fun b hb => dis _ _ hn2 b (by simp [hb])
  have d42 : ∀ b ∈ b2, b ∉ b4 := fun b hb hb' => d24 b hb' hb
  have hn3 := (List.nodup_append.1 hn2).2.1
  have d34 : ∀ b ∈ b4, b ∉ b3 := fun b hb => dis _ _ hn3 b (by simp [hb])
  have d43 : ∀ b ∈ b3, b ∉ b4 := fun b hb hb' => d34 b hb' hb
  have hn4 := (List.nodup_append.1 hn3).2.1
  have q0 := Lib.hid fun (W : World) (h : IntsE base W v0 c.starts b0) => mark_ints k0 W hc.starts (by first | omega | (unfold szL at *; omega)) h
  rw [show k0 + c.starts.length = k1 from hk1.symm] at q0
  have q1 := Lib.hid fun (W : World) (h : BoolsE base W v1 c.accept b1) => mark_bools k1 W hc.accept (by first | omega | (unfold szL at *; omega)) h
  rw [show k1 + c.accept.length = k2 from hk2.symm] at q1
  have q2 := Lib.hid fun (W : World) (h : Push3E base W v2 c.call b2) => mark_pushes3 k2 W hc.call (by first | omega | (unfold szL at *; omega)) h
  rw [show k2 + (szL (szL lenP)) c.call = k3 from hk3.symm] at q2
  have q3 := Lib.hid fun (W : World) (h : Ints4E base W v3 c.ret b3) => mark_ints4 k3 W hc.ret (by first | omega | (unfold szL at *; omega)) h
  rw [show k3 + (szL (szL (szL lenI))) c.ret = k4 from hk4.symm] at q3
  have q4 := Lib.hid fun (W : World) (h : Ints3E base W v4 c.inner b4) => mark_ints3 k4 W hc.inner (by first | omega | (unfold szL at *; omega)) h
  rw [show k4 + (szL (szL lenI)) c.inner = k5 from hk5.symm] at q4
  have hmk : mkH k0 c = { stack := c.stack, starts := mkI k0 c.starts, accept := mkB k1 c.accept, call := mkP3 k2 c.call, ret := mkI4 k3 c.ret, inner := mkI3 k4 c.inner } := by rw [mkH, hk4, hk3, hk2, hk1]
  have hke : k0 + szH c = k5 := by rw [szH, hk5, hk4, hk3, hk2, hk1]; omega
  rw [hmk, hke]
  have l1 : k1 ≤ 8388608 := by omega
  have l2 : k2 ≤ 8388608 := by omega
  have l3 : k3 ≤ 8388608 := by omega
  have l4 : k4 ≤ 8388608 := by omega
  have l5 : k5 ≤ 8388608 := by omega
  have hbx := Bx.new w 33 #[.int .i64 c.stack, v0, v1, v2, v3, v4]
  have hB : Below w.heap.size w (w.alloc (.cells #[.int .i64 c.stack, v0, v1, v2, v3, v4] 33)) := (Below.refl _ _).alloc (Nat.le_refl _) _
  have e0 := (ints_ok base).later h0 hB
  have e1 := (bools_ok base).later h1 hB
  have e2 := (push3_ok base).later h2 hB
  have e3 := (ints4_ok base).later h3 hB
  have e4 := (ints3_ok base).later h4 hB
  have x0 : w.heap.size ∉ b0 := fun h => by have := s100 _ h; omega
  have x1 : w.heap.size ∉ b1 := fun h => by have := s101 _ h; omega
  have x2 : w.heap.size ∉ b2 := fun h => by have := s102 _ h; omega
  have x3 : w.heap.size ∉ b3 := fun h => by have := s103 _ h; omega
  have x4 : w.heap.size ∉ b4 := fun h => by have := s104 _ h; omega
  have T0 : Turned bs w (w.alloc (.cells #[.int .i64 c.stack, v0, v1, v2, v3, v4] 33)) := Turned.of_below hB
  have m0 : ∀ b ∈ b0, b ∈ bs := fun b hb => by rw [hbs]; simp [hb]
  have m1 : ∀ b ∈ b1, b ∈ bs := fun b hb => by rw [hbs]; simp [hb]
  have m2 : ∀ b ∈ b2, b ∈ bs := fun b hb => by rw [hbs]; simp [hb]
  have m3 : ∀ b ∈ b3, b ∈ bs := fun b hb => by rw [hbs]; simp [hb]
  have m4 : ∀ b ∈ b4, b ∈ bs := fun b hb => by rw [hbs]; simp [hb]
  have Hbs := Lib.hid hbs
  have Hn := Lib.hid hn
  have D01 := Lib.hid d01
  have D02 := Lib.hid d02
  have D03 := Lib.hid d03
  have D04 := Lib.hid d04
  have D10 := Lib.hid d10
  have D12 := Lib.hid d12
  have D13 := Lib.hid d13
  have D14 := Lib.hid d14
  have D20 := Lib.hid d20
  have D21 := Lib.hid d21
  have D23 := Lib.hid d23
  have D24 := Lib.hid d24
  have D30 := Lib.hid d30
  have D31 := Lib.hid d31
  have D32 := Lib.hid d32
  have D34 := Lib.hid d34
  have D40 := Lib.hid d40
  have D41 := Lib.hid d41
  have D42 := Lib.hid d42
  have D43 := Lib.hid d43
  have M0 := Lib.hid m0
  have X0 := Lib.hid x0
  have M1 := Lib.hid m1
  have X1 := Lib.hid x1
  have M2 := Lib.hid m2
  have X2 := Lib.hid x2
  have M3 := Lib.hid m3
  have X3 := Lib.hid x3
  have M4 := Lib.hid m4
  have X4 := Lib.hid x4
  clear hlt h0 h1 h2 h3 h4 hbs hn dis hn1 hn2 hn3 hn4 hsum hmk hke hk1 hk2 hk3 hk4 hk5 s100 s101 s102 s103 s104 d01 d02 d03 d04 d10 d12 d13 d14 d20 d21 d23 d24 d30 d31 d32 d34 d40 d41 d42 d43 m0 m1 m2 m3 m4 x0 x1 x2 x3 x4
  obtain ⟨p0, p1, p2, p3, p4, p5, pl⟩ := hbx.all6
  go_enter Try.func18, Try.ntmps18
  go_wp2_with fail
  refine (q0.out _ e0).mono ?_
  rintro e w0 ⟨rfl, f0, t0⟩
  replace e1 := (bools_ok base).off e1 t0 D01.out
  replace e2 := (push3_ok base).off e2 t0 D02.out
  replace e3 := (ints4_ok base).off e3 t0 D03.out
  replace e4 := (ints3_ok base).off e4 t0 D04.out
  replace hbx := hbx.off t0 X0.out
  clear p0 p1 p2 p3 p4 p5 pl
  obtain ⟨p0, p1, p2, p3, p4, p5, pl⟩ := hbx.all6
  go_wp2_with fail
  refine (q1.out _ e1).mono ?_
  rintro e w1 ⟨rfl, f1, t1⟩
  replace f0 := (ints_ok base).off f0 t1 D10.out
  replace e2 := (push3_ok base).off e2 t1 D12.out
  replace e3 := (ints4_ok base).off e3 t1 D13.out
  replace e4 := (ints3_ok base).off e4 t1 D14.out
  replace hbx := hbx.off t1 X1.out
  clear p0 p1 p2 p3 p4 p5 pl
  obtain ⟨p0, p1, p2, p3, p4, p5, pl⟩ := hbx.all6
  go_wp2_with fail
  refine (q2.out _ e2).mono ?_
  rintro e w2 ⟨rfl, f2, t2⟩
  replace f0 := (ints_ok base).off f0 t2 D20.out
  replace f1 := (bools_ok base).off f1 t2 D21.out
  replace e3 := (ints4_ok base).off e3 t2 D23.out
  replace e4 := (ints3_ok base).off e4 t2 D24.out
  replace hbx := hbx.off t2 X2.out
  clear p0 p1 p2 p3 p4 p5 pl
  obtain ⟨p0, p1, p2, p3, p4, p5, pl⟩ := hbx.all6
  go_wp2_with fail
  refine (q3.out _ e3).mono ?_
  rintro e w3 ⟨rfl, f3, t3⟩
  replace f0 := (ints_ok base).off f0 t3 D30.out
  replace f1 := (bools_ok base).off f1 t3 D31.out
  replace f2 := (push3_ok base).off f2 t3 D32.out
  replace e4 := (ints3_ok base).off e4 t3 D34.out
  replace hbx := hbx.off t3 X3.out
  clear p0 p1 p2 p3 p4 p5 pl
  obtain ⟨p0, p1, p2, p3, p4, p5, pl⟩ := hbx.all6
  go_wp2_with fail
  refine (q4.out _ e4).mono ?_
  rintro e w4 ⟨rfl, f4, t4⟩
  replace f0 := (ints_ok base).off f0 t4 D40.out
  replace f1 := (bools_ok base).off f1 t4 D41.out
  replace f2 := (push3_ok base).off f2 t4 D42.out
  replace f3 := (ints4_ok base).off f3 t4 D43.out
  go_wp2
  go_ret
  exact ⟨rfl, ⟨v0, v1, v2, v3, v4, b0, b1, b2, b3, b4, rfl, f0, f1, f2, f3, f4, Hbs.out, by rw [Hbs.out]; exact Hn.out⟩, (((((T0.trans (t0.mono M0.out)).trans (t1.mono M1.out)).trans (t2.mono M2.out)).trans (t3.mono M3.out)).trans (t4.mono M4.out))⟩

set_option maxHeartbeats 3200000 in
set_option maxRecDepth 100000 in
theorem held_choices {base : Nat} {v : Value} {c : Ch} {bs : List Nat} (k0 : Nat) (w : World) (hc : BdH c) (hk : k0 ≤ 4000000) (ha : ChE base w v (mkH k0 c) bs) :
    Calls Try.prog 19 #[v, .int .i64 (k0 : Int)] w (SeenPost (.int .i64 ((k0 + szH c : Nat) : Int)) w) := by
  obtain ⟨v0, v1, v2, v3, v4, b0, b1, b2, b3, b4, rfl, h0, h1, h2, h3, h4, _, _⟩ := ha
  have hsum := hc.sum
  rw [szH] at hsum
  obtain ⟨k1, hk1⟩ : ∃ k, k = k0 + lenI c.starts := ⟨_, rfl⟩
  obtain ⟨k2, hk2⟩ : ∃ k, k = k1 + List.length c.accept := ⟨_, rfl⟩
  obtain ⟨k3, hk3⟩ : ∃ k, k = k2 + (szL (szL lenP)) c.call := ⟨_, rfl⟩
  obtain ⟨k4, hk4⟩ : ∃ k, k = k3 + (szL (szL (szL lenI))) c.ret := ⟨_, rfl⟩
  obtain ⟨k5, hk5⟩ : ∃ k, k = k4 + (szL (szL lenI)) c.inner := ⟨_, rfl⟩
  have g0 : IntsE base w v0 (mkI k0 c.starts) b0 := by exact h0
  have g1 : BoolsE base w v1 (mkB k1 c.accept) b1 := by rw [hk1]; exact h1
  have g2 : Push3E base w v2 (mkP3 k2 c.call) b2 := by rw [hk2, hk1]; exact h2
  have g3 : Ints4E base w v3 (mkI4 k3 c.ret) b3 := by rw [hk3, hk2, hk1]; exact h3
  have g4 : Ints3E base w v4 (mkI3 k4 c.inner) b4 := by rw [hk4, hk3, hk2, hk1]; exact h4
  have q0 := Lib.hid fun (W : World) (hw : Below w.heap.size w W) => held_ints k0 W hc.starts (by first | omega | (unfold szL at *; omega)) ((ints_ok base).later g0 hw)
  rw [show k0 + c.starts.length = k1 from hk1.symm] at q0
  have q1 := Lib.hid fun (W : World) (hw : Below w.heap.size w W) => held_bools k1 W hc.accept (by first | omega | (unfold szL at *; omega)) ((bools_ok base).later g1 hw)
  rw [show k1 + c.accept.length = k2 from hk2.symm] at q1
  have q2 := Lib.hid fun (W : World) (hw : Below w.heap.size w W) => held_pushes3 k2 W hc.call (by first | omega | (unfold szL at *; omega)) ((push3_ok base).later g2 hw)
  rw [show k2 + (szL (szL lenP)) c.call = k3 from hk3.symm] at q2
  have q3 := Lib.hid fun (W : World) (hw : Below w.heap.size w W) => held_ints4 k3 W hc.ret (by first | omega | (unfold szL at *; omega)) ((ints4_ok base).later g3 hw)
  rw [show k3 + (szL (szL (szL lenI))) c.ret = k4 from hk4.symm] at q3
  have q4 := Lib.hid fun (W : World) (hw : Below w.heap.size w W) => held_ints3 k4 W hc.inner (by first | omega | (unfold szL at *; omega)) ((ints3_ok base).later g4 hw)
  rw [show k4 + (szL (szL lenI)) c.inner = k5 from hk5.symm] at q4
  have hke : k0 + szH c = k5 := by rw [szH, hk5, hk4, hk3, hk2, hk1]; omega
  rw [hke]
  have l1 : k1 ≤ 8388608 := by omega
  have l2 : k2 ≤ 8388608 := by omega
  have l3 : k3 ≤ 8388608 := by omega
  have l4 : k4 ≤ 8388608 := by omega
  have l5 : k5 ≤ 8388608 := by omega
  obtain ⟨s0, hs0⟩ : ∃ s, s = (mkH k0 c).stack := ⟨_, rfl⟩
  rw [← hs0]
  have hbx := Bx.new w 33 #[.int .i64 s0, v0, v1, v2, v3, v4]
  have hB : Below w.heap.size w (w.alloc (.cells #[.int .i64 s0, v0, v1, v2, v3, v4] 33)) := (Below.refl _ _).alloc (Nat.le_refl _) _
  clear h0 h1 h2 h3 h4 g0 g1 g2 g3 g4 hsum hk1 hk2 hk3 hk4 hk5 hke hs0
  obtain ⟨p0, p1, p2, p3, p4, p5, pl⟩ := hbx.all6
  go_enter Try.func19, Try.ntmps19
  go_wp2_with fail
  refine (q0.out _ hB).mono ?_
  rintro e w0 ⟨rfl, hb0⟩
  replace hbx := hbx.later hb0
  replace hB := hB.trans (hb0.mono hB.size)
  clear p0 p1 p2 p3 p4 p5 pl
  obtain ⟨p0, p1, p2, p3, p4, p5, pl⟩ := hbx.all6
  go_wp2_with fail
  refine (q1.out _ hB).mono ?_
  rintro e w1 ⟨rfl, hb1⟩
  replace hbx := hbx.later hb1
  replace hB := hB.trans (hb1.mono hB.size)
  clear p0 p1 p2 p3 p4 p5 pl
  obtain ⟨p0, p1, p2, p3, p4, p5, pl⟩ := hbx.all6
  go_wp2_with fail
  refine (q2.out _ hB).mono ?_
  rintro e w2 ⟨rfl, hb2⟩
  replace hbx := hbx.later hb2
  replace hB := hB.trans (hb2.mono hB.size)
  clear p0 p1 p2 p3 p4 p5 pl
  obtain ⟨p0, p1, p2, p3, p4, p5, pl⟩ := hbx.all6
  go_wp2_with fail
  refine (q3.out _ hB).mono ?_
  rintro e w3 ⟨rfl, hb3⟩
  replace hbx := hbx.later hb3
  replace hB := hB.trans (hb3.mono hB.size)
  clear p0 p1 p2 p3 p4 p5 pl
  obtain ⟨p0, p1, p2, p3, p4, p5, pl⟩ := hbx.all6
  go_wp2_with fail
  refine (q4.out _ hB).mono ?_
  rintro e w4 ⟨rfl, hb4⟩
  replace hbx := hbx.later hb4
  replace hB := hB.trans (hb4.mono hB.size)
  go_wp2
  go_ret
  exact ⟨rfl, hB⟩

structure WfH (c : Ch) : Prop where
  stack : I64 c.stack
  starts : WfI c.starts
  accept : True
  call : ∀ x ∈ c.call, ∀ y ∈ x, WfP y
  ret : ∀ x ∈ c.ret, ∀ y ∈ x, ∀ z ∈ y, WfI z
  inner : ∀ x ∈ c.inner, ∀ y ∈ x, WfI y
/-- A laws.Choices that came in. -/
def ChR : RP Ch := fun w v c => ∃ v0 v1 v2 v3 v4, v = .agg #[.int .i64 c.stack, v0, v1, v2, v3, v4] ∧ IntsR w v0 c.starts ∧ BoolsR w v1 c.accept ∧ Push3R w v2 c.call ∧ Ints4R w v3 c.ret ∧ Ints3R w v4 c.inner
theorem choices_r : RP.Ok ChR where
  later := by
    rintro w w' v c ⟨v0, v1, v2, v3, v4, rfl, h0, h1, h2, h3, h4⟩ hb
    exact ⟨v0, v1, v2, v3, v4, rfl, ints_r.later h0 hb, bools_r.later h1 hb, pushes3_r.later h2 hb, ints4_r.later h3 hb, ints3_r.later h4 hb⟩
theorem ChR.form {w : World} {v : Value} {c : Ch} (h : ChR w v c) : ∃ (A0 : Option Addr) (n0 k0 : Nat) (A1 : Option Addr) (n1 k1 : Nat) (A2 : Option Addr) (n2 k2 : Nat) (A3 : Option Addr) (n3 k3 : Nat) (A4 : Option Addr) (n4 k4 : Nat),
    v = .agg #[.int .i64 c.stack, .slice A0 n0 k0, .slice A1 n1 k1, .slice A2 n2 k2, .slice A3 n3 k3, .slice A4 n4 k4] := by
  obtain ⟨v0, v1, v2, v3, v4, rfl, h0, h1, h2, h3, h4⟩ := h
  obtain ⟨A0, k0, rfl, _⟩ := h0
  obtain ⟨A1, k1, rfl, _⟩ := h1
  obtain ⟨A2, k2, rfl, _⟩ := h2
  obtain ⟨A3, k3, rfl, _⟩ := h3
  obtain ⟨A4, k4, rfl, _⟩ := h4
  exact ⟨A0, _, k0, A1, _, k1, A2, _, k2, A3, _, k3, A4, _, k4, rfl⟩

theorem cells_Choices : Try.prog.cellsOf 28 = 6 := by kernel_rfl
theorem cells_Choices_i : Try.prog.cellsOf 2 = 1 := by kernel_rfl
theorem cells_Choices_0 : Try.prog.cellsOf 22 = 1 := by kernel_rfl
theorem cells_Choices_1 : Try.prog.cellsOf 23 = 1 := by kernel_rfl
theorem cells_Choices_2 : Try.prog.cellsOf 24 = 1 := by kernel_rfl
theorem cells_Choices_3 : Try.prog.cellsOf 25 = 1 := by kernel_rfl
theorem cells_Choices_4 : Try.prog.cellsOf 26 = 1 := by kernel_rfl
section
variable {H : Type} {enc : TypeId × Value → H} {w : World} {held : Bool}
set_option maxRecDepth 100000 in
theorem open_choices {r : Reach} {b0 : Nat} {v : Value} {d : DataW H} {p : List MemPlace} (hv : Value.okWide Try.prog w r b0 28 v) (h : DataW.Trod enc Try.prog w 0 (fun _ => true) held 28 v d p) : ∃ c, ChR w v c ∧ WfH c := by
  obtain ⟨cs, rfl, hsz⟩ := okWide_struct Try.underlying28 hv
  rw [cells_Choices] at hsz
  obtain ⟨fuel, hf⟩ := h
  obtain ⟨xs, n, _, _, _, hxl, hg⟩ := DataW.trod_struct Try.underlying28 hf
  obtain ⟨l⟩ := cs
  match l, hsz with
  | [c0, c1, c2, c3, c4, c5], _ =>
    have hx : ∀ i, i < 6 → ∃ y, xs[i]? = some y := fun i hi => ⟨xs[i]'(by rw [hxl]; exact hi), List.getElem?_eq_getElem _⟩
    obtain ⟨y0, e0⟩ := hx 0 (by decide)
    obtain ⟨y1, e1⟩ := hx 1 (by decide)
    obtain ⟨y2, e2⟩ := hx 2 (by decide)
    obtain ⟨y3, e3⟩ := hx 3 (by decide)
    obtain ⟨y4, e4⟩ := hx 4 (by decide)
    obtain ⟨y5, e5⟩ := hx 5 (by decide)
    have g0 : DataW.trod enc Try.prog w 0 (fun _ => true) held n 2 (([c0, c1, c2, c3, c4, c5].drop 0).take (Try.prog.cellsOf 2)) = some y0 := (hg 0 _ rfl).trans e0
    have g1 : DataW.trod enc Try.prog w 0 (fun _ => true) held n 22 (([c0, c1, c2, c3, c4, c5].drop 1).take (Try.prog.cellsOf 22)) = some y1 := (hg 1 _ rfl).trans e1
    have g2 : DataW.trod enc Try.prog w 0 (fun _ => true) held n 23 (([c0, c1, c2, c3, c4, c5].drop 2).take (Try.prog.cellsOf 23)) = some y2 := (hg 2 _ rfl).trans e2
    have g3 : DataW.trod enc Try.prog w 0 (fun _ => true) held n 24 (([c0, c1, c2, c3, c4, c5].drop 3).take (Try.prog.cellsOf 24)) = some y3 := (hg 3 _ rfl).trans e3
    have g4 : DataW.trod enc Try.prog w 0 (fun _ => true) held n 25 (([c0, c1, c2, c3, c4, c5].drop 4).take (Try.prog.cellsOf 25)) = some y4 := (hg 4 _ rfl).trans e4
    have g5 : DataW.trod enc Try.prog w 0 (fun _ => true) held n 26 (([c0, c1, c2, c3, c4, c5].drop 5).take (Try.prog.cellsOf 26)) = some y5 := (hg 5 _ rfl).trans e5
    rw [cells_Choices_i] at g0
    rw [cells_Choices_0] at g1
    rw [cells_Choices_1] at g2
    rw [cells_Choices_2] at g3
    rw [cells_Choices_3] at g4
    rw [cells_Choices_4] at g5
    simp only [List.drop_zero, List.drop_succ_cons, List.take_succ_cons, List.take_zero] at g0 g1 g2 g3 g4 g5
    obtain ⟨a0, ha0, wa0⟩ := read_int g0
    obtain ⟨x0, r0, w0⟩ := read_ints g1
    obtain ⟨x1, r1, w1⟩ := read_bools g2
    obtain ⟨x2, r2, w2⟩ := read_pushes3 g3
    obtain ⟨x3, r3, w3⟩ := read_ints4 g4
    obtain ⟨x4, r4, w4⟩ := read_ints3 g5
    simp only [List.cons.injEq, and_true] at ha0
    exact ⟨⟨a0, x0, x1, x2, x3, x4⟩, ⟨c1, c2, c3, c4, c5, by rw [ha0], r0, r1, r2, r3, r4⟩, ⟨wa0, w0, trivial, w2, w3, w4⟩⟩
end

/-- While toChoices runs: the argument's box, the result's, and that of what is made. -/
structure StgCh (w W : World) (c1 c2 c3 : Array Value) : Prop where
  b1 : Bx W w.heap.size 28 c1
  b2 : Bx W (w.heap.size + 1) 33 c2
  b3 : Bx W (w.heap.size + 1 + 1) 33 c3
  below : Below w.heap.size w W
theorem StgCh.size {w W : World} {c1 c2 c3 : Array Value} (h : StgCh w W c1 c2 c3) : w.heap.size + 1 + 1 + 1 ≤ W.heap.size := h.b3.lt
theorem StgCh.next {w W W' : World} {c1 c2 c3 : Array Value} (h : StgCh w W c1 c2 c3) (hb : Below W.heap.size W W') (i : Nat) (u : Value) : StgCh w (W'.setCell ⟨w.heap.size + 1 + 1, i, none⟩ u) c1 c2 (c3.setIfInBounds i u) :=
  ⟨(h.b1.later hb).other i u (by omega), (h.b2.later hb).other i u (by omega), (h.b3.later hb).set i u, (h.below.trans (hb.mono h.below.size)).setCell (p := ⟨w.heap.size + 1 + 1, i, none⟩) (by simp; omega) u⟩
set_option maxHeartbeats 3200000 in
set_option maxRecDepth 100000 in
theorem to_choices {v : Value} {c : Ch} (w : World) (hc : BdH c) (ha : ChR w v c) : Calls Try.prog 9 #[v] w (NewPost ChE c w) := by
  obtain ⟨v0, v1, v2, v3, v4, rfl, h0, h1, h2, h3, h4⟩ := ha
  have q0 := Lib.hid fun (W : World) (hw : Below w.heap.size w W) => to_ints W hc.starts (ints_r.later h0 hw)
  have q1 := Lib.hid fun (W : World) (hw : Below w.heap.size w W) => to_bools W hc.accept (bools_r.later h1 hw)
  have q2 := Lib.hid fun (W : World) (hw : Below w.heap.size w W) => to_pushes3 W hc.call (pushes3_r.later h2 hw)
  have q3 := Lib.hid fun (W : World) (hw : Below w.heap.size w W) => to_ints4 W hc.ret (ints4_r.later h3 hw)
  have q4 := Lib.hid fun (W : World) (hw : Below w.heap.size w W) => to_ints3 W hc.inner (ints3_r.later h4 hw)
  clear h0 h1 h2 h3 h4 hc
  obtain ⟨s0, x0, x1, x2, x3, x4⟩ := c
  dsimp only at q0 q1 q2 q3 q4 ⊢
  obtain ⟨W0, hW0⟩ : ∃ W0, W0 = ((w.alloc (.cells #[.int .i64 s0, v0, v1, v2, v3, v4] 28)).alloc (.cells #[.int .i64 0, .slice none 0 0, .slice none 0 0, .slice none 0 0, .slice none 0 0, .slice none 0 0] 33)).alloc (.cells #[.int .i64 s0, .slice none 0 0, .slice none 0 0, .slice none 0 0, .slice none 0 0, .slice none 0 0] 33) := ⟨_, rfl⟩
  have y1 : Bx W0 w.heap.size 28 #[.int .i64 s0, v0, v1, v2, v3, v4] := by rw [hW0]; exact ((Bx.new w _ _).alloc _).alloc _
  have y2 : Bx W0 (w.heap.size + 1) 33 #[.int .i64 0, .slice none 0 0, .slice none 0 0, .slice none 0 0, .slice none 0 0, .slice none 0 0] := by
    rw [hW0]
    have := (Bx.new (w.alloc (.cells #[.int .i64 s0, v0, v1, v2, v3, v4] 28)) 33 #[.int .i64 0, .slice none 0 0, .slice none 0 0, .slice none 0 0, .slice none 0 0, .slice none 0 0]).alloc (.cells #[.int .i64 s0, .slice none 0 0, .slice none 0 0, .slice none 0 0, .slice none 0 0, .slice none 0 0] 33)
    rwa [World.size_alloc] at this
  have y3 : Bx W0 (w.heap.size + 1 + 1) 33 #[.int .i64 s0, .slice none 0 0, .slice none 0 0, .slice none 0 0, .slice none 0 0, .slice none 0 0] := by
    rw [hW0]
    have := Bx.new ((w.alloc (.cells #[.int .i64 s0, v0, v1, v2, v3, v4] 28)).alloc (.cells #[.int .i64 0, .slice none 0 0, .slice none 0 0, .slice none 0 0, .slice none 0 0, .slice none 0 0] 33)) 33 #[.int .i64 s0, .slice none 0 0, .slice none 0 0, .slice none 0 0, .slice none 0 0, .slice none 0 0]
    rwa [World.size_alloc, World.size_alloc] at this
  have hB0 : Below w.heap.size w W0 := by rw [hW0]; exact (((Below.refl _ _).alloc (Nat.le_refl _) _).alloc (by simp) _).alloc (by simp; omega) _
  have hz0 : W0.heap.size = w.heap.size + 1 + 1 + 1 := by rw [hW0]; simp
  have S0 : StgCh w W0 #[.int .i64 s0, v0, v1, v2, v3, v4] #[.int .i64 0, .slice none 0 0, .slice none 0 0, .slice none 0 0, .slice none 0 0, .slice none 0 0] #[.int .i64 s0, .slice none 0 0, .slice none 0 0, .slice none 0 0, .slice none 0 0, .slice none 0 0] := ⟨y1, y2, y3, hB0⟩
  have HW0 := Lib.hid hW0
  have hS := S0.size
  clear hW0 y1 y2 y3
  go_enter Try.func9, Try.ntmps9
  go_wp2_with fail
  rw [← HW0.out]
  refine (q0.out _ hB0).mono ?_
  rintro e w0 ⟨r0, bs0, rfl, E0, hb0⟩
  obtain ⟨A0, k0, rfl⟩ := RowE.slice E0
  have S1 := S0.next hb0 1 (.slice A0 x0.length k0)
  have l0 := (ints_ok _).lt E0
  have t0 := S1.size
  have F0 := E0
  replace E0 := keepE (ints_ok _) E0 (Below.refl _ _) (B := w.heap.size + 1 + 1) (fun b hb => by have := l0 b hb; omega) 1 (.slice A0 x0.length k0)
  have c0 := (S0.b1.later hb0).cell 2 (v1) rfl
  have c1 := (S0.b3.later hb0).cell 1 (.slice none 0 0) rfl
  have c2 := (S0.b3.later hb0).frozen 1
  go_wp2_with fail
  refine (q1.out _ S1.below).mono ?_
  clear c0 c1 c2
  rintro e w1 ⟨r1, bs1, rfl, E1, hb1⟩
  obtain ⟨A1, k1, rfl⟩ := RowE.slice E1
  have S2 := S1.next hb1 2 (.slice A1 x1.length k1)
  have l1 := (bools_ok _).lt E1
  have t1 := S2.size
  rw [size_set] at l1 t0
  replace E0 := keepE (ints_ok _) E0 hb1 (B := w.heap.size + 1 + 1) (fun b hb => by have := l0 b hb; omega) 2 (.slice A1 x1.length k1)
  have F1 := E1
  replace E1 := keepE (bools_ok _) E1 (Below.refl _ _) (B := w.heap.size + 1 + 1) (fun b hb => by have := l1 b hb; omega) 2 (.slice A1 x1.length k1)
  have c0 := (S1.b1.later hb1).cell 3 (v2) rfl
  have c1 := (S1.b3.later hb1).cell 2 (.slice none 0 0) rfl
  have c2 := (S1.b3.later hb1).frozen 2
  go_wp2_with fail
  refine (q2.out _ S2.below).mono ?_
  clear c0 c1 c2
  rintro e w2 ⟨r2, bs2, rfl, E2, hb2⟩
  obtain ⟨A2, k2, rfl⟩ := ManyE.slice E2
  have S3 := S2.next hb2 3 (.slice A2 x2.length k2)
  have l2 := (push3_ok _).lt E2
  have t2 := S3.size
  rw [size_set] at l2 t1
  replace E0 := keepE (ints_ok _) E0 hb2 (B := w.heap.size + 1 + 1) (fun b hb => by have := l0 b hb; omega) 3 (.slice A2 x2.length k2)
  replace E1 := keepE (bools_ok _) E1 hb2 (B := w.heap.size + 1 + 1) (fun b hb => by have := l1 b hb; omega) 3 (.slice A2 x2.length k2)
  have F2 := E2
  replace E2 := keepE (push3_ok _) E2 (Below.refl _ _) (B := w.heap.size + 1 + 1) (fun b hb => by have := l2 b hb; omega) 3 (.slice A2 x2.length k2)
  have c0 := (S2.b1.later hb2).cell 4 (v3) rfl
  have c1 := (S2.b3.later hb2).cell 3 (.slice none 0 0) rfl
  have c2 := (S2.b3.later hb2).frozen 3
  go_wp2_with fail
  refine (q3.out _ S3.below).mono ?_
  clear c0 c1 c2
  rintro e w3 ⟨r3, bs3, rfl, E3, hb3⟩
  obtain ⟨A3, k3, rfl⟩ := ManyE.slice E3
  have S4 := S3.next hb3 4 (.slice A3 x3.length k3)
  have l3 := (ints4_ok _).lt E3
  have t3 := S4.size
  rw [size_set] at l3 t2
  replace E0 := keepE (ints_ok _) E0 hb3 (B := w.heap.size + 1 + 1) (fun b hb => by have := l0 b hb; omega) 4 (.slice A3 x3.length k3)
  replace E1 := keepE (bools_ok _) E1 hb3 (B := w.heap.size + 1 + 1) (fun b hb => by have := l1 b hb; omega) 4 (.slice A3 x3.length k3)
  replace E2 := keepE (push3_ok _) E2 hb3 (B := w.heap.size + 1 + 1) (fun b hb => by have := l2 b hb; omega) 4 (.slice A3 x3.length k3)
  have F3 := E3
  replace E3 := keepE (ints4_ok _) E3 (Below.refl _ _) (B := w.heap.size + 1 + 1) (fun b hb => by have := l3 b hb; omega) 4 (.slice A3 x3.length k3)
  have c0 := (S3.b1.later hb3).cell 5 (v4) rfl
  have c1 := (S3.b3.later hb3).cell 4 (.slice none 0 0) rfl
  have c2 := (S3.b3.later hb3).frozen 4
  go_wp2_with fail
  refine (q4.out _ S4.below).mono ?_
  clear c0 c1 c2
  rintro e w4 ⟨r4, bs4, rfl, E4, hb4⟩
  obtain ⟨A4, k4, rfl⟩ := ManyE.slice E4
  have S5 := S4.next hb4 5 (.slice A4 x4.length k4)
  have l4 := (ints3_ok _).lt E4
  have t4 := S5.size
  rw [size_set] at l4 t3
  replace E0 := keepE (ints_ok _) E0 hb4 (B := w.heap.size + 1 + 1) (fun b hb => by have := l0 b hb; omega) 5 (.slice A4 x4.length k4)
  replace E1 := keepE (bools_ok _) E1 hb4 (B := w.heap.size + 1 + 1) (fun b hb => by have := l1 b hb; omega) 5 (.slice A4 x4.length k4)
  replace E2 := keepE (push3_ok _) E2 hb4 (B := w.heap.size + 1 + 1) (fun b hb => by have := l2 b hb; omega) 5 (.slice A4 x4.length k4)
  replace E3 := keepE (ints4_ok _) E3 hb4 (B := w.heap.size + 1 + 1) (fun b hb => by have := l3 b hb; omega) 5 (.slice A4 x4.length k4)
  have F4 := E4
  replace E4 := keepE (ints3_ok _) E4 (Below.refl _ _) (B := w.heap.size + 1 + 1) (fun b hb => by have := l4 b hb; omega) 5 (.slice A4 x4.length k4)
  have c1 := (S4.b3.later hb4).cell 5 (.slice none 0 0) rfl
  have c2 := (S4.b3.later hb4).frozen 5
  rw [size_set] at t4
  have d0 := S5.b3.cell 0 (.int .i64 s0) rfl
  have d1 := S5.b3.cell 1 (.slice A0 x0.length k0) rfl
  have d2 := S5.b3.cell 2 (.slice A1 x1.length k1) rfl
  have d3 := S5.b3.cell 3 (.slice A2 x2.length k2) rfl
  have d4 := S5.b3.cell 4 (.slice A3 x3.length k3) rfl
  have d5 := S5.b3.cell 5 (.slice A4 x4.length k4) rfl
  have p1 := S5.b2
  have e0 := p1.cell 0 (.int .i64 0) rfl
  have f0 := p1.frozen 0
  have e1 := p1.cell 1 (.slice none 0 0) rfl
  have f1 := p1.frozen 1
  have e2 := p1.cell 2 (.slice none 0 0) rfl
  have f2 := p1.frozen 2
  have e3 := p1.cell 3 (.slice none 0 0) rfl
  have f3 := p1.frozen 3
  have e4 := p1.cell 4 (.slice none 0 0) rfl
  have f4 := p1.frozen 4
  have e5 := p1.cell 5 (.slice none 0 0) rfl
  have f5 := p1.frozen 5
  have pf := ((((((p1.set 0 (.int .i64 s0)).set 1 (.slice A0 x0.length k0)).set 2 (.slice A1 x1.length k1)).set 3 (.slice A2 x2.length k2)).set 4 (.slice A3 x3.length k3)).set 5 (.slice A4 x4.length k4))
  have g0 := pf.cell 0 (.int .i64 s0) rfl
  have g1 := pf.cell 1 (.slice A0 x0.length k0) rfl
  have g2 := pf.cell 2 (.slice A1 x1.length k1) rfl
  have g3 := pf.cell 3 (.slice A2 x2.length k2) rfl
  have g4 := pf.cell 4 (.slice A3 x3.length k3) rfl
  have g5 := pf.cell 5 (.slice A4 x4.length k4) rfl
  replace E0 := keepE (ints_ok _) E0 (Below.refl _ _) (B := w.heap.size + 1) (fun b hb => by have := l0 b hb; omega) 0 (.int .i64 s0)
  replace E0 := keepE (ints_ok _) E0 (Below.refl _ _) (B := w.heap.size + 1) (fun b hb => by have := l0 b hb; omega) 1 (.slice A0 x0.length k0)
  replace E0 := keepE (ints_ok _) E0 (Below.refl _ _) (B := w.heap.size + 1) (fun b hb => by have := l0 b hb; omega) 2 (.slice A1 x1.length k1)
  replace E0 := keepE (ints_ok _) E0 (Below.refl _ _) (B := w.heap.size + 1) (fun b hb => by have := l0 b hb; omega) 3 (.slice A2 x2.length k2)
  replace E0 := keepE (ints_ok _) E0 (Below.refl _ _) (B := w.heap.size + 1) (fun b hb => by have := l0 b hb; omega) 4 (.slice A3 x3.length k3)
  replace E0 := keepE (ints_ok _) E0 (Below.refl _ _) (B := w.heap.size + 1) (fun b hb => by have := l0 b hb; omega) 5 (.slice A4 x4.length k4)
  replace E1 := keepE (bools_ok _) E1 (Below.refl _ _) (B := w.heap.size + 1) (fun b hb => by have := l1 b hb; omega) 0 (.int .i64 s0)
  replace E1 := keepE (bools_ok _) E1 (Below.refl _ _) (B := w.heap.size + 1) (fun b hb => by have := l1 b hb; omega) 1 (.slice A0 x0.length k0)
  replace E1 := keepE (bools_ok _) E1 (Below.refl _ _) (B := w.heap.size + 1) (fun b hb => by have := l1 b hb; omega) 2 (.slice A1 x1.length k1)
  replace E1 := keepE (bools_ok _) E1 (Below.refl _ _) (B := w.heap.size + 1) (fun b hb => by have := l1 b hb; omega) 3 (.slice A2 x2.length k2)
  replace E1 := keepE (bools_ok _) E1 (Below.refl _ _) (B := w.heap.size + 1) (fun b hb => by have := l1 b hb; omega) 4 (.slice A3 x3.length k3)
  replace E1 := keepE (bools_ok _) E1 (Below.refl _ _) (B := w.heap.size + 1) (fun b hb => by have := l1 b hb; omega) 5 (.slice A4 x4.length k4)
  replace E2 := keepE (push3_ok _) E2 (Below.refl _ _) (B := w.heap.size + 1) (fun b hb => by have := l2 b hb; omega) 0 (.int .i64 s0)
  replace E2 := keepE (push3_ok _) E2 (Below.refl _ _) (B := w.heap.size + 1) (fun b hb => by have := l2 b hb; omega) 1 (.slice A0 x0.length k0)
  replace E2 := keepE (push3_ok _) E2 (Below.refl _ _) (B := w.heap.size + 1) (fun b hb => by have := l2 b hb; omega) 2 (.slice A1 x1.length k1)
  replace E2 := keepE (push3_ok _) E2 (Below.refl _ _) (B := w.heap.size + 1) (fun b hb => by have := l2 b hb; omega) 3 (.slice A2 x2.length k2)
  replace E2 := keepE (push3_ok _) E2 (Below.refl _ _) (B := w.heap.size + 1) (fun b hb => by have := l2 b hb; omega) 4 (.slice A3 x3.length k3)
  replace E2 := keepE (push3_ok _) E2 (Below.refl _ _) (B := w.heap.size + 1) (fun b hb => by have := l2 b hb; omega) 5 (.slice A4 x4.length k4)
  replace E3 := keepE (ints4_ok _) E3 (Below.refl _ _) (B := w.heap.size + 1) (fun b hb => by have := l3 b hb; omega) 0 (.int .i64 s0)
  replace E3 := keepE (ints4_ok _) E3 (Below.refl _ _) (B := w.heap.size + 1) (fun b hb => by have := l3 b hb; omega) 1 (.slice A0 x0.length k0)
  replace E3 := keepE (ints4_ok _) E3 (Below.refl _ _) (B := w.heap.size + 1) (fun b hb => by have := l3 b hb; omega) 2 (.slice A1 x1.length k1)
  replace E3 := keepE (ints4_ok _) E3 (Below.refl _ _) (B := w.heap.size + 1) (fun b hb => by have := l3 b hb; omega) 3 (.slice A2 x2.length k2)
  replace E3 := keepE (ints4_ok _) E3 (Below.refl _ _) (B := w.heap.size + 1) (fun b hb => by have := l3 b hb; omega) 4 (.slice A3 x3.length k3)
  replace E3 := keepE (ints4_ok _) E3 (Below.refl _ _) (B := w.heap.size + 1) (fun b hb => by have := l3 b hb; omega) 5 (.slice A4 x4.length k4)
  replace E4 := keepE (ints3_ok _) E4 (Below.refl _ _) (B := w.heap.size + 1) (fun b hb => by have := l4 b hb; omega) 0 (.int .i64 s0)
  replace E4 := keepE (ints3_ok _) E4 (Below.refl _ _) (B := w.heap.size + 1) (fun b hb => by have := l4 b hb; omega) 1 (.slice A0 x0.length k0)
  replace E4 := keepE (ints3_ok _) E4 (Below.refl _ _) (B := w.heap.size + 1) (fun b hb => by have := l4 b hb; omega) 2 (.slice A1 x1.length k1)
  replace E4 := keepE (ints3_ok _) E4 (Below.refl _ _) (B := w.heap.size + 1) (fun b hb => by have := l4 b hb; omega) 3 (.slice A2 x2.length k2)
  replace E4 := keepE (ints3_ok _) E4 (Below.refl _ _) (B := w.heap.size + 1) (fun b hb => by have := l4 b hb; omega) 4 (.slice A3 x3.length k3)
  replace E4 := keepE (ints3_ok _) E4 (Below.refl _ _) (B := w.heap.size + 1) (fun b hb => by have := l4 b hb; omega) 5 (.slice A4 x4.length k4)
  have hBf := ((((((S5.below.setCell (p := ⟨w.heap.size + 1, 0, none⟩) (by simp) (.int .i64 s0)).setCell (p := ⟨w.heap.size + 1, 1, none⟩) (by simp) (.slice A0 x0.length k0)).setCell (p := ⟨w.heap.size + 1, 2, none⟩) (by simp) (.slice A1 x1.length k1)).setCell (p := ⟨w.heap.size + 1, 3, none⟩) (by simp) (.slice A2 x2.length k2)).setCell (p := ⟨w.heap.size + 1, 4, none⟩) (by simp) (.slice A3 x3.length k3)).setCell (p := ⟨w.heap.size + 1, 5, none⟩) (by simp) (.slice A4 x4.length k4))
  have m1 := hb1.size
  have m2 := hb2.size
  have m3 := hb3.size
  have m4 := hb4.size
  rw [size_set] at m1 m2 m3 m4
  have hn : (bs0 ++ (bs1 ++ (bs2 ++ (bs3 ++ (bs4))))).Nodup := by
    have dis : ∀ (x y : List Nat), x.Nodup → y.Nodup → (∀ b ∈ y, b ∉ x) → (x ++ y).Nodup := fun x y h1 h2 h3 => List.nodup_append.2 ⟨h1, h2, fun b hb b' hb' e => h3 b' hb' (e ▸ hb)⟩
    have n0 := (ints_ok _).nodup F0
    have n1 := (bools_ok _).nodup F1
    have n2 := (push3_ok _).nodup F2
    have n3 := (ints4_ok _).nodup F3
    have n4 := (ints3_ok _).nodup F4
    have z3 := dis _ _ n3 n4 (fun b hb hb' => by
      have := l3 b hb'
      try simp only [List.mem_append] at hb
      · have := l4 b hb; omega)
    have z2 := dis _ _ n2 z3 (fun b hb hb' => by
      have := l2 b hb'
      try simp only [List.mem_append] at hb
      rcases hb with hb | hb
      · have := l3 b hb; omega
      · have := l4 b hb; omega)
    have z1 := dis _ _ n1 z2 (fun b hb hb' => by
      have := l1 b hb'
      try simp only [List.mem_append] at hb
      rcases hb with hb | hb | hb
      · have := l2 b hb; omega
      · have := l3 b hb; omega
      · have := l4 b hb; omega)
    have z0 := dis _ _ n0 z1 (fun b hb hb' => by
      have := l0 b hb'
      try simp only [List.mem_append] at hb
      rcases hb with hb | hb | hb | hb
      · have := l1 b hb; omega
      · have := l2 b hb; omega
      · have := l3 b hb; omega
      · have := l4 b hb; omega)
    exact z0
  have Hn := Lib.hid hn
  clear hn
  go_wp2
  have hz1 : w.heap.size ≤ W0.heap.size := by omega
  have hz2 : w.heap.size ≤ w0.heap.size := by omega
  have hz3 : w.heap.size ≤ w1.heap.size := by omega
  have hz4 : w.heap.size ≤ w2.heap.size := by omega
  have hz5 : w.heap.size ≤ w3.heap.size := by omega
  refine bodyPost_ret (v := .agg #[.int .i64 s0, .slice A0 x0.length k0, .slice A1 x1.length k1, .slice A2 x2.length k2, .slice A3 x3.length k3, .slice A4 x4.length k4]) (by simp [results, Try.results9, go_sem, g0, g1, g2, g3, g4, g5]) rfl ?_
  exact ⟨_, _, rfl, ⟨_, _, _, _, _, bs0, bs1, bs2, bs3, bs4, rfl, ints_base hz1 _ _ _ _ E0, bools_base (by rw [size_set]; exact hz2) _ _ _ _ E1, pushes3_base (by rw [size_set]; exact hz3) _ _ _ _ E2, ints4_base (by rw [size_set]; exact hz4) _ _ _ _ E3, ints3_base (by rw [size_set]; exact hz5) _ _ _ _ E4, rfl, Hn.out⟩, hBf⟩

def cntH (c : Ch) : Nat := lenA c.starts + (lenA c.accept + (cnt3 c.call + (cnt4 c.ret + (cnt3 c.inner))))
set_option maxHeartbeats 3200000 in
set_option maxRecDepth 100000 in
theorem sz_choices {v : Value} {c : Ch} (left : Nat) (w : World) (hl : left ≤ 1048576) (ha : ChR w v c) : Calls Try.prog 7 #[v, .int .i64 (left : Int)] w fun e w' => e = .returned (.int .i64 (dec left (cntH c))) ∧ Below w.heap.size w w' := by
  obtain ⟨v0, v1, v2, v3, v4, rfl, h0, h1, h2, h3, h4⟩ := ha
  obtain ⟨s0, x0, x1, x2, x3, x4⟩ := c
  dsimp only at h0 h1 h2 h3 h4 ⊢
  have hB : Below w.heap.size w (w.alloc (.cells #[.int .i64 s0, v0, v1, v2, v3, v4] 28)) := (Below.refl _ _).alloc (Nat.le_refl _) _
  have q0 := Lib.hid fun (l : Nat) (hl : l ≤ 1048576) => sz_ints l _ hl (ints_r.later h0 hB)
  have q1 := Lib.hid fun (l : Nat) (hl : l ≤ 1048576) => sz_bools l _ hl (bools_r.later h1 hB)
  have q2 := Lib.hid fun (l : Nat) (hl : l ≤ 1048576) => sz_pushes3 l _ hl (pushes3_r.later h2 hB)
  have q3 := Lib.hid fun (l : Nat) (hl : l ≤ 1048576) => sz_ints4 l _ hl (ints4_r.later h3 hB)
  have q4 := Lib.hid fun (l : Nat) (hl : l ≤ 1048576) => sz_ints3 l _ hl (ints3_r.later h4 hB)
  obtain ⟨a0, ha0⟩ : ∃ a, a = lenA x0 := ⟨_, rfl⟩
  obtain ⟨a1, ha1⟩ : ∃ a, a = lenA x1 := ⟨_, rfl⟩
  obtain ⟨a2, ha2⟩ : ∃ a, a = cnt3 x2 := ⟨_, rfl⟩
  obtain ⟨a3, ha3⟩ : ∃ a, a = cnt4 x3 := ⟨_, rfl⟩
  obtain ⟨a4, ha4⟩ : ∃ a, a = cnt3 x4 := ⟨_, rfl⟩
  rw [← ha0] at q0
  rw [← ha1] at q1
  rw [← ha2] at q2
  rw [← ha3] at q3
  rw [← ha4] at q4
  have ht : cntH ⟨s0, x0, x1, x2, x3, x4⟩ = a0 + (a1 + (a2 + (a3 + (a4)))) := by rw [cntH, ha0, ha1, ha2, ha3, ha4]
  rw [ht]
  clear ha0 ha1 ha2 ha3 ha4 ht h0 h1 h2 h3 h4
  by_cases t0 : a0 ≤ left
  case' pos =>
    obtain ⟨l0, k0⟩ : ∃ x, left = x + a0 := ⟨left - a0, by omega⟩
    have g0 := q0.out left hl
    rw [dec_yes t0, show left - a0 = l0 from by omega] at g0
    have G0 := Lib.hid g0
    have m0 : l0 ≤ 1048576 := by omega
    clear g0 t0
    by_cases t1 : a1 ≤ l0
    case' pos =>
      obtain ⟨l1, k1⟩ : ∃ x, l0 = x + a1 := ⟨l0 - a1, by omega⟩
      have g1 := q1.out l0 m0
      rw [dec_yes t1, show l0 - a1 = l1 from by omega] at g1
      have G1 := Lib.hid g1
      have m1 : l1 ≤ 1048576 := by omega
      clear g1 t1
      by_cases t2 : a2 ≤ l1
      case' pos =>
        obtain ⟨l2, k2⟩ : ∃ x, l1 = x + a2 := ⟨l1 - a2, by omega⟩
        have g2 := q2.out l1 m1
        rw [dec_yes t2, show l1 - a2 = l2 from by omega] at g2
        have G2 := Lib.hid g2
        have m2 : l2 ≤ 1048576 := by omega
        clear g2 t2
        by_cases t3 : a3 ≤ l2
        case' pos =>
          obtain ⟨l3, k3⟩ : ∃ x, l2 = x + a3 := ⟨l2 - a3, by omega⟩
          have g3 := q3.out l2 m2
          rw [dec_yes t3, show l2 - a3 = l3 from by omega] at g3
          have G3 := Lib.hid g3
          have m3 : l3 ≤ 1048576 := by omega
          clear g3 t3
          by_cases t4 : a4 ≤ l3
          case' pos =>
            obtain ⟨l4, k4⟩ : ∃ x, l3 = x + a4 := ⟨l3 - a4, by omega⟩
            have g4 := q4.out l3 m3
            rw [dec_yes t4, show l3 - a4 = l4 from by omega] at g4
            have G4 := Lib.hid g4
            have m4 : l4 ≤ 1048576 := by omega
            rw [dec_yes (by omega), show left - (a0 + (a1 + (a2 + (a3 + (a4))))) = l4 from by omega]
            clear g4 t4 k0 k1 k2 k3 k4
            go_enter Try.func7, Try.ntmps7
            go_wp2_with fail
            refine G0.out.mono ?_
            rintro e w' ⟨rfl, rfl⟩
            go_wp2_with fail
            refine G1.out.mono ?_
            rintro e w' ⟨rfl, rfl⟩
            go_wp2_with fail
            refine G2.out.mono ?_
            rintro e w' ⟨rfl, rfl⟩
            go_wp2_with fail
            refine G3.out.mono ?_
            rintro e w' ⟨rfl, rfl⟩
            go_wp2_with fail
            refine G4.out.mono ?_
            rintro e w' ⟨rfl, rfl⟩
            go_wp2
            go_ret
            exact ⟨rfl, hB⟩
          case neg =>
            have g4 := q4.out l3 m3
            rw [dec_no t4] at g4
            have G4 := Lib.hid g4
            rw [dec_no (by omega)]
            clear g4 t4 k0 k1 k2 k3
            go_enter Try.func7, Try.ntmps7
            go_wp2_with fail
            refine G0.out.mono ?_
            rintro e w' ⟨rfl, rfl⟩
            go_wp2_with fail
            refine G1.out.mono ?_
            rintro e w' ⟨rfl, rfl⟩
            go_wp2_with fail
            refine G2.out.mono ?_
            rintro e w' ⟨rfl, rfl⟩
            go_wp2_with fail
            refine G3.out.mono ?_
            rintro e w' ⟨rfl, rfl⟩
            go_wp2_with fail
            refine G4.out.mono ?_
            rintro e w' ⟨rfl, rfl⟩
            go_wp2
            go_ret
            exact ⟨rfl, hB⟩
        case neg =>
          have g3 := q3.out l2 m2
          rw [dec_no t3] at g3
          have G3 := Lib.hid g3
          rw [dec_no (by omega)]
          clear g3 t3 k0 k1 k2
          go_enter Try.func7, Try.ntmps7
          go_wp2_with fail
          refine G0.out.mono ?_
          rintro e w' ⟨rfl, rfl⟩
          go_wp2_with fail
          refine G1.out.mono ?_
          rintro e w' ⟨rfl, rfl⟩
          go_wp2_with fail
          refine G2.out.mono ?_
          rintro e w' ⟨rfl, rfl⟩
          go_wp2_with fail
          refine G3.out.mono ?_
          rintro e w' ⟨rfl, rfl⟩
          go_wp2
          go_ret
          exact ⟨rfl, hB⟩
      case neg =>
        have g2 := q2.out l1 m1
        rw [dec_no t2] at g2
        have G2 := Lib.hid g2
        rw [dec_no (by omega)]
        clear g2 t2 k0 k1
        go_enter Try.func7, Try.ntmps7
        go_wp2_with fail
        refine G0.out.mono ?_
        rintro e w' ⟨rfl, rfl⟩
        go_wp2_with fail
        refine G1.out.mono ?_
        rintro e w' ⟨rfl, rfl⟩
        go_wp2_with fail
        refine G2.out.mono ?_
        rintro e w' ⟨rfl, rfl⟩
        go_wp2
        go_ret
        exact ⟨rfl, hB⟩
    case neg =>
      have g1 := q1.out l0 m0
      rw [dec_no t1] at g1
      have G1 := Lib.hid g1
      rw [dec_no (by omega)]
      clear g1 t1 k0
      go_enter Try.func7, Try.ntmps7
      go_wp2_with fail
      refine G0.out.mono ?_
      rintro e w' ⟨rfl, rfl⟩
      go_wp2_with fail
      refine G1.out.mono ?_
      rintro e w' ⟨rfl, rfl⟩
      go_wp2
      go_ret
      exact ⟨rfl, hB⟩
  case neg =>
    have g0 := q0.out left hl
    rw [dec_no t0] at g0
    have G0 := Lib.hid g0
    rw [dec_no (by omega)]
    clear g0 t0 
    go_enter Try.func7, Try.ntmps7
    go_wp2_with fail
    refine G0.out.mono ?_
    rintro e w' ⟨rfl, rfl⟩
    go_wp2
    go_ret
    exact ⟨rfl, hB⟩

theorem bd_of_choices {c : Ch} (h : cntH c ≤ 1048576) : BdH c := by
  unfold cntH at h
  have g0 : lenA c.starts ≤ 1048576 := by omega
  have g1 : lenA c.accept ≤ 1048576 := by omega
  have g2 : cnt3 c.call ≤ 1048576 := by omega
  have g3 : cnt4 c.ret ≤ 1048576 := by omega
  have g4 : cnt3 c.inner ≤ 1048576 := by omega
  refine ⟨bd1_of g0, bd1_of g1, bd3_of g2, bd4_of g3, bd3_of g4, ?_⟩
  have z0 := le_ints c.starts
  have z1 := le_bools c.accept
  have z2 := le_pushes3 c.call
  have z3 := le_ints4 c.ret
  have z4 := le_ints3 c.inner
  unfold szH
  omega
end Go.Proofs.Yticmekdfdilcpaa
