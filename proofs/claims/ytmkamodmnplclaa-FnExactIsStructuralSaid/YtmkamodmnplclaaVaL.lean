/- ValidRewriter of the program; both answer the same. -/
import Derived.Test.YtmkamodmnplclaaVaK
import Derived.Test.YtmkamodmnplclaaVaO
namespace Go.Proofs.Ytmkamodmnplclaa
open Go.RowKit
set_option linter.unusedVariables false

set_option maxHeartbeats 12800000 in
set_option maxRecDepth 100000 in
theorem impl_Valid_n0 {base : Nat} {v : Value} {c : Rw} {bs : List Nat} (w : World) (hc : BdRw c) (ha : RwE base w v c bs) (hn : c.call.length < 1) :
    Calls Try.prog 35 #[v] w (SeenPost (.bool false) w) := by
  obtain ⟨v0, v1, v2, b0, b1, b2, rfl, h0, h1, h2, _, _⟩ := ha
  obtain ⟨A0, k0, rfl⟩ := ManyE.slice h0
  obtain ⟨A1, k1, rfl⟩ := ManyE.slice h1
  obtain ⟨A2, k2, rfl⟩ := ManyE.slice h2
  have hB := (Below.refl w.heap.size w).alloc (Nat.le_refl _) (.cells #[.int .i64 c.stack, .int .i64 c.start, .slice A0 c.call.length k0, .slice A1 c.ret.length k1, .slice A2 c.inner.length k2] 36)
  have x := Bx.new w 36 #[.int .i64 c.stack, .int .i64 c.start, .slice A0 c.call.length k0, .slice A1 c.ret.length k1, .slice A2 c.inner.length k2]
  have HS := Lib.hid (fun W => impl_states (A0 := A0) (n := c.call.length) (k0 := k0) c.stack c.start (.slice A1 c.ret.length k1) (.slice A2 c.inner.length k2) W)
  have g1 := hc.call.1
  have g2 := hc.ret.1
  have g3 := hc.inner.1
  have d1 : decide ((c.call.length : Int) < 1) = true := decide_eq_true (by omega)
  have d1' : (c.call.length : Int) < 1 := by omega
  have HX := Lib.hid x
  have HB := Lib.hid hB
  clear x hB h0 h1 h2 hc
  generalize c.call.length = n at *
  generalize c.ret.length = p at *
  generalize c.inner.length = q at *
  generalize c.stack = m at *
  generalize c.start = z at *
  go_enter Try.func35, Try.ntmps35
  go_wp2_with fail
  refine (HS.out _).mono ?_
  rintro e w1 ⟨rfl, hb1⟩
  have HB1 := Lib.hid (HB.out.trans (hb1.mono HB.out.size))
  obtain ⟨c0, c1, c2, c3, c4, cl⟩ := id (HX.out.later hb1).all5
  clear hb1
  go_wp2
  go_ret
  exact ⟨rfl, HB1.out⟩
set_option maxHeartbeats 12800000 in
set_option maxRecDepth 100000 in
theorem impl_Valid_n9 {base : Nat} {v : Value} {c : Rw} {bs : List Nat} (w : World) (hc : BdRw c) (ha : RwE base w v c bs) (hn : 8 < c.call.length) :
    Calls Try.prog 35 #[v] w (SeenPost (.bool false) w) := by
  obtain ⟨v0, v1, v2, b0, b1, b2, rfl, h0, h1, h2, _, _⟩ := ha
  obtain ⟨A0, k0, rfl⟩ := ManyE.slice h0
  obtain ⟨A1, k1, rfl⟩ := ManyE.slice h1
  obtain ⟨A2, k2, rfl⟩ := ManyE.slice h2
  have hB := (Below.refl w.heap.size w).alloc (Nat.le_refl _) (.cells #[.int .i64 c.stack, .int .i64 c.start, .slice A0 c.call.length k0, .slice A1 c.ret.length k1, .slice A2 c.inner.length k2] 36)
  have x := Bx.new w 36 #[.int .i64 c.stack, .int .i64 c.start, .slice A0 c.call.length k0, .slice A1 c.ret.length k1, .slice A2 c.inner.length k2]
  have HS := Lib.hid (fun W => impl_states (A0 := A0) (n := c.call.length) (k0 := k0) c.stack c.start (.slice A1 c.ret.length k1) (.slice A2 c.inner.length k2) W)
  have g1 := hc.call.1
  have g2 := hc.ret.1
  have g3 := hc.inner.1
  have d1 : decide ((c.call.length : Int) < 1) = false := decide_eq_false (by omega)
  have d1' : ¬ ((c.call.length : Int) < 1) := by omega
  have d2 : decide ((8 : Int) < (c.call.length : Int)) = true := decide_eq_true (by omega)
  have d2' : (8 : Int) < (c.call.length : Int) := by omega
  have HX := Lib.hid x
  have HB := Lib.hid hB
  clear x hB h0 h1 h2 hc
  generalize c.call.length = n at *
  generalize c.ret.length = p at *
  generalize c.inner.length = q at *
  generalize c.stack = m at *
  generalize c.start = z at *
  go_enter Try.func35, Try.ntmps35
  go_wp2_with fail
  refine (HS.out _).mono ?_
  rintro e w1 ⟨rfl, hb1⟩
  have HB1 := Lib.hid (HB.out.trans (hb1.mono HB.out.size))
  obtain ⟨c0, c1, c2, c3, c4, cl⟩ := id (HX.out.later hb1).all5
  clear hb1
  go_wp2
  go_ret
  exact ⟨rfl, HB1.out⟩
set_option maxHeartbeats 12800000 in
set_option maxRecDepth 100000 in
theorem impl_Valid_m0 {base : Nat} {v : Value} {c : Rw} {bs : List Nat} (w : World) (hc : BdRw c) (ha : RwE base w v c bs) (hn1 : 1 ≤ c.call.length) (hn8 : c.call.length ≤ 8) (hm : c.stack < 1) :
    Calls Try.prog 35 #[v] w (SeenPost (.bool false) w) := by
  obtain ⟨v0, v1, v2, b0, b1, b2, rfl, h0, h1, h2, _, _⟩ := ha
  obtain ⟨A0, k0, rfl⟩ := ManyE.slice h0
  obtain ⟨A1, k1, rfl⟩ := ManyE.slice h1
  obtain ⟨A2, k2, rfl⟩ := ManyE.slice h2
  have hB := (Below.refl w.heap.size w).alloc (Nat.le_refl _) (.cells #[.int .i64 c.stack, .int .i64 c.start, .slice A0 c.call.length k0, .slice A1 c.ret.length k1, .slice A2 c.inner.length k2] 36)
  have x := Bx.new w 36 #[.int .i64 c.stack, .int .i64 c.start, .slice A0 c.call.length k0, .slice A1 c.ret.length k1, .slice A2 c.inner.length k2]
  have HS := Lib.hid (fun W => impl_states (A0 := A0) (n := c.call.length) (k0 := k0) c.stack c.start (.slice A1 c.ret.length k1) (.slice A2 c.inner.length k2) W)
  have g1 := hc.call.1
  have g2 := hc.ret.1
  have g3 := hc.inner.1
  have d1 : decide ((c.call.length : Int) < 1) = false := decide_eq_false (by omega)
  have d1' : ¬ ((c.call.length : Int) < 1) := by omega
  have d2 : decide ((8 : Int) < (c.call.length : Int)) = false := decide_eq_false (by omega)
  have d2' : ¬ ((8 : Int) < (c.call.length : Int)) := by omega
  have d3 : decide (c.stack < 1) = true := decide_eq_true hm
  have HX := Lib.hid x
  have HB := Lib.hid hB
  clear x hB h0 h1 h2 hc
  generalize c.call.length = n at *
  generalize c.ret.length = p at *
  generalize c.inner.length = q at *
  generalize c.stack = m at *
  generalize c.start = z at *
  go_enter Try.func35, Try.ntmps35
  go_wp2_with fail
  refine (HS.out _).mono ?_
  rintro e w1 ⟨rfl, hb1⟩
  have HB1 := Lib.hid (HB.out.trans (hb1.mono HB.out.size))
  obtain ⟨c0, c1, c2, c3, c4, cl⟩ := id (HX.out.later hb1).all5
  clear hb1
  go_wp2
  go_ret
  exact ⟨rfl, HB1.out⟩
set_option maxHeartbeats 12800000 in
set_option maxRecDepth 100000 in
theorem impl_Valid_m9 {base : Nat} {v : Value} {c : Rw} {bs : List Nat} (w : World) (hc : BdRw c) (ha : RwE base w v c bs) (hn1 : 1 ≤ c.call.length) (hn8 : c.call.length ≤ 8) (hm : 8 < c.stack) :
    Calls Try.prog 35 #[v] w (SeenPost (.bool false) w) := by
  obtain ⟨v0, v1, v2, b0, b1, b2, rfl, h0, h1, h2, _, _⟩ := ha
  obtain ⟨A0, k0, rfl⟩ := ManyE.slice h0
  obtain ⟨A1, k1, rfl⟩ := ManyE.slice h1
  obtain ⟨A2, k2, rfl⟩ := ManyE.slice h2
  have hB := (Below.refl w.heap.size w).alloc (Nat.le_refl _) (.cells #[.int .i64 c.stack, .int .i64 c.start, .slice A0 c.call.length k0, .slice A1 c.ret.length k1, .slice A2 c.inner.length k2] 36)
  have x := Bx.new w 36 #[.int .i64 c.stack, .int .i64 c.start, .slice A0 c.call.length k0, .slice A1 c.ret.length k1, .slice A2 c.inner.length k2]
  have HS := Lib.hid (fun W => impl_states (A0 := A0) (n := c.call.length) (k0 := k0) c.stack c.start (.slice A1 c.ret.length k1) (.slice A2 c.inner.length k2) W)
  have g1 := hc.call.1
  have g2 := hc.ret.1
  have g3 := hc.inner.1
  have d1 : decide ((c.call.length : Int) < 1) = false := decide_eq_false (by omega)
  have d1' : ¬ ((c.call.length : Int) < 1) := by omega
  have d2 : decide ((8 : Int) < (c.call.length : Int)) = false := decide_eq_false (by omega)
  have d2' : ¬ ((8 : Int) < (c.call.length : Int)) := by omega
  have d3 : decide (c.stack < 1) = false := decide_eq_false (by omega)
  have d3' : ¬ (c.stack < 1) := by omega
  have d4 : decide ((8 : Int) < c.stack) = true := decide_eq_true hm
  have HX := Lib.hid x
  have HB := Lib.hid hB
  clear x hB h0 h1 h2 hc
  generalize c.call.length = n at *
  generalize c.ret.length = p at *
  generalize c.inner.length = q at *
  generalize c.stack = m at *
  generalize c.start = z at *
  go_enter Try.func35, Try.ntmps35
  go_wp2_with fail
  refine (HS.out _).mono ?_
  rintro e w1 ⟨rfl, hb1⟩
  have HB1 := Lib.hid (HB.out.trans (hb1.mono HB.out.size))
  obtain ⟨c0, c1, c2, c3, c4, cl⟩ := id (HX.out.later hb1).all5
  clear hb1
  go_wp2
  go_ret
  exact ⟨rfl, HB1.out⟩
set_option maxHeartbeats 12800000 in
set_option maxRecDepth 100000 in
theorem impl_Valid_p {base : Nat} {v : Value} {c : Rw} {bs : List Nat} (w : World) (hc : BdRw c) (ha : RwE base w v c bs) (hn1 : 1 ≤ c.call.length) (hn8 : c.call.length ≤ 8) (hm1 : 1 ≤ c.stack) (hm8 : c.stack ≤ 8) (hp : ¬ c.ret.length = c.call.length) :
    Calls Try.prog 35 #[v] w (SeenPost (.bool false) w) := by
  obtain ⟨v0, v1, v2, b0, b1, b2, rfl, h0, h1, h2, _, _⟩ := ha
  obtain ⟨A0, k0, rfl⟩ := ManyE.slice h0
  obtain ⟨A1, k1, rfl⟩ := ManyE.slice h1
  obtain ⟨A2, k2, rfl⟩ := ManyE.slice h2
  have hB := (Below.refl w.heap.size w).alloc (Nat.le_refl _) (.cells #[.int .i64 c.stack, .int .i64 c.start, .slice A0 c.call.length k0, .slice A1 c.ret.length k1, .slice A2 c.inner.length k2] 36)
  have x := Bx.new w 36 #[.int .i64 c.stack, .int .i64 c.start, .slice A0 c.call.length k0, .slice A1 c.ret.length k1, .slice A2 c.inner.length k2]
  have HS := Lib.hid (fun W => impl_states (A0 := A0) (n := c.call.length) (k0 := k0) c.stack c.start (.slice A1 c.ret.length k1) (.slice A2 c.inner.length k2) W)
  have g1 := hc.call.1
  have g2 := hc.ret.1
  have g3 := hc.inner.1
  have d1 : decide ((c.call.length : Int) < 1) = false := decide_eq_false (by omega)
  have d1' : ¬ ((c.call.length : Int) < 1) := by omega
  have d2 : decide ((8 : Int) < (c.call.length : Int)) = false := decide_eq_false (by omega)
  have d2' : ¬ ((8 : Int) < (c.call.length : Int)) := by omega
  have d3 : decide (c.stack < 1) = false := decide_eq_false (by omega)
  have d3' : ¬ (c.stack < 1) := by omega
  have d4 : decide ((8 : Int) < c.stack) = false := decide_eq_false (by omega)
  have d4' : ¬ ((8 : Int) < c.stack) := by omega
  have e1 : ((c.ret.length : Int) != (c.call.length : Int)) = true := by simp only [bne_iff_ne]; omega
  have e2 : ¬ ((c.ret.length : Int) = (c.call.length : Int)) := by omega
  have HX := Lib.hid x
  have HB := Lib.hid hB
  clear x hB h0 h1 h2 hc
  generalize c.call.length = n at *
  generalize c.ret.length = p at *
  generalize c.inner.length = q at *
  generalize c.stack = m at *
  generalize c.start = z at *
  go_enter Try.func35, Try.ntmps35
  go_wp2_with fail
  refine (HS.out _).mono ?_
  rintro e w1 ⟨rfl, hb1⟩
  have HB1 := Lib.hid (HB.out.trans (hb1.mono HB.out.size))
  obtain ⟨c0, c1, c2, c3, c4, cl⟩ := id (HX.out.later hb1).all5
  clear hb1
  go_wp2
  go_ret
  exact ⟨rfl, HB1.out⟩
set_option maxHeartbeats 12800000 in
set_option maxRecDepth 100000 in
theorem impl_Valid_s {base : Nat} {v : Value} {c : Rw} {bs : List Nat} (w : World) (hc : BdRw c) (ha : RwE base w v c bs) (hn1 : 1 ≤ c.call.length) (hn8 : c.call.length ≤ 8) (hm1 : 1 ≤ c.stack) (hm8 : c.stack ≤ 8) (hp : c.ret.length = c.call.length) (hz : inB 0 ((c.call.length : Int) - 1) c.start = false) :
    Calls Try.prog 35 #[v] w (SeenPost (.bool false) w) := by
  obtain ⟨v0, v1, v2, b0, b1, b2, rfl, h0, h1, h2, _, _⟩ := ha
  obtain ⟨A0, k0, rfl⟩ := ManyE.slice h0
  obtain ⟨A1, k1, rfl⟩ := ManyE.slice h1
  obtain ⟨A2, k2, rfl⟩ := ManyE.slice h2
  have hB := (Below.refl w.heap.size w).alloc (Nat.le_refl _) (.cells #[.int .i64 c.stack, .int .i64 c.start, .slice A0 c.call.length k0, .slice A1 c.ret.length k1, .slice A2 c.inner.length k2] 36)
  have x := Bx.new w 36 #[.int .i64 c.stack, .int .i64 c.start, .slice A0 c.call.length k0, .slice A1 c.ret.length k1, .slice A2 c.inner.length k2]
  have HS := Lib.hid (fun W => impl_states (A0 := A0) (n := c.call.length) (k0 := k0) c.stack c.start (.slice A1 c.ret.length k1) (.slice A2 c.inner.length k2) W)
  have g1 := hc.call.1
  have g2 := hc.ret.1
  have g3 := hc.inner.1
  have d1 : decide ((c.call.length : Int) < 1) = false := decide_eq_false (by omega)
  have d1' : ¬ ((c.call.length : Int) < 1) := by omega
  have d2 : decide ((8 : Int) < (c.call.length : Int)) = false := decide_eq_false (by omega)
  have d2' : ¬ ((8 : Int) < (c.call.length : Int)) := by omega
  have d3 : decide (c.stack < 1) = false := decide_eq_false (by omega)
  have d3' : ¬ (c.stack < 1) := by omega
  have d4 : decide ((8 : Int) < c.stack) = false := decide_eq_false (by omega)
  have d4' : ¬ ((8 : Int) < c.stack) := by omega
  rw [hp] at x hB HS ⊢
  clear hp
  have H3 := Lib.hid (fun W => impl_below c.start c.call.length W)
  rw [hz] at H3
  clear hz
  have HX := Lib.hid x
  have HB := Lib.hid hB
  clear x hB h0 h1 h2 hc
  generalize c.call.length = n at *
  generalize c.ret.length = p at *
  generalize c.inner.length = q at *
  generalize c.stack = m at *
  generalize c.start = z at *
  go_enter Try.func35, Try.ntmps35
  go_wp2_with fail
  refine (HS.out _).mono ?_
  rintro e w1 ⟨rfl, hb1⟩
  have HB1 := Lib.hid (HB.out.trans (hb1.mono HB.out.size))
  obtain ⟨c0, c1, c2, c3, c4, cl⟩ := id (HX.out.later hb1).all5
  clear hb1
  go_wp2_with fail
  refine (H3.out _).mono ?_
  rintro e w' ⟨rfl, rfl⟩
  go_wp2
  go_ret
  exact ⟨rfl, HB1.out⟩
set_option maxHeartbeats 12800000 in
set_option maxRecDepth 100000 in
theorem impl_Valid_go {base : Nat} {v : Value} {c : Rw} {bs : List Nat} (w : World) (hc : BdRw c) (ha : RwE base w v c bs) (m : Nat) (hcm : c.stack = (m : Int)) (hn1 : 1 ≤ c.call.length) (hn8 : c.call.length ≤ 8) (hm1 : 1 ≤ m) (hm8 : m ≤ 8) (hp : c.ret.length = c.call.length) (hz : inB 0 ((c.call.length : Int) - 1) c.start = true) :
    Calls Try.prog 35 #[v] w (SeenPost (.bool (c.ret.all (rowB (rowB (omB c.call.length) ((m : Int) + 1)) 2) && (rowB (rowB (opB c.call.length m) 2) c.call.length c.call && rowB (rowB (omB c.call.length) 2) c.call.length c.inner))) w) := by
  obtain ⟨v0, v1, v2, b0, b1, b2, rfl, h0, h1, h2, _, _⟩ := ha
  obtain ⟨A0, k0, rfl⟩ := ManyE.slice h0
  obtain ⟨A1, k1, rfl⟩ := ManyE.slice h1
  obtain ⟨A2, k2, rfl⟩ := ManyE.slice h2
  have hB := (Below.refl w.heap.size w).alloc (Nat.le_refl _) (.cells #[.int .i64 c.stack, .int .i64 c.start, .slice A0 c.call.length k0, .slice A1 c.ret.length k1, .slice A2 c.inner.length k2] 36)
  have x := Bx.new w 36 #[.int .i64 c.stack, .int .i64 c.start, .slice A0 c.call.length k0, .slice A1 c.ret.length k1, .slice A2 c.inner.length k2]
  have HS := Lib.hid (fun W => impl_states (A0 := A0) (n := c.call.length) (k0 := k0) c.stack c.start (.slice A1 c.ret.length k1) (.slice A2 c.inner.length k2) W)
  have g1 := hc.call.1
  have g2 := hc.ret.1
  have g3 := hc.inner.1
  have H3 := Lib.hid (fun W => impl_below c.start c.call.length W)
  rw [hz] at H3
  rw [hcm] at x hB HS ⊢
  rw [hp] at x hB HS ⊢
  obtain ⟨W1, hW1⟩ : ∃ W, W = w.alloc (.cells #[.int .i64 (m : Int), .int .i64 c.start, .slice A0 c.call.length k0, .slice A1 c.call.length k1, .slice A2 c.inner.length k2] 36) := ⟨_, rfl⟩
  rw [← hW1] at x hB
  have HW1 := Lib.hid hW1
  have h0' := (op2_ok _).later h0 hB
  have h1' := (om3_ok _).later h1 hB
  have h2' := (om2_ok _).later h2 hB
  have HP := Lib.hid hp
  have HC := Lib.hid hc
  rw [hp] at h1'
  have HE := Lib.hid (And.intro h0' (And.intro h1' h2'))
  have HX := Lib.hid x
  have HB := Lib.hid hB
  have HQ := Lib.hid (show ∀ k x, c.ret[k]? = some x → rowB (rowB (omB c.call.length) ((m : Int) + 1)) 2 x = false → c.ret.all (rowB (rowB (omB c.call.length) ((m : Int) + 1)) 2) = false from fun k x h1 h2 => all_no h1 h2)
  have HT := Lib.hid (show (c.ret.take c.call.length).all (rowB (rowB (omB c.call.length) ((m : Int) + 1)) 2) = true → c.ret.all (rowB (rowB (omB c.call.length) ((m : Int) + 1)) 2) = true from fun h => by rw [← hp, List.take_length, hp] at h; exact h)
  have d1 : decide ((c.call.length : Int) < 1) = false := decide_eq_false (by omega)
  have d1' : ¬ ((c.call.length : Int) < 1) := by omega
  have d2 : decide ((8 : Int) < (c.call.length : Int)) = false := decide_eq_false (by omega)
  have d2' : ¬ ((8 : Int) < (c.call.length : Int)) := by omega
  have d3 : decide ((m : Int) < 1) = false := decide_eq_false (by omega)
  have d3' : ¬ ((m : Int) < 1) := by omega
  have d4 : decide ((8 : Int) < (m : Int)) = false := decide_eq_false (by omega)
  have d4' : ¬ ((8 : Int) < (m : Int)) := by omega
  have HI1 := Lib.hid (fun W (h : Op2E base W (.slice A0 c.call.length k0) c.call b0) => isFull_op (n := c.call.length) (m := m) (k0 := k0) (A0 := A0) (st := c.start) (cols := 2) (rows := c.call.length) (z1 := .slice A1 c.call.length k1) (z2 := .slice A2 c.inner.length k2) W hc.call h)
  have HI2 := Lib.hid (fun W (h : Om2E base W (.slice A2 c.inner.length k2) c.inner b2) => isFull_om (n := c.call.length) (m := m) (k0 := k0) (A0 := A0) (st := c.start) (cols := 2) (rows := c.call.length) (z1 := .slice A1 c.call.length k1) (z2 := .slice A2 c.inner.length k2) W hc.inner h)
  have HI3 := Lib.hid (fun W u lists cs (hl : Bd2 lists) (h : Om2E base W u lists cs) => isFull_om (n := c.call.length) (m := m) (k0 := k0) (A0 := A0) (st := c.start) (cols := (m : Int) + 1) (rows := 2) (z1 := .slice A1 c.call.length k1) (z2 := .slice A2 c.inner.length k2) W hl h)
  generalize rowB (rowB (opB c.call.length m) 2) c.call.length c.call = r1 at *
  generalize rowB (rowB (omB c.call.length) 2) c.call.length c.inner = r2 at *
  generalize c.ret.all (rowB (rowB (omB c.call.length) ((m : Int) + 1)) 2) = r3 at *
  clear hp hz hcm x hB hW1 h0 h1 h2 h0' h1' h2' hc
  generalize c.call.length = n at *
  generalize c.inner.length = q at *
  generalize c.start = z at *
  go_enter Try.func35, Try.ntmps35
  go_wp2_with fail
  rw [← HW1.out]
  refine (HS.out _).mono ?_
  rintro e w1 ⟨rfl, hb1⟩
  have HB1 := Lib.hid hb1
  obtain ⟨c0, c1, c2, c3, c4, cl⟩ := id (HX.out.later hb1).all5
  clear hb1
  go_wp2_with fail
  refine (H3.out _).mono ?_
  rintro e w' ⟨rfl, rfl⟩
  go_wp2
  clear c0 c1 c2 c3 c4 cl
  go_loopw [41] (fun i wr => ∃ k : Nat, k ≤ n ∧ i = .int .i64 k ∧ Hid ((c.ret.take k).all (rowB (rowB (omB n) ((m : Int) + 1)) 2) = true) ∧ Below W1.heap.size W1 wr) (fun i _ => n - (intOf i).toNat)
  case atStart => exact ⟨0, Nat.zero_le _, rfl, rfl, HB1.out⟩
  case round =>
    obtain ⟨k, hk, rfl, hA, hBr⟩ := hrel
    have hs := hBr.size
    obtain ⟨c0, c1, c2, c3, c4, cl⟩ := id (HX.out.later hBr).all5
    by_cases hlt : k < n
    · obtain ⟨x, hx⟩ : ∃ x, c.ret[k]? = some x := ⟨_, List.getElem?_eq_getElem (by rw [HP.out]; exact hlt)⟩
      obtain ⟨g, cc, u, cs, e1, hc1, hE, _, _⟩ := ManyE.at_ ((om3_ok _).later HE.out.2.1 hBr) (om2_ok _) hx
      simp only [Value.slice.injEq] at e1
      obtain ⟨rfl, e2, rfl⟩ := e1
      have ht := HI3.out wr u x cs (HC.out.ret.2 x (List.mem_of_getElem? hx)) hE
      clear e2 hE
      cases hb : rowB (rowB (omB n) ((m : Int) + 1)) 2 x with
      | true =>
        rw [hb] at ht
        have Ht := Lib.hid ht
        have hnx := Lib.hid (all_take hx hA.out hb)
        clear hx hA ht hb
        go_wp2_with fail
        refine Ht.out.mono ?_
        rintro e w2 ⟨rfl, hb2⟩
        go_wp2
        go_roundw
        case rel => exact ⟨k + 1, by omega, by go_num, hnx, hBr.trans (hb2.mono hs)⟩
        case measure => simp [intOf]; omega
      | false =>
        rw [hb] at ht
        have Ht := Lib.hid ht
        have hno := Lib.hid (HQ.out k x hx hb)
        clear hx hA ht hb
        go_wp2_with fail
        refine Ht.out.mono ?_
        rintro e w2 ⟨rfl, hb2⟩
        go_wp2
        go_ret
        exact ⟨by rw [hno.out]; rfl, HB.out.trans ((hBr.trans (hb2.mono hs)).mono HB.out.size)⟩
    · have e : k = n := by omega
      subst e
      have hyes := Lib.hid (HT.out hA.out)
      have h5 := HI1.out wr ((op2_ok _).later HE.out.1 hBr)
      have H5 := Lib.hid h5
      clear hA h5
      cases r1 with
      | false =>
        go_wp2_with fail
        refine H5.out.mono ?_
        rintro e w2 ⟨rfl, hb2⟩
        go_wp2
        go_ret
        exact ⟨by rw [hyes.out]; rfl, HB.out.trans ((hBr.trans (hb2.mono hs)).mono HB.out.size)⟩
      | true =>
        go_wp2_with fail
        refine H5.out.mono ?_
        rintro e w2 ⟨rfl, hb2⟩
        have hB2 := hBr.trans (hb2.mono hs)
        clear c0 c1 c2 c3 c4 cl
        obtain ⟨c0, c1, c2, c3, c4, cl⟩ := id (HX.out.later hB2).all5
        have H6 := Lib.hid (HI2.out w2 ((om2_ok _).later HE.out.2.2 hB2))
        go_wp2_with fail
        refine H6.out.mono ?_
        rintro e w3 ⟨rfl, hb3⟩
        go_wp2
        go_ret
        exact ⟨by rw [hyes.out]; simp, HB.out.trans ((hB2.trans (hb3.mono hB2.size)).mono HB.out.size)⟩
theorem impl_ValidRewriter {base : Nat} {v : Value} {c : Rw} {bs : List Nat} (w : World) (hc : BdRw c) (ha : RwE base w v c bs) :
    Calls Try.prog 35 #[v] w (SeenPost (.bool (okR c)) w) := by
  unfold okR
  by_cases n0 : c.call.length < 1
  · rw [inB, decide_eq_false (by omega : ¬ ((1 : Int) ≤ (c.call.length : Int) ∧ (c.call.length : Int) ≤ 8)), Bool.false_and]; exact impl_Valid_n0 w hc ha n0
  by_cases n9 : 8 < c.call.length
  · rw [inB, decide_eq_false (by omega : ¬ ((1 : Int) ≤ (c.call.length : Int) ∧ (c.call.length : Int) ≤ 8)), Bool.false_and]; exact impl_Valid_n9 w hc ha n9
  rw [show inB 1 8 c.call.length = true from decide_eq_true (by omega), Bool.true_and]
  by_cases m0 : c.stack < 1
  · rw [inB, decide_eq_false (by omega : ¬ ((1 : Int) ≤ c.stack ∧ c.stack ≤ 8)), Bool.false_and]; exact impl_Valid_m0 w hc ha (by omega) (by omega) m0
  by_cases m9 : 8 < c.stack
  · rw [inB, decide_eq_false (by omega : ¬ ((1 : Int) ≤ c.stack ∧ c.stack ≤ 8)), Bool.false_and]; exact impl_Valid_m9 w hc ha (by omega) (by omega) m9
  rw [show inB 1 8 c.stack = true from decide_eq_true (by omega), Bool.true_and]
  by_cases hp : c.ret.length = c.call.length
  case neg =>
    rw [decide_eq_false hp, Bool.false_and, Bool.and_false]; exact impl_Valid_p w hc ha (by omega) (by omega) (by omega) (by omega) hp
  rw [decide_eq_true hp, Bool.true_and]
  cases hz : inB 0 ((c.call.length : Int) - 1) c.start with
  | false => rw [Bool.false_and]; exact impl_Valid_s w hc ha (by omega) (by omega) (by omega) (by omega) hp hz
  | true =>
    have hm : c.stack = ((c.stack.toNat : Nat) : Int) := by omega
    have h := impl_Valid_go w hc ha c.stack.toNat hm (by omega) (by omega) (by omega) (by omega) hp hz
    have e : (c.ret.all (rowB (rowB (omB c.call.length) ((c.stack.toNat : Int) + 1)) 2) && (rowB (rowB (opB c.call.length (c.stack.toNat : Int)) 2) c.call.length c.call && rowB (rowB (omB c.call.length) 2) c.call.length c.inner)) = (true && (decide (c.inner.length = c.call.length) && restB c)) := by
      rw [← hm, rowB_eq (xs := c.call) rfl, restB, show rowB (rowB (omB c.call.length) 2) c.call.length c.inner = (c.inner.all (rowB (omB c.call.length) 2) && decide ((c.inner.length : Int) = (c.call.length : Int))) from rfl]
      have e2 : decide ((c.inner.length : Int) = (c.call.length : Int)) = decide (c.inner.length = c.call.length) := by
        by_cases h : c.inner.length = c.call.length
        · rw [decide_eq_true h, decide_eq_true (by omega)]
        · rw [decide_eq_false h, decide_eq_false (by omega)]
      rw [e2]
      cases c.ret.all (rowB (rowB (omB c.call.length) (c.stack + 1)) 2) <;> cases c.call.all (rowB (opB c.call.length c.stack) 2) <;> cases c.inner.all (rowB (omB c.call.length) 2) <;> cases decide (c.inner.length = c.call.length) <;> rfl
    rw [e] at h
    exact h
theorem both_ValidRewriter (c : Rw) : ∃ (r0 : Bool),
    (∀ base0 v0 bs0 w, BdRw c → RwE base0 w v0 c bs0 → Calls Try.prog 33 #[v0] w (TupPost (.bool r0) w)) ∧
    (∀ base0 v0 bs0 w, BdRw c → RwE base0 w v0 c bs0 → Calls Try.prog 35 #[v0] w (TupPost (.bool r0) w)) :=
  ⟨_, fun _ _ _ w hc ha => spec_ValidRewriter w hc ha, fun _ _ _ w hc ha => impl_ValidRewriter w hc ha⟩
end Go.Proofs.Ytmkamodmnplclaa
