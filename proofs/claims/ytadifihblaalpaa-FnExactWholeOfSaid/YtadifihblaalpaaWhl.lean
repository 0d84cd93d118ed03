/- WholeOf of the model and of the program. -/
import Derived.Test.YtadifihblaalpaaStmI
namespace Go.Proofs.Ytadifihblaalpaa
open Go.RowKit
set_option linter.unusedVariables false

theorem okSm_parts {c : Sm} (h : okSm c = true) : okM c.checker = true ∧ (1 ≤ c.pieces.length ∧ c.pieces.length ≤ 20) ∧ allW c.pieces = true ∧ wdB (wholeB c.pieces) = true := by
  unfold okSm at h
  simp only [Bool.and_eq_true, decide_eq_true_eq] at h
  exact ⟨h.1, h.2.1, h.2.2.1, h.2.2.2⟩
def wholeR (c : Sm) : ByteArray := if okSm c = true then wholeB c.pieces else ⟨#[]⟩
def wholeC (c : Sm) : Int := if okSm c = true then 0 else 1
set_option maxHeartbeats 3200000 in
set_option maxRecDepth 100000 in
theorem spec_WholeOf {base : Nat} {v : Value} {c : Sm} {bs : List Nat} (w : World) (hc : BdSt c) (ha : SmE base w v c bs) :
    Calls Try.prog 16 #[v] w (TupPost (.tuple #[.string (wholeR c), .int .i64 (wholeC c)]) w) := by
  obtain ⟨va, vc, vr, vi, vp, b0, b1, rfl, h0, h1, _, _⟩ := ha
  have hB : Below w.heap.size w (w.alloc (.cells #[.int .i64 c.checker.stack, .int .i64 c.checker.start, va, vc, vr, vi, vp] 43)) := (Below.refl _ _).alloc (Nat.le_refl _) _
  have hx := Bx.new w 43 #[.int .i64 c.checker.stack, .int .i64 c.checker.start, va, vc, vr, vi, vp]
  have H := Lib.hid (spec_okSm _ hc hx ((ck_ok _).later h0 hB) ((str_ok _).later h1 hB))
  have HL := Lib.hid (fun (W : World) (hw : Below w.heap.size w W) => (str_ok _).later h1 hw)
  obtain ⟨A, k, rfl⟩ := RowE.slice h1
  have HX := Lib.hid hx
  clear h0 h1 hc hx
  unfold wholeR wholeC
  cases ho : okSm c with
  | false =>
    rw [ho] at H
    rw [if_neg (by simp), if_neg (by simp)]
    clear ho
    generalize c.checker.stack = s0 at *
    generalize c.checker.start = s1 at *
    go_enter Try.func16, Try.ntmps16
    go_wp2_with fail
    refine H.out.mono ?_
    rintro e w1 ⟨rfl, hb1⟩
    go_wp2
    go_ret2
    exact ⟨rfl, hB.trans (hb1.mono hB.size)⟩
  | true =>
    obtain ⟨_, ⟨_, g20⟩, gA, _⟩ := okSm_parts ho
    rw [ho] at H
    rw [if_pos rfl, if_pos rfl]
    have HWh := Lib.hid (fun (W : World) (hw : Below w.heap.size w W) => spec_whole A _ k c.pieces W g20 ((HL.out W hw).strs rfl) (allW_sizes gA))
    clear ho g20 gA HL
    generalize wholeB c.pieces = R at *
    generalize c.pieces.length = n at *
    generalize c.checker.stack = s0 at *
    generalize c.checker.start = s1 at *
    go_enter Try.func16, Try.ntmps16
    go_wp2_with fail
    refine H.out.mono ?_
    rintro e w1 ⟨rfl, hb1⟩
    obtain ⟨c0, c1, c2, c3, c4, c5, c6, cl⟩ := (HX.out.later hb1).all7
    have hB2 := hB.trans (hb1.mono hB.size)
    clear hb1
    go_wp2_with fail
    refine (HWh.out _ hB2).mono ?_
    rintro e w2 ⟨rfl, rfl⟩
    go_wp2
    go_ret2
    exact ⟨rfl, hB2⟩
set_option maxHeartbeats 3200000 in
set_option maxRecDepth 100000 in
theorem impl_WholeOf {base : Nat} {v : Value} {c : Sm} {bs : List Nat} (w : World) (hc : BdSt c) (ha : SmE base w v c bs) :
    Calls Try.prog 17 #[v] w (TupPost (.tuple #[.string (wholeR c), .int .i64 (wholeC c)]) w) := by
  have HV := Lib.hid (fun (W : World) (hw : Below w.heap.size w W) => impl_ValidStream W hc ((stream_ok _).later ha hw))
  have HW := Lib.hid fun (W : World) (hw : Below w.heap.size w W) (g1 : 1 ≤ c.pieces.length) (g2 : c.pieces.length ≤ 20) (g3 : ∀ x ∈ c.pieces, x.size ≤ 60) => impl_wholeOf W ((stream_ok _).later ha hw) g1 g2 g3
  obtain ⟨va, vc, vr, vi, vp, b0, b1, rfl, h0, h1, _, _⟩ := ha
  have hB : Below w.heap.size w (w.alloc (.cells #[.int .i64 c.checker.stack, .int .i64 c.checker.start, va, vc, vr, vi, vp] 43)) := (Below.refl _ _).alloc (Nat.le_refl _) _
  have hx := Bx.new w 43 #[.int .i64 c.checker.stack, .int .i64 c.checker.start, va, vc, vr, vi, vp]
  have HX := Lib.hid hx
  obtain ⟨c0, c1, c2, c3, c4, c5, c6, cl⟩ := id hx.all7
  clear h0 h1 hc hx
  unfold wholeR wholeC
  cases ho : okSm c with
  | false =>
    rw [ho] at HV
    rw [if_neg (by simp), if_neg (by simp)]
    clear ho HW
    generalize c.checker.stack = s0 at *
    generalize c.checker.start = s1 at *
    go_enter Try.func17, Try.ntmps17
    go_wp2_with fail
    refine (HV.out _ hB).mono ?_
    rintro e w1 ⟨rfl, hb1⟩
    go_wp2
    go_ret2
    exact ⟨rfl, hB.trans (hb1.mono hB.size)⟩
  | true =>
    obtain ⟨_, ⟨g1, g20⟩, gA, _⟩ := okSm_parts ho
    rw [ho] at HV
    rw [if_pos rfl, if_pos rfl]
    have HWh := Lib.hid (fun (W : World) (hw : Below w.heap.size w W) => HW.out W hw g1 g20 (allW_sizes gA))
    clear ho g1 g20 gA HW
    generalize wholeB c.pieces = R at *
    generalize c.checker.stack = s0 at *
    generalize c.checker.start = s1 at *
    go_enter Try.func17, Try.ntmps17
    go_wp2_with fail
    refine (HV.out _ hB).mono ?_
    rintro e w1 ⟨rfl, hb1⟩
    clear c0 c1 c2 c3 c4 c5 c6 cl
    obtain ⟨c0, c1, c2, c3, c4, c5, c6, cl⟩ := (HX.out.later hb1).all7
    have hB2 := hB.trans (hb1.mono hB.size)
    clear hb1
    go_wp2_with fail
    refine (HWh.out _ hB2).mono ?_
    rintro e w2 ⟨rfl, hb2⟩
    go_wp2
    go_ret2
    exact ⟨rfl, hB2.trans (hb2.mono hB2.size)⟩
theorem both_WholeOf (c : Sm) : ∃ (r0 : ByteArray) (r1 : Int),
    (∀ base0 v0 bs0 w, BdSt c → SmE base0 w v0 c bs0 → Calls Try.prog 16 #[v0] w (TupPost (.tuple #[.string r0, .int .i64 r1]) w)) ∧
    (∀ base0 v0 bs0 w, BdSt c → SmE base0 w v0 c bs0 → Calls Try.prog 17 #[v0] w (TupPost (.tuple #[.string r0, .int .i64 r1]) w)) :=
  ⟨_, _, fun _ _ _ w hc ha => spec_WholeOf w hc ha, fun _ _ _ w hc ha => impl_WholeOf w hc ha⟩
end Go.Proofs.Ytadifihblaalpaa
