/- ValidWatcher, of the model and of the program. -/
import Derived.Test.YtfaiifiohomdmaaRis
import Derived.Test.YtfaiifiohomdmaaConcat
import Derived.Test.YtfaiifiohomdmaaWt
import Derived.Test.YtfaiifiohomdmaaQValid
import Derived.Test.YtfaiifiohomdmaaSame
import Derived.Test.YtfaiifiohomdmaaEq
import Derived.Test.YtfaiifiohomdmaaGrown
import Derived.Test.YtfaiifiohomdmaaFree2
import Derived.Test.YtfaiifiohomdmaaProd
namespace Go.Proofs.Ytfaiifiohomdmaa
open Go.RowKit
set_option linter.unusedVariables false

def headW (c : Wt) : List Int := match c.stack with | [] => c.now | x :: _ => x
def rowsB (n : Int) (xs : List (List Int)) : Bool := xs.all fun x => risB x n
def okW (c : Wt) : Bool := okQ c.query.steps && (rngB c.seen 0 1000000000 && (decide (c.stack.length ≤ 60) && (rowsB c.query.steps.length c.stack && (risB c.now c.query.steps.length && decide (headW c = [0])))))
theorem rowsB_take {n : Int} {xs : List (List Int)} {k : Nat} {x : List Int} (h : xs[k]? = some x) (ha : rowsB n (xs.take k) = true) (hx : risB x n = true) : rowsB n (xs.take (k + 1)) = true := by
  rw [List.take_add_one, h]
  simp only [rowsB, List.all_append, Option.toList_some, List.all_cons, List.all_nil, Bool.and_true, Bool.and_eq_true] at *
  exact ⟨ha, hx⟩
theorem rowsB_no {n : Int} {xs : List (List Int)} {k : Nat} {x : List Int} (h : xs[k]? = some x) (hx : risB x n = false) : rowsB n xs = false := by
  refine Bool.eq_false_iff.2 fun ha => ?_
  simp only [rowsB, List.all_eq_true] at ha
  rw [ha x (List.mem_of_getElem? h)] at hx
  cases hx
theorem okQ_len {xs : List (Bool × ByteArray)} (h : okQ xs = true) : 1 ≤ xs.length ∧ xs.length ≤ 6 := by
  simp only [okQ, lenOk, Bool.and_eq_true, decide_eq_true_eq] at h
  exact h.1
theorem one_zero (W : World) : IntsE W.heap.size (W.alloc (.cells #[.int .i64 0] 2)) (.slice (some ⟨W.heap.size, 0, none⟩) 1 1) [0] [W.heap.size] :=
  rowE_lit 1 (Bx.new W 2 #[.int .i64 0]) (Nat.le_refl _) rfl rfl rfl (by unfold maxLen; omega)

set_option maxHeartbeats 12800000 in
set_option maxRecDepth 100000 in
theorem spec_watcher {base B : Nat} {v0 v1 v2 : Value} {c : Wt} {b0 b1 b2 : List Nat} (w : World) (hc : BdW c) (hb : Bx w B 73 #[v0, .int .i64 c.seen, v1, v2])
    (h0 : QfE base w v0 c.query b0) (h1 : IntsE base w v1 c.now b1) (h2 : Ints2E base w v2 c.stack b2) :
    Calls Try.prog 108 #[.pointer (some ⟨B, 0, none⟩)] w (TupPost (.bool (okW c)) w) := by
  obtain ⟨A0, k0, rfl⟩ := QfE.slice h0
  obtain ⟨A1, k1, rfl⟩ := RowE.slice h1
  obtain ⟨A2, k2, rfl⟩ := ManyE.slice h2
  have q1 := spec_okQ w hc.query.steps (hb.cell 0 _ rfl) h0
  have q2 := spec_rng (x := c.seen) (a := 0) (b := 1000000000) w
  have hbd2 : c.stack.length ≤ 1048576 := hc.stack.1
  have hbx := hb
  obtain ⟨x0, x1, x2, x3, xl⟩ := hb.all4
  cases e1 : okQ c.query.steps with
  | false =>
    rw [e1] at q1
    have Q1 := Lib.hid q1
    rw [show okW c = false by simp [okW, e1]]
    clear q1 q2 e1 h0 h1 h2 hc hbx hb
    go_enter Try.func108, Try.ntmps108
    go_wp2_with fail
    refine Q1.out.mono ?_
    rintro e w' ⟨rfl, rfl⟩
    go_wp2
    go_ret
    exact ⟨rfl, Below.refl _ _⟩
  | true =>
  have hn := okQ_len e1
  rw [e1] at q1
  have Q1 := Lib.hid q1
  cases e2 : rngB c.seen 0 1000000000 with
  | false =>
    rw [e2] at q2
    have Q2 := Lib.hid q2
    rw [show okW c = false by simp [okW, e2]]
    clear q1 q2 e1 e2 h0 h1 h2 hc hbx hb
    go_enter Try.func108, Try.ntmps108
    go_wp2_with fail
    refine Q1.out.mono ?_
    rintro e w' ⟨rfl, rfl⟩
    go_wp2_with fail
    refine Q2.out.mono ?_
    rintro e w' ⟨rfl, rfl⟩
    go_wp2
    go_ret
    exact ⟨rfl, Below.refl _ _⟩
  | true =>
  rw [e2] at q2
  have Q2 := Lib.hid q2
  by_cases e3 : c.stack.length ≤ 60
  case neg =>
    rw [show okW c = false by simp [okW, e3]]
    have e3' : 60 < c.stack.length := by omega
    generalize c.stack.length = m at *
    clear q1 q2 e1 e2 e3 h0 h1 h2 hc hbx hb
    go_enter Try.func108, Try.ntmps108
    go_wp2_with fail
    refine Q1.out.mono ?_
    rintro e w' ⟨rfl, rfl⟩
    go_wp2_with fail
    refine Q2.out.mono ?_
    rintro e w' ⟨rfl, rfl⟩
    go_wp2
    go_ret
    exact ⟨rfl, Below.refl _ _⟩
  have hok : okW c = (rowsB c.query.steps.length c.stack && (risB c.now c.query.steps.length && decide (headW c = [0]))) := by simp only [okW, e1, e2, e3, decide_true, Bool.true_and]
  rw [hok]
  have Hbd := Lib.hid hc
  have Hbx := Lib.hid hbx
  have H1 := Lib.hid h1
  have H2 := Lib.hid h2
  obtain ⟨n, hn'⟩ : ∃ n, n = c.query.steps.length := ⟨_, rfl⟩
  obtain ⟨m, hm'⟩ : ∃ m, m = c.stack.length := ⟨_, rfl⟩
  rw [← hn'] at hn x0 Hbx ⊢
  rw [← hm'] at x3 e3 Hbx H2
  have Hm := Lib.hid hm'
  have z1 : IntKind.i64.wrap ((n : Int) - 1) = (n : Int) - 1 := IntWalk.i64_in _ (by omega)
  have Hrow := Lib.hid (fun (j : Nat) (hj : j < m) => (⟨_, List.getElem?_eq_getElem (by rw [← hm']; exact hj)⟩ : ∃ x, c.stack[j]? = some x))
  have Hall := Lib.hid (fun (h : rowsB n (c.stack.take m) = true) => show rowsB n c.stack = true by rw [hm', List.take_length] at h; exact h)
  clear q1 q2 e1 e2 hok hc h0 h1 h2 hbx hb hbd2 hm' hn'

  by_cases hm0 : m = 0
  · subst hm0
    have hh : headW c = c.now := by unfold headW; rw [List.eq_nil_of_length_eq_zero Hm.out.symm]
    rw [hh]
    have HF := H1
    have HbF := Lib.hid Hbd.out.now
    clear hh
    go_enter Try.func108, Try.ntmps108
    go_wp2_with fail
    refine Q1.out.mono ?_
    rintro e w' ⟨rfl, rfl⟩
    go_wp2_with fail
    refine Q2.out.mono ?_
    rintro e w' ⟨rfl, rfl⟩
    go_wp2
    clear x0 x1 x2 x3 xl
    go_loopw [5] (fun i wr => ∃ k q : Nat, k ≤ 0 ∧ i = .int .i64 k ∧ wr = w.drewN q ∧ Hid (rowsB n (c.stack.take k) = true)) (fun i _ => 0 - (intOf i).toNat)
    case atStart => exact ⟨0, 0, Nat.zero_le _, rfl, rfl, rfl⟩
    case round =>
      obtain ⟨k, q, hk, rfl, rfl, hA⟩ := hrel
      obtain ⟨x0, x1, x2, x3, xl⟩ := (Hbx.out.same (W' := w.drewN q) rfl).all4
      have e : k = 0 := by omega
      subst e
      have hrow := Lib.hid (Hall.out hA.out)
      have hr := spec_rises (n : Int) (w.drewN q) Hbd.out.now ((ints_ok _).drewN H1.out q)
      cases hb : risB c.now n with
      | false =>
        rw [hb] at hr
        have R := Lib.hid hr
        have Hb := Lib.hid hb
        clear hr hb hA
        go_wp2_with fail
        refine R.out.mono ?_
        rintro e w' ⟨rfl, q2, rfl⟩
        go_wp2
        go_ret
        exact ⟨by rw [hrow.out, Hb.out]; rfl, by first | exact below_drewN (Below.refl _ _) _ | (rw [World.drewN_drewN]; exact below_drewN (Below.refl _ _) _)⟩
      | true =>
        rw [hb] at hr
        have R := Lib.hid hr
        have Hb := Lib.hid hb
        clear hr hb hA
        go_wp2_with fail
        refine R.out.mono ?_
        rintro e w' ⟨rfl, q2, rfl⟩
        rw [World.drewN_drewN]
        have hs := fun W (h : Below w.heap.size w W) => spec_same (W.alloc (.cells #[.int .i64 0] 2)) HbF.out (show Bd1 [(0 : Int)] by unfold Bd1; decide) ((ints_ok _).later HF.out (h.alloc h.size _)) (one_zero W)
        have S := Lib.hid (hs (w.drewN (q + q2)) (below_drewN (Below.refl _ _) _))
        clear hs
        go_wp2_with fail
        refine S.out.mono ?_
        rintro e w' ⟨rfl, m3, rfl⟩
        go_wp2
        go_ret
        exact ⟨by rw [hrow.out, Hb.out]; rfl, (((below_drewN (Below.refl _ _) _ : Below w.heap.size w (w.drewN (q + q2))).alloc (Nat.le_refl _) _).trans (below_drewN (Below.refl _ _) _))⟩
  · obtain ⟨x, hx⟩ := Hrow.out 0 (by omega)
    have hh : headW c = x := by unfold headW; cases hs : c.stack with | nil => rw [hs] at hx; cases hx | cons y ys => rw [hs] at hx; simpa using hx
    rw [hh]
    have HbF := Lib.hid (Hbd.out.stack.2 x (List.mem_of_getElem? hx))
    obtain ⟨gF, _, uF, dF, hvF, hcF, hEF, hgF, _⟩ := H2.out.at_ (ints_ok _) hx
    simp only [Value.slice.injEq] at hvF
    obtain ⟨rfl, h8, h9⟩ := hvF
    clear h8 h9 hx hh
    obtain ⟨AF, kF, rfl⟩ := RowE.slice hEF
    have HF := Lib.hid hEF
    clear hEF
    have hpos : 0 < m := by omega
    go_enter Try.func108, Try.ntmps108
    go_wp2_with fail
    refine Q1.out.mono ?_
    rintro e w' ⟨rfl, rfl⟩
    go_wp2_with fail
    refine Q2.out.mono ?_
    rintro e w' ⟨rfl, rfl⟩
    go_wp2
    clear x0 x1 x2 x3 xl hcF
    go_loopw [5] (fun i wr => ∃ k q : Nat, k ≤ m ∧ i = .int .i64 k ∧ wr = w.drewN q ∧ Hid (rowsB n (c.stack.take k) = true)) (fun i _ => m - (intOf i).toNat)
    case atStart => exact ⟨0, 0, Nat.zero_le _, rfl, rfl, rfl⟩
    case round =>
      obtain ⟨k, q, hk, rfl, rfl, hA⟩ := hrel
      obtain ⟨x0, x1, x2, x3, xl⟩ := (Hbx.out.same (W' := w.drewN q) rfl).all4
      by_cases hlt : k < m
      · obtain ⟨x, hx⟩ := Hrow.out k hlt
        have hbx2 := Hbd.out.stack.2 x (List.mem_of_getElem? hx)
        obtain ⟨g2, _, u2, d2, hv2, hc2, hE2, hg2, _⟩ := ((ints2_ok _).drewN H2.out q).at_ (ints_ok _) hx
        simp only [Value.slice.injEq, Option.some.injEq, Addr.mk.injEq, and_true] at hv2
        obtain ⟨rfl, h9⟩ := hv2
        clear h9
        have hr := spec_rises (n : Int) (w.drewN q) hbx2 hE2
        obtain ⟨A3, k3, rfl⟩ := RowE.slice hE2
        cases hb : risB x n with
        | false =>
          rw [hb] at hr
          have R := Lib.hid hr
          have hno := Lib.hid (rowsB_no hx hb)
          clear hx hbx2 hE2 hr hb hA
          go_wp2_with fail
          refine R.out.mono ?_
          rintro e w' ⟨rfl, q2, rfl⟩
          go_wp2
          go_ret
          exact ⟨by rw [hno.out]; rfl, by first | exact below_drewN (Below.refl _ _) _ | (rw [World.drewN_drewN]; exact below_drewN (Below.refl _ _) _)⟩
        | true =>
          rw [hb] at hr
          have R := Lib.hid hr
          have hnx := Lib.hid (rowsB_take hx hA.out hb)
          clear hx hbx2 hE2 hr hb hA
          go_wp2_with fail
          refine R.out.mono ?_
          rintro e w' ⟨rfl, q2, rfl⟩
          go_wp2
          go_roundw
          case rel => exact ⟨k + 1, _, by omega, by go_num, by first | rfl | rw [World.drewN_drewN], hnx⟩
          case measure => simp [intOf]; omega
      · have e : k = m := by omega
        subst e
        have hrow := Lib.hid (Hall.out hA.out)
        have hr := spec_rises (n : Int) (w.drewN q) Hbd.out.now ((ints_ok _).drewN H1.out q)
        cases hb : risB c.now n with
        | false =>
          rw [hb] at hr
          have R := Lib.hid hr
          have Hb := Lib.hid hb
          clear hr hb hA
          go_wp2_with fail
          refine R.out.mono ?_
          rintro e w' ⟨rfl, q2, rfl⟩
          go_wp2
          go_ret
          exact ⟨by rw [hrow.out, Hb.out]; rfl, by first | exact below_drewN (Below.refl _ _) _ | (rw [World.drewN_drewN]; exact below_drewN (Below.refl _ _) _)⟩
        | true =>
          rw [hb] at hr
          have R := Lib.hid hr
          have Hb := Lib.hid hb
          clear hr hb hA
          go_wp2_with fail
          refine R.out.mono ?_
          rintro e w' ⟨rfl, q2, rfl⟩
          rw [World.drewN_drewN]
          have hs := fun W (h : Below w.heap.size w W) => spec_same (W.alloc (.cells #[.int .i64 0] 2)) HbF.out (show Bd1 [(0 : Int)] by unfold Bd1; decide) ((ints_ok _).later HF.out (h.alloc h.size _)) (one_zero W)
          have S := Lib.hid (hs (w.drewN (q + q2)) (below_drewN (Below.refl _ _) _))
          clear hs
          go_wp2_with fail
          refine S.out.mono ?_
          rintro e w' ⟨rfl, m3, rfl⟩
          go_wp2
          go_ret
          exact ⟨by rw [hrow.out, Hb.out]; rfl, (((below_drewN (Below.refl _ _) _ : Below w.heap.size w (w.drewN (q + q2))).alloc (Nat.le_refl _) _).trans (below_drewN (Below.refl _ _) _))⟩
theorem spec_ValidWatcher {base : Nat} {v : Value} {c : Wt} {bs : List Nat} (w : World) (hc : BdW c) (ha : WtE base w v c bs) :
    Calls Try.prog 39 #[v] w (TupPost (.bool (okW c)) w) := by
  obtain ⟨v0, v1, v2, b0, b1, b2, rfl, h0, h1, h2, _, _⟩ := ha
  have hB : Below w.heap.size w (w.alloc (.cells #[v0, .int .i64 c.seen, v1, v2] 73)) := (Below.refl _ _).alloc (Nat.le_refl _) _
  have x1 := Bx.new w 73 #[v0, .int .i64 c.seen, v1, v2]
  have Q := Lib.hid (spec_watcher _ hc x1 ((qf_ok _).later h0 hB) ((ints_ok _).later h1 hB) ((ints2_ok _).later h2 hB))
  clear h0 h1 h2 x1 hc
  generalize okW c = r at *
  generalize c.seen = s at *
  go_enter Try.func39, Try.ntmps39
  go_wp2_with fail
  refine Q.out.mono ?_
  rintro e w2 ⟨rfl, hb2⟩
  go_wp2
  go_ret
  exact ⟨rfl, hB.trans (hb2.mono hB.size)⟩
end Go.Proofs.Ytfaiifiohomdmaa
