/- What a valid stream is, and its whole; of the model. -/
import Derived.Test.YtadifihblaalpaaSmO
import Derived.Test.YtadifihblaalpaaSpecOk
import Derived.Test.YtadifihblaalpaaWord
namespace Go.Proofs.Ytadifihblaalpaa
open Go.RowKit
set_option linter.unusedVariables false

def wdB (s : ByteArray) : Bool := decide (s.size ≤ 60) && s.data.toList.all fun b => decide (0 ≤ symNo b.toNat)
theorem wdB_iff (s : ByteArray) : wdB s = true ↔ IsW s := by
  simp only [wdB, Bool.and_eq_true, decide_eq_true_eq, List.all_eq_true]
  exact Iff.rfl
theorem wdB_no {s : ByteArray} (h : wdB s = false) : ¬ IsW s := fun hw => by rw [(wdB_iff s).2 hw] at h; cases h
theorem spec_wdB (s : ByteArray) (w : World) (hs : s.size ≤ 1048576) : Calls Try.prog 50 #[.string s] w fun e w' => e = .returned (.bool (wdB s)) ∧ w = w' := by
  cases h : wdB s with
  | true => exact spec_ok_yes s w ((wdB_iff s).1 h)
  | false => exact spec_ok_no s w hs (wdB_no h)
def wholeL (xs : List ByteArray) : List UInt8 := (xs.map (·.data.toList)).flatten
def wholeB (xs : List ByteArray) : ByteArray := ⟨(wholeL xs).toArray⟩
theorem wholeB_succ {xs : List ByteArray} {k : Nat} {x : ByteArray} (h : xs[k]? = some x) : wholeB (xs.take (k + 1)) = wholeB (xs.take k) ++ x := by
  apply ByteArray.ext
  rw [ByteArray.data_append]
  apply Array.ext'
  rw [Array.toList_append]
  show wholeL (xs.take (k + 1)) = wholeL (xs.take k) ++ x.data.toList
  unfold wholeL
  rw [List.take_add_one, h, Option.toList_some, List.map_append, List.flatten_append, List.map_cons, List.map_nil, List.flatten_cons, List.flatten_nil, List.append_nil]
theorem whole_len (xs : List ByteArray) (h : ∀ x ∈ xs, x.size ≤ 60) : (wholeL xs).length ≤ 60 * xs.length := by
  induction xs with
  | nil => exact Nat.zero_le _
  | cons x xs ih =>
    have h1 := ih fun y hy => h y (List.mem_cons_of_mem _ hy)
    have h2 := h x List.mem_cons_self
    have h3 : x.data.toList.length = x.size := Array.length_toList
    unfold wholeL at h1 ⊢
    rw [List.map_cons, List.flatten_cons, List.length_append, List.length_cons]
    omega
theorem wholeB_size (xs : List ByteArray) (h : ∀ x ∈ xs, x.size ≤ 60) : (wholeB xs).size ≤ 60 * xs.length := whole_len xs h
def allW (xs : List ByteArray) : Bool := xs.all wdB
theorem allW_no {xs : List ByteArray} {k : Nat} {x : ByteArray} (hx : xs[k]? = some x) (h : wdB x = false) : allW xs = false := by
  rw [allW, List.all_eq_false]
  exact ⟨x, List.mem_of_getElem? hx, by simp [h]⟩
theorem allW_snoc {xs : List ByteArray} {k : Nat} {x : ByteArray} (hx : xs[k]? = some x) (h : wdB x = true) (hk : allW (xs.take k) = true) : allW (xs.take (k + 1)) = true := by
  rw [List.take_add_one, hx]
  simp only [allW, Option.toList_some, List.all_append, List.all_cons, List.all_nil, Bool.and_true] at hk ⊢
  rw [hk, h]; rfl
theorem allW_sizes {xs : List ByteArray} (h : allW xs = true) : ∀ x ∈ xs, x.size ≤ 60 := fun x hx => by
  rw [allW, List.all_eq_true] at h
  exact ((wdB_iff x).1 (h x hx)).1
/-- A valid stream. -/
def okSm (c : Sm) : Bool := okM c.checker && (decide (1 ≤ c.pieces.length ∧ c.pieces.length ≤ 20) && (allW c.pieces && wdB (wholeB c.pieces)))

set_option maxHeartbeats 1600000 in
set_option maxRecDepth 100000 in
theorem spec_whole (A : Option Addr) (n k : Nat) (xs : List ByteArray) (w : World) (hn : n ≤ 20) (hx : Strs w A n xs) (hs : ∀ x ∈ xs, x.size ≤ 60) :
    Calls Try.prog 45 #[.slice A n k] w fun e w' => e = .returned (.string (wholeB xs)) ∧ w = w' := by
  have Hs := Lib.hid hs
  have Hx := Lib.hid hx
  clear hs hx
  go_enter Try.func45, Try.ntmps45
  go_wp2
  go_loop [3, 4] (fun o i => ∃ (j : Nat) (t : ByteArray), j ≤ n ∧ i = .int .i64 j ∧ o = .string t ∧ Hid (t = wholeB (xs.take j))) (fun _ i => n - (intOf i).toNat)
  case atStart => exact ⟨0, ⟨#[]⟩, Nat.zero_le _, rfl, rfl, rfl⟩
  case round =>
    obtain ⟨j, t, hj, rfl, rfl, ht⟩ := hrel
    by_cases hlt : j < n
    · obtain ⟨g, x, rfl, hxj, _, hc⟩ := Hx.out.at_ j hlt
      have hsx := Hs.out x (List.mem_of_getElem? hxj)
      have hst : t.size ≤ 1200 := by
        rw [ht.out]
        have h1 := wholeB_size (xs.take j) (fun y hy => Hs.out y (List.mem_of_mem_take hy))
        have h2 := Hx.out.1
        rw [List.length_take] at h1
        omega
      have hov : ¬ 9223372036854775807 < t.size + x.size := by omega
      have hnx : Hid (t ++ x = wholeB (xs.take (j + 1))) := by
        show _ = _
        rw [wholeB_succ hxj, ← ht.out]
      clear hxj ht
      go_wp2
      go_round
      case rel => exact ⟨j + 1, _, by omega, by go_num, rfl, hnx⟩
      case measure => simp [intOf]; omega
    · have e : j = n := by omega
      subst e
      have hall : Hid (t = wholeB xs) := by
        have h1 := ht.out
        rwa [← Hx.out.1, List.take_length] at h1
      clear ht
      go_wp2
      go_ret
      exact ⟨by rw [hall.out]; rfl, rfl⟩
theorem Bx.box6 {W : World} {B : Nat} {t : TypeId} {v0 v1 v2 v3 v4 v5 v6 : Value} (h : Bx W B t #[v0, v1, v2, v3, v4, v5, v6]) : Box6 W B v0 v1 v2 v3 v4 v5 := by
  obtain ⟨c0, c1, c2, c3, c4, c5, _, cl⟩ := h.all7
  exact ⟨c0, c1, c2, c3, c4, c5, cl⟩
def SaidPost (v : Value) (w : World) (e : Ending) (w' : World) : Prop := e = .returned v ∧ Below w.heap.size w w'
set_option maxHeartbeats 3200000 in
set_option maxRecDepth 100000 in
theorem spec_okSm {base B : Nat} {va vc vr vi vp : Value} {c : Sm} {b0 b1 : List Nat} (w : World) (hc : BdSt c) (hx : Bx w B 43 #[.int .i64 c.checker.stack, .int .i64 c.checker.start, va, vc, vr, vi, vp])
    (h0 : CkE base w (.agg #[.int .i64 c.checker.stack, .int .i64 c.checker.start, va, vc, vr, vi]) c.checker b0) (h1 : StrE base w vp c.pieces b1) :
    Calls Try.prog 35 #[.pointer (some ⟨B, 0, none⟩)] w (SaidPost (.bool (okSm c)) w) := by
  obtain ⟨A, k, rfl⟩ := RowE.slice h1
  have hst := h1.strs rfl
  have hq : Calls Try.prog 73 #[.pointer (some ⟨B, 0, none⟩)] w (SeenPost (.bool (okM c.checker)) w) := by
    obtain ⟨ta, tc, tr, ti, t1, t2, t3, t4, e, q1, q2, q3, q4, _, _⟩ := h0
    simp only [Value.agg.injEq, Array.mk.injEq, List.cons.injEq, and_true, true_and] at e
    obtain ⟨rfl, rfl, rfl, rfl⟩ := e
    exact spec_l02Ok6 w hc.checker hx.box6 q1 q2 q3 q4
  have HQ := Lib.hid hq
  have HX := Lib.hid hx
  have Hsz := Lib.hid hc.sizes
  have hn := hc.pieces
  unfold Bd1 at hn
  have HS := Lib.hid hst
  obtain ⟨n, hn'⟩ : ∃ n, n = c.pieces.length := ⟨_, rfl⟩
  have HN := Lib.hid hn'
  unfold okSm
  rw [← hn'] at HX HS hn ⊢
  have HIn := Lib.hid (fun W => (show Calls Try.prog 58 #[.int .i64 (n : Int), .int .i64 1, .int .i64 20] W fun e w' => e = .returned (.bool (decide (1 ≤ n ∧ n ≤ 20))) ∧ W = w' by
    by_cases h : 1 ≤ n ∧ n ≤ 20
    · rw [decide_eq_true h]
      exact (in_yes _ 1 20 W (by omega) (by omega)).mono fun e w' ⟨h1, h2⟩ => ⟨h1, h2.symm⟩
    · rw [decide_eq_false h]
      exact (in_no _ 1 20 W (by omega)).mono fun e w' ⟨h1, h2⟩ => ⟨h1, h2.symm⟩))
  generalize okM c.checker = r0 at *
  generalize c.checker.stack = s0 at *
  generalize c.checker.start = s1 at *
  generalize c.pieces = xs at *
  clear hn' h0 h1 hst hx hq hc
  cases r0 with
  | false =>
    rw [Bool.false_and]
    go_enter Try.func35, Try.ntmps35
    go_wp2_with fail
    refine HQ.out.mono ?_
    rintro e w1 ⟨rfl, hb1⟩
    go_wp2
    go_ret
    exact ⟨rfl, hb1⟩
  | true =>
    rw [Bool.true_and]
    by_cases hin : 1 ≤ n ∧ n ≤ 20
    case neg =>
      rw [decide_eq_false hin] at HIn ⊢
      rw [Bool.false_and]
      clear hin
      go_enter Try.func35, Try.ntmps35
      go_wp2_with fail
      refine HQ.out.mono ?_
      rintro e w1 ⟨rfl, hb1⟩
      obtain ⟨c0, c1, c2, c3, c4, c5, c6, cl⟩ := (HX.out.later hb1).all7
      go_wp2_with fail
      refine (HIn.out _).mono ?_
      rintro e w2 ⟨rfl, rfl⟩
      go_wp2
      go_ret
      exact ⟨rfl, hb1⟩
    rw [decide_eq_true hin] at HIn ⊢
    rw [Bool.true_and]
    have hn20 : n ≤ 20 := hin.2
    clear hin
    go_enter Try.func35, Try.ntmps35
    go_wp2_with fail
    refine HQ.out.mono ?_
    rintro e w1 ⟨rfl, hb1⟩
    obtain ⟨c0, c1, c2, c3, c4, c5, c6, cl⟩ := (HX.out.later hb1).all7
    have HS1 : Hid (Strs w1 A n xs) := by
      refine ⟨HS.out.1, fun h => ?_⟩
      obtain ⟨g, e, hg, hcc⟩ := HS.out.2 h
      exact ⟨g, e, Nat.lt_of_lt_of_le hg hb1.size, fun j x hj => (hb1.cell (p := ⟨g, j, none⟩) hg).trans (hcc j x hj)⟩
    have HB1 := Lib.hid hb1
    clear hb1
    go_wp2_with fail
    refine (HIn.out _).mono ?_
    rintro e w2 ⟨rfl, rfl⟩
    go_wp2
    go_loop [3] (fun i => ∃ j : Nat, j ≤ n ∧ i = .int .i64 j ∧ Hid (allW (xs.take j) = true)) (fun i => n - (intOf i).toNat)
    case atStart => exact ⟨0, Nat.zero_le _, rfl, rfl⟩
    case round =>
      obtain ⟨j, hj, rfl, hA⟩ := hrel
      by_cases hlt : j < n
      · obtain ⟨g, x, rfl, hxj, _, hcx⟩ := HS1.out.at_ j hlt
        have HW := Lib.hid (fun W => spec_wdB x W (Hsz.out x (List.mem_of_getElem? hxj)))
        cases hb : wdB x with
        | true =>
          rw [hb] at HW
          have hnx := Lib.hid (allW_snoc hxj hb hA.out)
          clear hxj hb hA
          go_wp2_with fail
          refine (HW.out _).mono ?_
          rintro e w2 ⟨rfl, rfl⟩
          go_wp2
          go_round
          case rel => exact ⟨j + 1, by omega, by go_num, hnx⟩
          case measure => simp [intOf]; omega
        | false =>
          rw [hb] at HW
          have hno := Lib.hid (allW_no hxj hb)
          clear hxj hb hA
          go_wp2_with fail
          refine (HW.out _).mono ?_
          rintro e w2 ⟨rfl, rfl⟩
          go_wp2
          go_ret
          exact ⟨by rw [hno.out, Bool.false_and]; rfl, HB1.out⟩
      · have e : j = n := by omega
        subst e
        have hall : Hid (allW xs = true) := by
          have h1 := hA.out
          rwa [HN.out, List.take_length] at h1
        clear hA
        have Hsx := allW_sizes hall.out
        have HWh := Lib.hid (fun k => spec_whole A j k xs w1 hn20 HS1.out Hsx)
        have hwz := wholeB_size xs Hsx
        have hwz2 : (wholeB xs).size ≤ 1048576 := by have := HN.out; omega
        have HW := Lib.hid (fun W => spec_wdB (wholeB xs) W hwz2)
        clear Hsx hwz hwz2
        generalize wdB (wholeB xs) = r2 at *
        generalize wholeB xs = wx at *
        go_wp2_with fail
        refine (HWh.out _).mono ?_
        rintro e w2 ⟨rfl, rfl⟩
        go_wp2_with fail
        refine (HW.out _).mono ?_
        rintro e w2 ⟨rfl, rfl⟩
        go_wp2
        go_ret
        exact ⟨by rw [hall.out, Bool.true_and]; rfl, HB1.out⟩
theorem spec_ValidStream {base : Nat} {v : Value} {c : Sm} {bs : List Nat} (w : World) (hc : BdSt c) (ha : SmE base w v c bs) :
    Calls Try.prog 12 #[v] w (TupPost (.bool (okSm c)) w) := by
  obtain ⟨va, vc, vr, vi, vp, b0, b1, rfl, h0, h1, _, _⟩ := ha
  have hB : Below w.heap.size w (w.alloc (.cells #[.int .i64 c.checker.stack, .int .i64 c.checker.start, va, vc, vr, vi, vp] 43)) := (Below.refl _ _).alloc (Nat.le_refl _) _
  have H := Lib.hid (spec_okSm _ hc (Bx.new w 43 #[.int .i64 c.checker.stack, .int .i64 c.checker.start, va, vc, vr, vi, vp]) ((ck_ok _).later h0 hB) ((str_ok _).later h1 hB))
  clear h0 h1 hc
  generalize okSm c = r at *
  generalize c.checker.stack = s0 at *
  generalize c.checker.start = s1 at *
  go_enter Try.func12, Try.ntmps12
  go_wp2_with fail
  refine H.out.mono ?_
  rintro e w1 ⟨rfl, hb1⟩
  go_wp2
  go_ret
  exact ⟨rfl, hB.trans (hb1.mono hB.size)⟩
end Go.Proofs.Ytadifihblaalpaa
