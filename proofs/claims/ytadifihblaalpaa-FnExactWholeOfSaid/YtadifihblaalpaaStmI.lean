/- What a valid stream is, and its whole; of the program. -/
import Derived.Test.YtadifihblaalpaaStmS
import Derived.Test.YtadifihblaalpaaLayJ
import Derived.Test.YtadifihblaalpaaValidWord0
import Derived.Deep.QuietTactic
import Derived.BigQuiet
import Derived.OwnWalk
namespace Go.Proofs
theorem Try.extra156s : Builder.Extra Try.prog Try.lays156_ren := { sizeBuilder := by kernel_rfl, liesBuilder := by kernel_rfl, t5 := Try.underlying5, a5 := Try.isAgg5, z5 := Try.sizeOf5, v5 := Try.zeroValue5, infoByte := by kernel_rfl, cellsByte := by kernel_rfl, sizeByte := by kernel_rfl, neB5 := by decide }
end Go.Proofs
namespace Go.Proofs.Ytadifihblaalpaa
open Go.RowKit
set_option linter.unusedVariables false

theorem impl_wdB (s : ByteArray) (w : World) (hs : s.size ≤ 1048576) : Calls Try.prog 39 #[.string s] w (SeenPost (.bool (wdB s)) w) := by
  cases h : wdB s with
  | true => exact impl_valid_yes s w ((wdB_iff s).1 h)
  | false => exact impl_valid_no s w hs (wdB_no h)
theorem strange_txt (s : ByteArray) (w : World) (hs : s.size ≤ 1048576) : Calls Try.prog 38 #[.string s] w (SeenPost (.bool (!wdB s)) w) := by
  have H := Lib.hid (impl_wdB s w hs)
  generalize wdB s = r at *
  go_enter Try.func38, Try.ntmps38
  go_wp2_with fail
  refine H.out.mono ?_
  rintro e w1 ⟨rfl, hb1⟩
  go_wp2
  go_ret
  exact ⟨rfl, hb1⟩
def badT (xs : List ByteArray) : Int := match xs.findIdx? (fun x => !wdB x) with | some i => (i : Int) | none => -1
theorem badT_at {xs : List ByteArray} {k : Nat} {x : ByteArray} (h : xs[k]? = some x) (ha : allW (xs.take k) = true) (hx : wdB x = false) : badT xs = (k : Int) := by
  have hk := (List.getElem?_eq_some_iff.1 h).1
  have : xs.findIdx? (fun x => !wdB x) = some k := by
    rw [List.findIdx?_eq_some_iff_getElem]
    refine ⟨hk, ?_, fun j hj => ?_⟩
    · have := (List.getElem?_eq_some_iff.1 h).2
      rw [this, hx]; rfl
    · simp only [allW, List.all_eq_true] at ha
      have := ha (xs[j]'(by omega)) (List.mem_of_getElem? (i := j) (by rw [List.getElem?_take, if_pos hj]; exact List.getElem?_eq_getElem (by omega)))
      rw [this]; simp
  unfold badT
  rw [this]
theorem badT_none {xs : List ByteArray} (ha : allW xs = true) : badT xs = -1 := by
  have : xs.findIdx? (fun x => !wdB x) = none := by
    rw [List.findIdx?_eq_none_iff]
    intro x hx
    simp only [allW, List.all_eq_true] at ha
    rw [ha x hx]; rfl
  unfold badT
  rw [this]
theorem badT_all (xs : List ByteArray) : decide ((0 : Int) ≤ badT xs) = !allW xs := by
  unfold badT
  cases h : xs.findIdx? (fun x => !wdB x) with
  | none =>
    rw [List.findIdx?_eq_none_iff] at h
    have : allW xs = true := by
      simp only [allW, List.all_eq_true]
      intro x hx
      have := h x hx
      simpa using this
    rw [this]; rfl
  | some i =>
    rw [List.findIdx?_eq_some_iff_getElem] at h
    obtain ⟨hi, h1, _⟩ := h
    rw [allW_no (List.getElem?_eq_getElem hi) (by simpa using h1)]
    simp
theorem entersT {P : Program} {f : FuncId} {fn : Func} {c : Code} (hf : P.funcs[f]? = some fn) (hname : (fn.name == "runtime.NumGoroutine") = false) (hb : fn.body = some c) (args : Array Value) (w : World) :
    (callFunc f args).run P w = .ok (.enter f args) w := by
  have h1 : fn.name ≠ "runtime.NumGoroutine" := by simpa using hname
  simp [callFunc, hf, h1, hb]
set_option maxHeartbeats 1600000 in
set_option maxRecDepth 100000 in
theorem idx_txt {base : Nat} {v : Value} {xs : List ByteArray} {bs : List Nat} (w : World) (hn : Bd1 xs) (hsz : ∀ x ∈ xs, x.size ≤ 1048576) (ha : StrE base w v xs bs) :
    Calls Try.prog 78 #[v, .func (.func 38) #[] #[]] w (SeenPost (.int .i64 (badT xs)) w) := by
  obtain ⟨A, ca, rfl⟩ := RowE.slice ha
  unfold Bd1 at hn
  obtain ⟨n, hn'⟩ : ∃ n, n = xs.length := ⟨_, rfl⟩
  have Hn := Lib.hid hn'
  rw [← hn'] at ha hn ⊢
  have Hsz := Lib.hid hsz
  clear hn' hsz
  have hcf : ∀ args w, (callFunc 38 args).run Try.prog w = .ok (.enter 38 args) w := fun args w => entersT (fn := Try.f38) (by kernel_rfl) (by kernel_rfl) rfl args w
  go_enter Try.func78, Try.ntmps78
  go_wp2
  go_loopw [8] (fun i wr => ∃ k : Nat, k ≤ n ∧ i = .int .i64 k ∧ Hid (allW (xs.take k) = true) ∧ Below w.heap.size w wr) (fun i _ => n - (intOf i).toNat)
  case atStart => exact ⟨0, Nat.zero_le _, rfl, rfl, Below.refl _ _⟩
  case round =>
    obtain ⟨k, hk, rfl, hA, hB⟩ := hrel
    have hs := hB.size
    by_cases hlt : k < n
    · have hkx : k < xs.length := by rw [← Hn.out]; exact hlt
      obtain ⟨x, hx⟩ : ∃ x, xs[k]? = some x := ⟨_, List.getElem?_eq_getElem hkx⟩
      obtain ⟨g, rfl, hg, _⟩ := RowE.head ha hkx
      have hc1 := (hB.cell (p := ⟨g, k, none⟩) hg).trans (StrE.cell' ha hx)
      have ht := fun w => strange_txt x w (Hsz.out x (List.mem_of_getElem? hx))
      cases hb : wdB x with
      | true =>
        rw [hb] at ht
        have Ht := Lib.hid ht
        have hnx := Lib.hid (allW_snoc hx hb hA.out)
        clear hkx hx hA ht hb
        go_wp2_with fail
        refine (Ht.out _).mono ?_
        rintro e w2 ⟨rfl, hb2⟩
        go_wp2
        go_roundw
        case rel => exact ⟨k + 1, by omega, by go_num, hnx, hB.trans (hb2.mono hs)⟩
        case measure => simp [intOf]; omega
      | false =>
        rw [hb] at ht
        have Ht := Lib.hid ht
        have hno := Lib.hid (badT_at hx hA.out hb)
        clear hkx hx hA ht hb
        go_wp2_with fail
        refine (Ht.out _).mono ?_
        rintro e w2 ⟨rfl, hb2⟩
        go_wp2
        go_ret
        exact ⟨by rw [hno.out]; rfl, hB.trans (hb2.mono hs)⟩
    · have e : k = n := by omega
      subst e
      have hno := Lib.hid (show badT xs = -1 by
        have h1 := hA.out
        rw [Hn.out, List.take_length] at h1
        exact badT_none h1)
      clear hA
      go_wp2
      go_ret
      exact ⟨by rw [hno.out]; rfl, hB⟩
theorem cont_txt {base : Nat} {v : Value} {xs : List ByteArray} {bs : List Nat} (w : World) (hn : Bd1 xs) (hsz : ∀ x ∈ xs, x.size ≤ 1048576) (ha : StrE base w v xs bs) :
    Calls Try.prog 40 #[v, .func (.func 38) #[] #[]] w (SeenPost (.bool (!allW xs)) w) := by
  have H := Lib.hid (idx_txt w hn hsz ha)
  rw [← badT_all]
  generalize badT xs = r at *
  clear hn ha hsz
  go_enter Try.func40, Try.ntmps40
  go_wp2_with fail
  refine H.out.mono ?_
  rintro e w2 ⟨rfl, hb2⟩
  go_wp2
  go_ret
  exact ⟨rfl, hb2⟩
theorem inter_nil : ∀ l : List (List UInt8), (List.intersperse [] l).flatten = l.flatten
  | [] => rfl
  | [x] => rfl
  | x :: y :: l => by
    have h := inter_nil (y :: l)
    rw [List.intersperse_cons_cons, List.flatten_cons, List.flatten_cons, List.nil_append, h, List.flatten_cons (l := x)]
theorem join_nil (xs : List ByteArray) : Lib.join (xs.map (·.data.toList)) [] = wholeL xs := by
  unfold wholeL
  rw [Lib.join, List.intercalate, inter_nil]
set_option maxHeartbeats 1600000 in
set_option maxRecDepth 100000 in
theorem impl_wholeOf {base : Nat} {v : Value} {c : Sm} {bs : List Nat} (w : World) (ha : SmE base w v c bs) (h1n : 1 ≤ c.pieces.length) (hn : c.pieces.length ≤ 20) (hs : ∀ x ∈ c.pieces, x.size ≤ 60) :
    Calls Try.prog 41 #[v] w (SeenPost (.string (wholeB c.pieces)) w) := by
  obtain ⟨va, vc, vr, vi, vp, b0, b1, rfl, h0, h1, _, _⟩ := ha
  have hB : Below w.heap.size w (w.alloc (.cells #[.int .i64 c.checker.stack, .int .i64 c.checker.start, va, vc, vr, vi, vp] 43)) := (Below.refl _ _).alloc (Nat.le_refl _) _
  have h2 := (str_ok _).later h1 hB
  obtain ⟨A, k, rfl⟩ := RowE.slice h2
  obtain ⟨g, rfl, hg, hkc⟩ := RowE.head h2 h1n
  have hcell := fun (j : Nat) (x : ByteArray) (hx : c.pieces[j]? = some x) => StrE.cell' h2 hx
  have hcap : c.pieces.length ≤ k := by
    rcases h2.1.2 with ⟨hv, _⟩ | ⟨g', cap, cur, hv, _, _, h3, h4, _⟩
    · cases hv
    · simp only [Value.slice.injEq] at hv
      obtain ⟨_, _, rfl⟩ := hv
      exact h3
  have hlen : (Lib.join (c.pieces.map (·.data.toList)) (⟨#[]⟩ : ByteArray).data.toList).length ≤ 140737488355328 := by
    rw [join_nil]
    have := whole_len c.pieces hs
    omega
  have HJ := Lib.hid (Any.strings_Join Try.lays156 Try.extra156s g 0 k c.pieces ⟨#[]⟩ _ (fun j x hx => by rw [Nat.zero_add]; exact hcell j x hx) hg (by omega) hcap hlen)
  have HR := Lib.hid (show (⟨(Lib.join (c.pieces.map (·.data.toList)) (⟨#[]⟩ : ByteArray).data.toList).toArray⟩ : ByteArray) = wholeB c.pieces by
    rw [join_nil]; rfl)
  rw [HR.out] at HJ
  have x1 := Bx.new w 43 #[.int .i64 c.checker.stack, .int .i64 c.checker.start, va, vc, vr, vi, .slice (some ⟨g, 0, none⟩) c.pieces.length k]
  clear h0 h1 h2 hcell hcap hlen hkc HR
  generalize wholeB c.pieces = R at *
  generalize c.pieces.length = n at *
  generalize c.checker.stack = s0 at *
  generalize c.checker.start = s1 at *
  obtain ⟨c0, c1, c2, c3, c4, c5, c6, cl⟩ := x1.all7
  go_enter Try.func41, Try.ntmps41
  go_wp2_with fail
  refine HJ.out.mono ?_
  rintro e w2 ⟨rfl, hb2⟩
  go_wp2
  go_ret
  exact ⟨rfl, hB.trans (hb2.mono hB.size)⟩
set_option maxHeartbeats 3200000 in
set_option maxRecDepth 100000 in
theorem impl_ValidStream {base : Nat} {v : Value} {c : Sm} {bs : List Nat} (w : World) (hc : BdSt c) (ha : SmE base w v c bs) :
    Calls Try.prog 14 #[v] w (SeenPost (.bool (okSm c)) w) := by
  have ha0 := ha
  obtain ⟨va, vc, vr, vi, vp, b0, b1, rfl, h0, h1, _, _⟩ := ha
  have hB : Below w.heap.size w (w.alloc (.cells #[.int .i64 c.checker.stack, .int .i64 c.checker.start, va, vc, vr, vi, vp] 43)) := (Below.refl _ _).alloc (Nat.le_refl _) _
  have x1 := Bx.new w 43 #[.int .i64 c.checker.stack, .int .i64 c.checker.start, va, vc, vr, vi, vp]
  have HC := Lib.hid (cont_txt _ hc.pieces hc.sizes ((str_ok _).later h1 hB))
  have HK := Lib.hid fun (W : World) (hw : Below w.heap.size w W) => impl_ValidChecker W hc.checker ((ck_ok _).later h0 hw)
  have HW := Lib.hid fun (W : World) (hw : Below w.heap.size w W) (g1 : 1 ≤ c.pieces.length) (g2 : c.pieces.length ≤ 20) (g3 : ∀ x ∈ c.pieces, x.size ≤ 60) => impl_wholeOf W ((stream_ok _).later ha0 hw) g1 g2 g3
  have hn := hc.pieces
  unfold Bd1 at hn
  obtain ⟨A, k, rfl⟩ := RowE.slice h1
  unfold okSm
  obtain ⟨c0, c1, c2, c3, c4, c5, c6, cl⟩ := id x1.all7
  have HX := Lib.hid x1
  clear h0 h1 hc ha0 x1
  generalize okM c.checker = r0 at *
  generalize c.checker.stack = s0 at *
  generalize c.checker.start = s1 at *
  generalize c.pieces = xs at *
  obtain ⟨n, hn'⟩ : ∃ n, n = xs.length := ⟨_, rfl⟩
  have HN := Lib.hid hn'
  rw [← hn'] at HX HC HW c6 hB hn ⊢
  clear hn'
  by_cases h1 : n < 1
  case pos =>
    obtain rfl : n = 0 := by omega
    rw [decide_eq_false (by omega), Bool.false_and, Bool.and_false]
    clear h1
    go_enter Try.func14, Try.ntmps14
    go_wp2
    go_ret
    exact ⟨rfl, hB⟩
  by_cases h20 : 20 < n
  case pos =>
    have h1' : 0 < n := by omega
    rw [decide_eq_false (by omega), Bool.false_and, Bool.and_false]
    clear h1
    go_enter Try.func14, Try.ntmps14
    go_wp2
    go_ret
    exact ⟨rfl, hB⟩
  have h1' : 0 < n := by omega
  have h20' : n ≤ 20 := by omega
  rw [decide_eq_true (by omega), Bool.true_and]
  clear h1 h20
  cases hA : allW xs with
  | false =>
    rw [hA] at HC
    rw [Bool.false_and, Bool.and_false]
    clear hA
    go_enter Try.func14, Try.ntmps14
    go_wp2_with fail
    refine HC.out.mono ?_
    rintro e w1 ⟨rfl, hb1⟩
    go_wp2
    go_ret
    exact ⟨rfl, hB.trans (hb1.mono hB.size)⟩
  | true =>
    have Hs60 := allW_sizes hA
    rw [hA] at HC
    rw [Bool.true_and]
    have hwz := wholeB_size xs Hs60
    have hwz2 : (wholeB xs).size ≤ 1048576 := by have := HN.out; omega
    have HV := Lib.hid (fun W => impl_wdB (wholeB xs) W hwz2)
    have HWh := Lib.hid (fun W hw => HW.out W hw h1' h20' Hs60)
    clear Hs60 hwz hwz2 HW hA
    generalize wdB (wholeB xs) = r2 at *
    generalize wholeB xs = wx at *
    go_enter Try.func14, Try.ntmps14
    go_wp2_with fail
    refine HC.out.mono ?_
    rintro e w1 ⟨rfl, hb1⟩
    replace hB := hB.trans (hb1.mono hB.size)
    have x2 := HX.out.later hb1
    clear c0 c1 c2 c3 c4 c5 c6 cl
    obtain ⟨c0, c1, c2, c3, c4, c5, c6, cl⟩ := id x2.all7
    go_wp2_with fail
    refine (HWh.out _ hB).mono ?_
    rintro e w2 ⟨rfl, hb2⟩
    replace hB := hB.trans (hb2.mono hB.size)
    replace x2 := x2.later hb2
    clear c0 c1 c2 c3 c4 c5 c6 cl
    go_wp2_with fail
    refine (HV.out _).mono ?_
    rintro e w3 ⟨rfl, hb3⟩
    replace hB := hB.trans (hb3.mono hB.size)
    replace x2 := x2.later hb3
    obtain ⟨c0, c1, c2, c3, c4, c5, c6, cl⟩ := id x2.all7
    clear hb1 hb2 hb3 x2
    cases r2 with
    | false =>
      go_wp2
      go_ret
      exact ⟨by cases r0 <;> rfl, hB⟩
    | true =>
      go_wp2_with fail
      refine (HK.out _ hB).mono ?_
      rintro e w4 ⟨rfl, hb4⟩
      go_wp2
      go_ret
      exact ⟨by cases r0 <;> rfl, hB.trans (hb4.mono hB.size)⟩
theorem both_ValidStream (c : Sm) : ∃ (r0 : Bool),
    (∀ base0 v0 bs0 w, BdSt c → SmE base0 w v0 c bs0 → Calls Try.prog 12 #[v0] w (TupPost (.bool r0) w)) ∧
    (∀ base0 v0 bs0 w, BdSt c → SmE base0 w v0 c bs0 → Calls Try.prog 14 #[v0] w (TupPost (.bool r0) w)) :=
  ⟨_, fun _ _ _ w hc ha => spec_ValidStream w hc ha, fun _ _ _ w hc ha => impl_ValidStream w hc ha⟩
end Go.Proofs.Ytadifihblaalpaa
