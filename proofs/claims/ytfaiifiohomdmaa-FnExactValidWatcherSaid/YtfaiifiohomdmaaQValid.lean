/- ValidQuery, of the model and of the program. -/
import Derived.Test.YtfaiifiohomdmaaQr
import Derived.Test.YtfaiifiohomdmaaQTestI
import Derived.Test.YtfaiifiohomdmaaIn
namespace Go.Proofs.Ytfaiifiohomdmaa
open Go.RowKit
set_option linter.unusedVariables false

def allT (xs : List (Bool × ByteArray)) : Bool := xs.all fun x => testB x.2
def lenOk (n : Nat) : Bool := decide (1 ≤ n) && decide (n ≤ 6)
def okQ (xs : List (Bool × ByteArray)) : Bool := lenOk xs.length && allT xs
theorem allT_take {xs : List (Bool × ByteArray)} {k : Nat} {x : Bool × ByteArray} (h : xs[k]? = some x) (ha : allT (xs.take k) = true) (hx : testB x.2 = true) : allT (xs.take (k + 1)) = true := by
  rw [List.take_add_one, h]
  simp only [allT, List.all_append, Option.toList_some, List.all_cons, List.all_nil, Bool.and_true, Bool.and_eq_true] at *
  exact ⟨ha, hx⟩
theorem allT_no {xs : List (Bool × ByteArray)} {k : Nat} {x : Bool × ByteArray} (h : xs[k]? = some x) (hx : testB x.2 = false) : allT xs = false := by
  refine Bool.eq_false_iff.2 fun ha => ?_
  simp only [allT, List.all_eq_true] at ha
  rw [ha x (List.mem_of_getElem? h)] at hx
  cases hx
theorem spec_in16 (n : Nat) (w : World) : Calls Try.prog 119 #[.int .i64 (n : Int), .int .i64 1, .int .i64 6] w fun e w' => e = .returned (.bool (lenOk n)) ∧ w = w' := by
  by_cases h : 1 ≤ n ∧ n ≤ 6
  · have e : lenOk n = true := by simp [lenOk, h.1, h.2]
    rw [e]
    refine (in_yes _ _ _ w (by omega) (by omega)).mono ?_
    rintro e w' ⟨rfl, rfl⟩
    exact ⟨rfl, rfl⟩
  · have e : lenOk n = false := by
      simp only [lenOk, Bool.and_eq_false_iff, decide_eq_false_iff_not]
      omega
    rw [e]
    refine (in_no _ _ _ w (by omega)).mono ?_
    rintro e w' ⟨rfl, rfl⟩
    exact ⟨rfl, rfl⟩

set_option maxHeartbeats 1600000 in
set_option maxRecDepth 100000 in
theorem spec_okQ {base B : Nat} {v : Value} {xs : List (Bool × ByteArray)} {bs : List Nat} (w : World) (hn : Bd1 xs) (hB : w.cell? ⟨B, 0, none⟩ = some v) (ha : StepE base w v xs bs) :
    Calls Try.prog 179 #[.pointer (some ⟨B, 0, none⟩)] w fun e w' => e = .returned (.bool (okQ xs)) ∧ w = w' := by
  obtain ⟨A, ca, rfl⟩ := RowE.slice ha
  unfold Bd1 at hn
  obtain ⟨n, hn'⟩ : ∃ n, n = xs.length := ⟨_, rfl⟩
  have Hin := Lib.hid (fun w => spec_in16 n w)
  have Hok := Lib.hid (show okQ xs = (lenOk n && allT xs) by rw [hn']; rfl)
  have Hn := Lib.hid hn'
  rw [← hn'] at ha hn hB
  clear hn'
  go_enter Try.func179, Try.ntmps179
  go_wp2
  go_loop [3] (fun i => ∃ k : Nat, k ≤ n ∧ i = .int .i64 k ∧ Hid (allT (xs.take k) = true)) (fun i => n - (intOf i).toNat)
  case atStart => exact ⟨0, Nat.zero_le _, rfl, rfl⟩
  case round =>
    obtain ⟨k, hk, rfl, hA⟩ := hrel
    by_cases hlt : k < n
    · have hkx : k < xs.length := by rw [← Hn.out]; exact hlt
      obtain ⟨x, hx⟩ : ∃ x, xs[k]? = some x := ⟨_, List.getElem?_eq_getElem hkx⟩
      obtain ⟨g, rfl, hg, _⟩ := RowE.head ha hkx
      have hc1 := (StepE.cell' ha hx).2
      have ht := fun w => spec_test x.2 w
      cases hb : testB x.2 with
      | true =>
        rw [hb] at ht
        have Ht := Lib.hid ht
        have hnx := Lib.hid (allT_take hx hA.out hb)
        clear hkx hx hA ht hb
        obtain ⟨x0, x1⟩ := x
        dsimp only at hc1 Ht
        go_wp2_with (go_at_call 213; refine (Ht.out _).mono ?_; rintro e w' ⟨rfl, rfl⟩)
        go_round
        case rel => exact ⟨k + 1, by omega, by go_num, hnx⟩
        case measure => simp [intOf]; omega
      | false =>
        rw [hb] at ht
        have Ht := Lib.hid ht
        have hno := Lib.hid (show okQ xs = false by rw [okQ, allT_no hx hb, Bool.and_false])
        clear hkx hx hA ht hb
        obtain ⟨x0, x1⟩ := x
        dsimp only at hc1 Ht
        go_wp2_with (go_at_call 213; refine (Ht.out _).mono ?_; rintro e w' ⟨rfl, rfl⟩)
        go_ret
        exact ⟨by rw [hno.out]; rfl, rfl⟩
    · have e : k = n := by omega
      subst e
      have hall := Lib.hid (show okQ xs = lenOk k by
        have h1 := hA.out
        rw [Hn.out, List.take_length] at h1
        rw [Hok.out, h1, Bool.and_true])
      generalize lenOk k = r at *
      clear hA
      go_wp2_with (go_at_call 119; refine (Hin.out _).mono ?_; rintro e w' ⟨rfl, rfl⟩)
      go_ret
      exact ⟨by rw [hall.out]; rfl, rfl⟩

theorem strange_clo (x : Bool) (t : ByteArray) (w : World) : Calls Try.prog 182 #[.agg #[.bool x, .string t]] w (TupPost (.bool (!testB t)) w) := by
  have H := Lib.hid (fun w => impl_isTest t w)
  generalize testB t = r at *
  go_enter Try.func182, Try.ntmps182
  go_wp2_with (go_at_call 183; refine (H.out _).mono ?_; rintro e w' ⟨rfl, rfl⟩)
  go_ret
  exact ⟨rfl, (Below.refl _ _).alloc (Nat.le_refl _) _⟩

/-- Where the first step stands whose test is none, or -1. -/
def badAt (xs : List (Bool × ByteArray)) : Int := match xs.findIdx? (fun x => !testB x.2) with | some i => (i : Int) | none => -1
theorem badAt_at {xs : List (Bool × ByteArray)} {k : Nat} {x : Bool × ByteArray} (h : xs[k]? = some x) (ha : allT (xs.take k) = true) (hx : testB x.2 = false) : badAt xs = (k : Int) := by
  have hk := (List.getElem?_eq_some_iff.1 h).1
  have : xs.findIdx? (fun x => !testB x.2) = some k := by
    rw [List.findIdx?_eq_some_iff_getElem]
    refine ⟨hk, ?_, fun j hj => ?_⟩
    · have := (List.getElem?_eq_some_iff.1 h).2
      rw [this, hx]; rfl
    · simp only [allT, List.all_eq_true] at ha
      have := ha (xs[j]'(by omega)) (List.mem_of_getElem? (i := j) (by rw [List.getElem?_take, if_pos hj]; exact List.getElem?_eq_getElem (by omega)))
      rw [this]; simp
  unfold badAt
  rw [this]
theorem badAt_none {xs : List (Bool × ByteArray)} (ha : allT xs = true) : badAt xs = -1 := by
  have : xs.findIdx? (fun x => !testB x.2) = none := by
    rw [List.findIdx?_eq_none_iff]
    intro x hx
    simp only [allT, List.all_eq_true] at ha
    rw [ha x hx]; rfl
  unfold badAt
  rw [this]
theorem entersQ {P : Program} {f : FuncId} {fn : Func} {c : Code} (hf : P.funcs[f]? = some fn) (hname : (fn.name == "runtime.NumGoroutine") = false) (hb : fn.body = some c) (args : Array Value) (w : World) :
    (callFunc f args).run P w = .ok (.enter f args) w := by
  have h1 : fn.name ≠ "runtime.NumGoroutine" := by simpa using hname
  simp [callFunc, hf, h1, hb]
set_option maxHeartbeats 1600000 in
set_option maxRecDepth 100000 in
theorem idx_steps {base : Nat} {v : Value} {xs : List (Bool × ByteArray)} {bs : List Nat} (w : World) (hn : Bd1 xs) (ha : StepE base w v xs bs) :
    Calls Try.prog 216 #[v, .func (.func 182) #[] #[]] w (SeenPost (.int .i64 (badAt xs)) w) := by
  obtain ⟨A, ca, rfl⟩ := RowE.slice ha
  unfold Bd1 at hn
  obtain ⟨n, hn'⟩ : ∃ n, n = xs.length := ⟨_, rfl⟩
  have Hn := Lib.hid hn'
  rw [← hn'] at ha hn ⊢
  clear hn'
  have hcf : ∀ args w, (callFunc 182 args).run Try.prog w = .ok (.enter 182 args) w := fun args w => entersQ (fn := Try.f182) (by kernel_rfl) (by kernel_rfl) rfl args w
  go_enter Try.func216, Try.ntmps216
  go_wp2
  go_loopw [8] (fun i wr => ∃ k : Nat, k ≤ n ∧ i = .int .i64 k ∧ Hid (allT (xs.take k) = true) ∧ Below w.heap.size w wr) (fun i _ => n - (intOf i).toNat)
  case atStart => exact ⟨0, Nat.zero_le _, rfl, rfl, Below.refl _ _⟩
  case round =>
    obtain ⟨k, hk, rfl, hA, hB⟩ := hrel
    have hs := hB.size
    by_cases hlt : k < n
    · have hkx : k < xs.length := by rw [← Hn.out]; exact hlt
      obtain ⟨x, hx⟩ : ∃ x, xs[k]? = some x := ⟨_, List.getElem?_eq_getElem hkx⟩
      obtain ⟨g, rfl, hg, _⟩ := RowE.head ha hkx
      have hc1 := (hB.cell (p := ⟨g, k * 2, none⟩) hg).trans (StepE.cell' ha hx).1
      have hc2 := (hB.cell (p := ⟨g, k * 2 + 1, none⟩) hg).trans (StepE.cell' ha hx).2
      have ht := fun w => strange_clo x.1 x.2 w
      cases hb : testB x.2 with
      | true =>
        rw [hb] at ht
        have Ht := Lib.hid ht
        have hnx := Lib.hid (allT_take hx hA.out hb)
        clear hkx hx hA ht hb
        obtain ⟨x0, x1⟩ := x
        dsimp only at hc1 hc2 Ht
        go_wp2_with fail
        refine (Ht.out _).mono ?_
        rintro e w2 ⟨rfl, hb2⟩
        go_wp2
        go_roundw
        case rel => exact ⟨k + 1, by omega, by go_num, hnx, hB.trans (hb2.mono hs)⟩
        case measure => simp [intOf]; omega
      | false =>
        rw [hb] at ht
        have Ht := Lib.hid ht
        have hno := Lib.hid (badAt_at hx hA.out hb)
        clear hkx hx hA ht hb
        obtain ⟨x0, x1⟩ := x
        dsimp only at hc1 hc2 Ht
        go_wp2_with fail
        refine (Ht.out _).mono ?_
        rintro e w2 ⟨rfl, hb2⟩
        go_wp2
        go_ret
        exact ⟨by rw [hno.out]; rfl, hB.trans (hb2.mono hs)⟩
    · have e : k = n := by omega
      subst e
      have hno := Lib.hid (show badAt xs = -1 by
        have h1 := hA.out
        rw [Hn.out, List.take_length] at h1
        exact badAt_none h1)
      clear hA
      go_wp2
      go_ret
      exact ⟨by rw [hno.out]; rfl, hB⟩
theorem badAt_all (xs : List (Bool × ByteArray)) : decide ((0 : Int) ≤ badAt xs) = !allT xs := by
  unfold badAt
  cases h : xs.findIdx? (fun x => !testB x.2) with
  | none =>
    rw [List.findIdx?_eq_none_iff] at h
    have : allT xs = true := by
      simp only [allT, List.all_eq_true]
      intro x hx
      have := h x hx
      simpa using this
    rw [this]; rfl
  | some i =>
    rw [List.findIdx?_eq_some_iff_getElem] at h
    obtain ⟨hi, h1, _⟩ := h
    rw [allT_no (List.getElem?_eq_getElem hi) (by simpa using h1)]
    simp
theorem cont_steps {base : Nat} {v : Value} {xs : List (Bool × ByteArray)} {bs : List Nat} (w : World) (hn : Bd1 xs) (ha : StepE base w v xs bs) :
    Calls Try.prog 184 #[v, .func (.func 182) #[] #[]] w (SeenPost (.bool (!allT xs)) w) := by
  have H := Lib.hid (idx_steps w hn ha)
  rw [← badAt_all]
  generalize badAt xs = r at *
  clear hn ha
  go_enter Try.func184, Try.ntmps184
  go_wp2_with fail
  refine H.out.mono ?_
  rintro e w2 ⟨rfl, hb2⟩
  go_wp2
  go_ret
  exact ⟨rfl, hb2⟩
set_option maxHeartbeats 1600000 in
set_option maxRecDepth 100000 in
theorem impl_ValidQuery {base : Nat} {v : Value} {c : Qr} {bs : List Nat} (w : World) (hc : BdQ c) (ha : QrE base w v c bs) :
    Calls Try.prog 110 #[v] w (SeenPost (.bool (okQ c.steps)) w) := by
  obtain ⟨v0, rfl, h0⟩ := ha
  have hB : Below w.heap.size w (w.alloc (.cells #[v0] 71)) := (Below.refl _ _).alloc (Nat.le_refl _) _
  have x1 := Bx.new w 71 #[v0]
  have hn := hc.steps
  have Q := Lib.hid (cont_steps _ hc.steps ((step_ok _).later h0 hB))
  obtain ⟨A, ca, rfl⟩ := RowE.slice h0
  have c1 := x1.cell 0 _ rfl
  unfold Bd1 at hn
  unfold okQ lenOk
  generalize allT c.steps = r at *
  generalize c.steps.length = n at *
  clear h0 x1 hc
  by_cases h1 : 1 ≤ n
  · by_cases h6 : n ≤ 6
    · have h1' : 0 < n := h1
      simp only [h1, h6, decide_true, Bool.true_and]
      go_enter Try.func110, Try.ntmps110
      go_wp2_with fail
      refine Q.out.mono ?_
      rintro e w2 ⟨rfl, hb2⟩
      go_wp2
      go_ret
      exact ⟨by simp, hB.trans (hb2.mono hB.size)⟩
    · have h1' : 0 < n := h1
      have h6' : 6 < n := by omega
      have e6 : decide (n ≤ 6) = false := by simpa using h6
      simp only [e6, Bool.and_false, Bool.false_and]
      clear h6
      go_enter Try.func110, Try.ntmps110
      go_wp2
      go_ret
      exact ⟨rfl, hB⟩
  · obtain rfl : n = 0 := by omega
    clear h1
    go_enter Try.func110, Try.ntmps110
    go_wp2
    go_ret
    exact ⟨rfl, hB⟩
end Go.Proofs.Ytfaiifiohomdmaa
