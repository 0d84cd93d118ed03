/- QueryText, of the model and of the program. -/
import Derived.Test.YtdehehdcjfaefacQValid
import Derived.Test.YtdehehdcjfaefacPost0
namespace Go.Proofs.Ytdehehdcjfaefac
open Go.RowKit
set_option linter.unusedVariables false

def txt (xs : List (Bool × ByteArray)) : List UInt8 := xs.flatMap fun x => 47 :: ((if x.1 then [47] else []) ++ x.2.data.toList)
theorem txt_succ {xs : List (Bool × ByteArray)} {k : Nat} {x : Bool × ByteArray} (h : xs[k]? = some x) : txt (xs.take (k + 1)) = txt (xs.take k) ++ (47 :: ((if x.1 then [47] else []) ++ x.2.data.toList)) := by
  rw [List.take_add_one, h]
  simp [txt]
def txtS (xs : List (Bool × ByteArray)) : ByteArray := ⟨(txt xs).toArray⟩
theorem txt_eq {t : ByteArray} {l : List UInt8} (h : t.data.toList = l) : t = ⟨l.toArray⟩ := by
  subst h
  obtain ⟨⟨t⟩⟩ := t
  rfl
theorem okQ_all {xs : List (Bool × ByteArray)} (h : okQ xs = true) : xs.length ≤ 6 ∧ ∀ x ∈ xs, x.2.size = 1 := by
  simp only [okQ, lenOk, Bool.and_eq_true, decide_eq_true_eq, allT, List.all_eq_true] at h
  refine ⟨h.1.2, fun x hx => ?_⟩
  have := h.2 x hx
  by_cases h1 : x.2.size = 1
  · exact h1
  · unfold testB tstN at this
    rw [if_neg h1] at this
    cases this
theorem txt_fin {xs : List (Bool × ByteArray)} {k : Nat} {x0 : Bool} {x1 t u : ByteArray} (hx : xs[k]? = some (x0, x1)) (h1 : x1.size = 1) (ht : t.size ≤ 3 * k) (hd : t.data.toList = txt (xs.take k))
    (hu : u = if x0 then ((t ++ ⟨#[47]⟩) ++ ⟨#[47]⟩) ++ x1 else (t ++ ⟨#[47]⟩) ++ x1) : u.size ≤ 3 * (k + 1) ∧ Hid (u.data.toList = txt (xs.take (k + 1))) := by
  have hz : (⟨#[47]⟩ : ByteArray).size = 1 := rfl
  subst hu
  cases x0 with
  | true =>
    refine ⟨by simp only [if_true, ByteArray.size_append]; omega, ?_⟩
    show _ = _
    rw [txt_succ hx, ← hd]
    simp [ByteArray.data_append]
  | false =>
    refine ⟨by simp only [Bool.false_eq_true, if_false, ByteArray.size_append]; omega, ?_⟩
    show _ = _
    rw [txt_succ hx, ← hd]
    simp [ByteArray.data_append]
set_option maxHeartbeats 1600000 in
set_option maxRecDepth 100000 in
theorem spec_text {base B : Nat} {v : Value} {xs : List (Bool × ByteArray)} {bs : List Nat} (w : World) (hok : okQ xs = true) (hB : w.cell? ⟨B, 0, none⟩ = some v) (ha : StepE base w v xs bs) :
    Calls Try.prog 72 #[.pointer (some ⟨B, 0, none⟩)] w fun e w' => e = .returned (.string (txtS xs)) ∧ w = w' := by
  obtain ⟨A, ca, rfl⟩ := RowE.slice ha
  obtain ⟨hn, hone⟩ := okQ_all hok
  obtain ⟨n, hn'⟩ : ∃ n, n = xs.length := ⟨_, rfl⟩
  have Hn := Lib.hid hn'
  have Hone := Lib.hid hone
  rw [← hn'] at ha hn hB
  clear hn' hone hok
  go_enter Try.func72, Try.ntmps72
  go_wp2
  go_loop [3, 4] (fun o i => ∃ (k : Nat) (t : ByteArray), k ≤ n ∧ i = .int .i64 k ∧ o = .string t ∧ t.size ≤ 3 * k ∧ Hid (t.data.toList = txt (xs.take k))) (fun _ i => n - (intOf i).toNat)
  case atStart => exact ⟨0, ⟨#[]⟩, Nat.zero_le _, rfl, rfl, Nat.le_refl _, rfl⟩
  case round =>
    obtain ⟨k, t, hk, rfl, rfl, ht, hd⟩ := hrel
    by_cases hlt : k < n
    · have hkx : k < xs.length := by rw [← Hn.out]; exact hlt
      obtain ⟨x, hx⟩ : ∃ x, xs[k]? = some x := ⟨_, List.getElem?_eq_getElem hkx⟩
      obtain ⟨g, rfl, hg, _⟩ := RowE.head ha hkx
      have hc0 := (StepE.cell' ha hx).1
      have hc1 := (StepE.cell' ha hx).2
      have h1 := Hone.out x (List.mem_of_getElem? hx)
      have hz : (⟨#[47]⟩ : ByteArray).size = 1 := rfl
      obtain ⟨x0, x1⟩ := x
      dsimp only at hc0 hc1 h1
      have hfin := Lib.hid (fun u hu => txt_fin (u := u) hx h1 ht hd.out hu)
      clear hkx hx hd
      cases x0 with
      | true =>
        go_wp2
        go_round
        case rel => exact ⟨k + 1, _, by omega, by go_num, rfl, (hfin.out _ rfl).1, (hfin.out _ rfl).2⟩
        case measure => simp [intOf]; omega
      | false =>
        go_wp2
        go_round
        case rel => exact ⟨k + 1, _, by omega, by go_num, rfl, (hfin.out _ rfl).1, (hfin.out _ rfl).2⟩
        case measure => simp [intOf]; omega
    · have e : k = n := by omega
      subst e
      have h1 := hd.out
      rw [Hn.out, List.take_length] at h1
      have H1 := Lib.hid (show t = txtS xs from txt_eq h1)
      clear h1 hd
      go_wp2
      go_ret
      exact ⟨by rw [H1.out]; rfl, rfl⟩
set_option maxHeartbeats 1600000 in
theorem spec_QueryText {base : Nat} {v : Value} {c : Qr} {bs : List Nat} (w : World) (hc : BdQ c) (ha : QrE base w v c bs) :
    Calls Try.prog 31 #[v] w (TupPost (.string (if okQ c.steps = true then txtS c.steps else ⟨#[]⟩)) w) := by
  obtain ⟨v0, rfl, h0⟩ := ha
  have hB : Below w.heap.size w (w.alloc (.cells #[v0] 29)) := (Below.refl _ _).alloc (Nat.le_refl _) _
  have x1 := Bx.new w 29 #[v0]
  have q := spec_okQ _ hc.steps (x1.cell 0 _ rfl) ((step_ok _).later h0 hB)
  have t := fun h => spec_text _ h (x1.cell 0 _ rfl) ((step_ok _).later h0 hB)
  clear h0 x1 hc
  cases h : okQ c.steps with
  | true =>
    have T := Lib.hid (t h)
    rw [h] at q
    have Q := Lib.hid q
    rw [if_pos rfl]
    generalize txtS c.steps = s at *
    clear t q h
    go_enter Try.func31, Try.ntmps31
    go_wp2_with fail
    refine Q.out.mono ?_
    rintro e w2 ⟨rfl, rfl⟩
    go_wp2_with fail
    refine T.out.mono ?_
    rintro e w2 ⟨rfl, rfl⟩
    go_wp2
    go_ret
    exact ⟨rfl, hB⟩
  | false =>
    rw [h] at q
    have Q := Lib.hid q
    rw [if_neg (by simp)]
    clear t q h
    go_enter Try.func31, Try.ntmps31
    go_wp2_with fail
    refine Q.out.mono ?_
    rintro e w2 ⟨rfl, rfl⟩
    go_wp2
    go_ret
    exact ⟨rfl, hB⟩
set_option maxHeartbeats 1600000 in
set_option maxRecDepth 100000 in
theorem impl_QueryText_yes {base : Nat} {v : Value} {c : Qr} {bs : List Nat} (w : World) (hc : BdQ c) (ha : QrE base w v c bs) (h : okQ c.steps = true) :
    Calls Try.prog 32 #[v] w (TupPost (.string (txtS c.steps)) w) := by
  have hB0 : ∀ o, Below w.heap.size w (w.alloc o) := fun o => (Below.refl _ _).alloc (Nat.le_refl _) o
  have q := fun o => impl_ValidQuery (w.alloc o) hc ((query_ok _).later ha (hB0 o))
  rw [h] at q
  have Q := Lib.hid q
  obtain ⟨v0, rfl, h0⟩ := ha
  obtain ⟨hn, hone⟩ := okQ_all h
  obtain ⟨A, ca, rfl⟩ := RowE.slice h0
  have x1 := Bx.new w 29 #[.slice A c.steps.length ca]
  obtain ⟨n, hn'⟩ : ∃ n, n = c.steps.length := ⟨_, rfl⟩
  have Hn := Lib.hid hn'
  have Hone := Lib.hid hone
  rw [← hn'] at h0 hn x1 Q ⊢
  have H0 := Lib.hid h0
  have HB := Lib.hid (hB0 (.cells #[.slice A n ca] 29))
  obtain ⟨p0, pl⟩ := id x1.all1
  clear hn' hone h hc q h0 hB0
  go_enter Try.func32, Try.ntmps32
  go_wp2_with fail
  refine (Q.out _).mono ?_
  rintro e w1 ⟨rfl, hb1⟩
  have hB1 := HB.out.trans (hb1.mono HB.out.size)
  have c1 := (x1.later hb1).cell 0 _ rfl
  have HB1 := Lib.hid hB1
  clear hB1 hb1 p0 pl x1
  go_wp2
  go_loopw [3, 12] (fun o i wr => ∃ (k : Nat) (t : ByteArray), k ≤ n ∧ i = .int .i64 k ∧ o = .string t ∧ t.size ≤ 3 * k ∧ Hid (t.data.toList = txt (c.steps.take k)) ∧ Below w.heap.size w wr) (fun _ i _ => n - (intOf i).toNat)
  case atStart => exact ⟨0, ⟨#[]⟩, Nat.zero_le _, rfl, rfl, Nat.le_refl _, rfl, HB1.out⟩
  case round =>
    obtain ⟨k, t, hk, rfl, rfl, ht, hd, hB⟩ := hrel
    by_cases hlt : k < n
    · have hkx : k < c.steps.length := by rw [← Hn.out]; exact hlt
      obtain ⟨x, hx⟩ : ∃ x, c.steps[k]? = some x := ⟨_, List.getElem?_eq_getElem hkx⟩
      have ha := (step_ok _).later H0.out hB
      obtain ⟨g, rfl, hg, _⟩ := RowE.head ha hkx
      have hc0 := (StepE.cell' ha hx).1
      have hc1 := (StepE.cell' ha hx).2
      have h1 := Hone.out x (List.mem_of_getElem? hx)
      have hz : (⟨#[47]⟩ : ByteArray).size = 1 := rfl
      obtain ⟨x0, x1⟩ := x
      dsimp only at hc0 hc1 h1
      have hfin := Lib.hid (fun u hu => txt_fin (u := u) hx h1 ht hd.out hu)
      have HBr := Lib.hid (hB.alloc hB.size (.cells #[.bool x0, .string x1] 59))
      clear hkx hx hd hB ha
      cases x0 with
      | true =>
        go_wp2
        go_roundw
        case rel => exact ⟨k + 1, _, by omega, by go_num, rfl, (hfin.out _ rfl).1, (hfin.out _ rfl).2, HBr.out⟩
        case measure => simp [intOf]; omega
      | false =>
        go_wp2
        go_roundw
        case rel => exact ⟨k + 1, _, by omega, by go_num, rfl, (hfin.out _ rfl).1, (hfin.out _ rfl).2, HBr.out⟩
        case measure => simp [intOf]; omega
    · have e : k = n := by omega
      subst e
      have h1 := hd.out
      rw [Hn.out, List.take_length] at h1
      have H1 := Lib.hid (show t = txtS c.steps from txt_eq h1)
      clear h1 hd
      go_wp2
      go_ret
      exact ⟨by rw [H1.out]; rfl, hB⟩
theorem impl_QueryText_no {base : Nat} {v : Value} {c : Qr} {bs : List Nat} (w : World) (hc : BdQ c) (ha : QrE base w v c bs) (h : okQ c.steps = false) :
    Calls Try.prog 32 #[v] w (TupPost (.string ⟨#[]⟩) w) := by
  have hB0 : ∀ o, Below w.heap.size w (w.alloc o) := fun o => (Below.refl _ _).alloc (Nat.le_refl _) o
  have q := fun o => impl_ValidQuery (w.alloc o) hc ((query_ok _).later ha (hB0 o))
  rw [h] at q
  have Q := Lib.hid q
  obtain ⟨v0, rfl, h0⟩ := ha
  have x1 := Bx.new w 29 #[v0]
  have HB := Lib.hid (hB0 (.cells #[v0] 29))
  obtain ⟨p0, pl⟩ := id x1.all1
  clear h hc q h0 hB0 x1
  go_enter Try.func32, Try.ntmps32
  go_wp2_with fail
  refine (Q.out _).mono ?_
  rintro e w1 ⟨rfl, hb1⟩
  go_wp2
  go_ret
  exact ⟨rfl, HB.out.trans (hb1.mono HB.out.size)⟩
theorem both_QueryText (c : Qr) : ∃ (r0 : ByteArray),
    (∀ base0 v0 bs0 w, BdQ c → QrE base0 w v0 c bs0 → Calls Try.prog 31 #[v0] w (TupPost (.string r0) w)) ∧
    (∀ base0 v0 bs0 w, BdQ c → QrE base0 w v0 c bs0 → Calls Try.prog 32 #[v0] w (TupPost (.string r0) w)) := by
  refine ⟨_, fun _ _ _ w hc ha => spec_QueryText w hc ha, fun _ _ _ w hc ha => ?_⟩
  cases h : okQ c.steps with
  | true => rw [if_pos rfl]; exact impl_QueryText_yes w hc ha h
  | false => rw [if_neg (by simp)]; exact impl_QueryText_no w hc ha h
end Go.Proofs.Ytdehehdcjfaefac
