/- What a valid rewriter is, in plain mathematics; the model's checks of one text, of a range, and of a list of moves. -/
import Derived.Test.YtmkamodmnplclaaIn
import Derived.Test.YtmkamodmnplclaaWord
import Derived.Test.YtmkamodmnplclaaRwAt
namespace Go.Proofs.Ytmkamodmnplclaa
open Go.RowKit
set_option linter.unusedVariables false

/-- Whether a text is a word. -/
def wB (s : ByteArray) : Bool := decide (s.size ≤ 60) && s.data.toList.all fun b => decide (0 ≤ symNo b.toNat)
theorem wB_iff (s : ByteArray) : wB s = true ↔ IsW s := by
  simp only [wB, Bool.and_eq_true, decide_eq_true_eq, List.all_eq_true]
  exact Iff.rfl
theorem wB_no {s : ByteArray} (h : wB s = false) : ¬ IsW s := fun hw => by rw [(wB_iff s).2 hw] at h; cases h
theorem spec_wB (s : ByteArray) (w : World) (hs : s.size ≤ 1048576) : Calls Try.prog 62 #[.string s] w fun e w' => e = .returned (.bool (wB s)) ∧ w = w' := by
  cases h : wB s with
  | true => exact spec_ok_yes s w ((wB_iff s).1 h)
  | false => exact spec_ok_no s w hs (wB_no h)
/-- Whether a number lies between two. -/
def inB (a b n : Int) : Bool := decide (a ≤ n ∧ n ≤ b)
theorem spec_in (n a b : Int) (w : World) : Calls Try.prog 115 #[.int .i64 n, .int .i64 a, .int .i64 b] w fun e w' => e = .returned (.bool (inB a b n)) ∧ w = w' := by
  by_cases h : a ≤ n ∧ n ≤ b
  · rw [inB, decide_eq_true h]
    refine (in_yes n a b w h.1 h.2).mono ?_
    rintro e w' ⟨rfl, rfl⟩
    exact ⟨rfl, rfl⟩
  · rw [inB, decide_eq_false h]
    refine (in_no n a b w (by omega)).mono ?_
    rintro e w' ⟨rfl, rfl⟩
    exact ⟨rfl, rfl⟩
/-- Whether a text may be written for a symbol. -/
def outB (t : ByteArray) : Bool := decide (t.size ≤ 4) && wB t
theorem spec_out (t : ByteArray) (w : World) : Calls Try.prog 117 #[.string t] w fun e w' => e = .returned (.bool (outB t)) ∧ w = w' := by
  by_cases h : t.size ≤ 4
  · have e : outB t = wB t := by rw [outB, decide_eq_true h, Bool.true_and]
    have H := Lib.hid (fun w => spec_wB t w (by omega))
    rw [e]
    have d1 : decide ((t.size : Int) ≤ 4) = true := decide_eq_true (by omega)
    have d2 : (t.size : Int) ≤ 4 := by omega
    generalize wB t = r at *
    clear e
    go_enter Try.func117, Try.ntmps117
    go_wp2_with (go_at_call 62; refine (H.out _).mono ?_; rintro e w' ⟨rfl, rfl⟩)
    go_ret
    exact ⟨rfl, rfl⟩
  · have e : outB t = false := by rw [outB, decide_eq_false h, Bool.false_and]
    rw [e]
    have d1 : decide ((t.size : Int) ≤ 4) = false := decide_eq_false (by omega)
    have d2 : ¬ ((t.size : Int) ≤ 4) := by omega
    clear e
    go_enter Try.func117, Try.ntmps117
    go_wp2
    go_ret
    exact ⟨rfl, rfl⟩
/-- Whether a move fits so many states; whether a push fits so many states and marks; whether a row has so many, all fit. -/
def omB (n : Nat) (x : Int × ByteArray) : Bool := inB 0 ((n : Int) - 1) x.1 && outB x.2
def opB (n : Nat) (m : Int) (x : Int × Int × ByteArray) : Bool := inB 0 ((n : Int) - 1) x.1 && (inB 0 (m - 1) x.2.1 && outB x.2.2)
def rowB {α : Type} (p : α → Bool) (k : Int) (xs : List α) : Bool := xs.all p && decide ((xs.length : Int) = k)
theorem all_take {α : Type} {p : α → Bool} {xs : List α} {k : Nat} {x : α} (h : xs[k]? = some x) (ha : (xs.take k).all p = true) (hx : p x = true) : (xs.take (k + 1)).all p = true := by
  rw [List.take_add_one, h, List.all_append, ha]
  simp [hx]
theorem all_no {α : Type} {p : α → Bool} {xs : List α} {k : Nat} {x : α} (h : xs[k]? = some x) (hx : p x = false) : xs.all p = false := by
  rw [List.all_eq_false]
  exact ⟨x, List.mem_of_getElem? h, by rw [hx]; decide⟩
set_option maxHeartbeats 1600000 in
set_option maxRecDepth 100000 in
theorem spec_moves {base n : Nat} {m : Int} {v : Value} {xs : List (Int × ByteArray)} {bs : List Nat} (w : World) (hn : 1 ≤ n ∧ n ≤ 8) (hb : Bd1 xs) (ha : OmE base w v xs bs) :
    Calls Try.prog 116 #[v, .int .i64 m, .int .i64 (n : Int)] w fun e w' => e = .returned (.bool (rowB (omB n) m xs)) ∧ w = w' := by
  obtain ⟨A, ca, rfl⟩ := RowE.slice ha
  unfold Bd1 at hb
  obtain ⟨l, hl⟩ : ∃ l, l = xs.length := ⟨_, rfl⟩
  have Hn := Lib.hid hl
  have Hin := Lib.hid (fun x w => spec_in x 0 ((n : Int) - 1) w)
  have Hout := Lib.hid (fun t w => spec_out t w)
  rw [← hl] at ha hb ⊢
  clear hl
  go_enter Try.func116, Try.ntmps116
  go_wp2
  go_loop [7] (fun i => ∃ k : Nat, k ≤ l ∧ i = .int .i64 k ∧ Hid ((xs.take k).all (omB n) = true)) (fun i => l - (intOf i).toNat)
  case atStart => exact ⟨0, Nat.zero_le _, rfl, rfl⟩
  case round =>
    obtain ⟨k, hk, rfl, hA⟩ := hrel
    by_cases hlt : k < l
    · have hkx : k < xs.length := by rw [← Hn.out]; exact hlt
      obtain ⟨x, hx⟩ : ∃ x, xs[k]? = some x := ⟨_, List.getElem?_eq_getElem hkx⟩
      obtain ⟨g, rfl, hg, _⟩ := RowE.head ha hkx
      have hc1 := (OmE.cell' ha hx).1
      have hc2 := (OmE.cell' ha hx).2
      cases h1 : inB 0 ((n : Int) - 1) x.1 with
      | false =>
        have hno := Lib.hid (show rowB (omB n) m xs = false by rw [rowB, all_no hx (by rw [omB, h1, Bool.false_and]), Bool.false_and])
        have H1 := Lib.hid (fun w => Hin.out x.1 w)
        rw [h1] at H1
        clear hkx hx hA h1
        obtain ⟨x0, x1⟩ := x
        dsimp only at hc1 hc2 H1
        go_wp2_with (go_at_call 115; refine (H1.out _).mono ?_; rintro e w' ⟨rfl, rfl⟩)
        go_ret
        exact ⟨by rw [hno.out]; rfl, rfl⟩
      | true =>
        have H1 := Lib.hid (fun w => Hin.out x.1 w)
        rw [h1] at H1
        cases h2 : outB x.2 with
        | false =>
          have hno := Lib.hid (show rowB (omB n) m xs = false by rw [rowB, all_no hx (by rw [omB, h2, Bool.and_false]), Bool.false_and])
          have H2 := Lib.hid (fun w => Hout.out x.2 w)
          rw [h2] at H2
          clear hkx hx hA h1 h2
          obtain ⟨x0, x1⟩ := x
          dsimp only at hc1 hc2 H1 H2
          go_wp2_with (go_at_call 115; refine (H1.out _).mono ?_; rintro e w' ⟨rfl, rfl⟩)
          go_wp2_with (go_at_call 117; refine (H2.out _).mono ?_; rintro e w' ⟨rfl, rfl⟩)
          go_ret
          exact ⟨by rw [hno.out]; rfl, rfl⟩
        | true =>
          have H2 := Lib.hid (fun w => Hout.out x.2 w)
          rw [h2] at H2
          have hnx := Lib.hid (all_take hx hA.out (show omB n x = true by rw [omB, h1, h2]; rfl))
          clear hkx hx hA h1 h2
          obtain ⟨x0, x1⟩ := x
          dsimp only at hc1 hc2 H1 H2
          go_wp2_with (go_at_call 115; refine (H1.out _).mono ?_; rintro e w' ⟨rfl, rfl⟩)
          go_wp2_with (go_at_call 117; refine (H2.out _).mono ?_; rintro e w' ⟨rfl, rfl⟩)
          go_round
          case rel => exact ⟨k + 1, by omega, by go_num, hnx⟩
          case measure => simp [intOf]; omega
    · have e : k = l := by omega
      subst e
      have hall := Lib.hid (show rowB (omB n) m xs = ((k : Int) == m) by
        have h1 := hA.out
        rw [Hn.out, List.take_length] at h1
        rw [rowB, h1, Bool.true_and, ← Hn.out]
        by_cases h : (k : Int) = m <;> simp [h])
      clear hA
      go_wp2
      go_ret
      exact ⟨by rw [hall.out]; rfl, rfl⟩
end Go.Proofs.Ytmkamodmnplclaa
