/- MemoryOf, of the model and of the program. -/
import Derived.Test.YtdehehdcjfaefaaQValid
import Derived.Test.YtdehehdcjfaefaaDepthsOf
namespace Go.Proofs.Ytdehehdcjfaefaa
open Go.RowKit
set_option linter.unusedVariables false

theorem spec_given_yes {base B : Nat} {v : Value} {xs : List (Bool × ByteArray)} {bs : List Nat} {s : ByteArray} (w : World) (hn : Bd1 xs) (hB : w.cell? ⟨B, 0, none⟩ = some v) (ha : StepE base w v xs bs) (h : okQ xs = true) (hs : IsW s) :
    Calls Try.prog 42 #[.pointer (some ⟨B, 0, none⟩), .string s] w fun e w' => e = .returned (.int .i64 0) ∧ w = w' := by
  have q := spec_okQ _ hn hB ha
  rw [h] at q
  have Q := Lib.hid q
  have S := Lib.hid (fun w => spec_ok_yes s w hs)
  clear q ha hn h hs
  go_enter Try.func42, Try.ntmps42
  go_wp2_with (first
    | (go_at_call 66; refine Q.out.mono ?_; rintro e w' ⟨rfl, rfl⟩)
    | (go_at_call 33; refine (S.out _).mono ?_; rintro e w' ⟨rfl, rfl⟩))
  go_ret
  exact ⟨rfl, rfl⟩
theorem spec_given_no {base B : Nat} {v : Value} {xs : List (Bool × ByteArray)} {bs : List Nat} {s : ByteArray} (w : World) (hn : Bd1 xs) (hB : w.cell? ⟨B, 0, none⟩ = some v) (ha : StepE base w v xs bs) (hz : s.size ≤ 1048576) (h : okQ xs = false ∨ ¬ IsW s) :
    Calls Try.prog 42 #[.pointer (some ⟨B, 0, none⟩), .string s] w fun e w' => e = .returned (.int .i64 1) ∧ w = w' := by
  have q := spec_okQ _ hn hB ha
  cases hh : okQ xs with
  | false =>
    rw [hh] at q
    have Q := Lib.hid q
    clear q ha hn h hh
    go_enter Try.func42, Try.ntmps42
    go_wp2_with (first
      | (go_at_call 66; refine Q.out.mono ?_; rintro e w' ⟨rfl, rfl⟩))
    go_ret
    exact ⟨rfl, rfl⟩
  | true =>
    have hs : ¬ IsW s := by rcases h with h | h; rw [h] at hh; cases hh; exact h
    rw [hh] at q
    have Q := Lib.hid q
    have S := Lib.hid (fun w => spec_ok_no s w hz hs)
    clear q ha hn h hs hh
    go_enter Try.func42, Try.ntmps42
    go_wp2_with (first
      | (go_at_call 66; refine Q.out.mono ?_; rintro e w' ⟨rfl, rfl⟩)
      | (go_at_call 33; refine (S.out _).mono ?_; rintro e w' ⟨rfl, rfl⟩))
    go_ret
    exact ⟨rfl, rfl⟩

set_option maxHeartbeats 1600000 in
set_option maxRecDepth 100000 in
theorem spec_MemoryOf_yes {base : Nat} {v : Value} {c : Qr} {bs : List Nat} {s : ByteArray} (w : World) (hc : BdQ c) (ha : QrE base w v c bs) (hk : okQ c.steps = true) (h : IsW s) :
    Calls Try.prog 20 #[v, .string s] w (TupPost (.tuple #[.int .i64 (mxI (ksOf s.data.toList) (s.size + 1)), .int .i64 0]) w) := by
  obtain ⟨v0, rfl, h0⟩ := ha
  have hB : Below w.heap.size w (w.alloc (.cells #[v0] 37)) := (Below.refl _ _).alloc (Nat.le_refl _) _
  have x1 := Bx.new w 37 #[v0]
  have G := Lib.hid (spec_given_yes _ hc.steps (x1.cell 0 _ rfl) ((step_ok _).later h0 hB) hk h)
  have hp := fun w => spec_depths s w h
  have h60 := h.1
  generalize ksOf s.data.toList = ks at hp ⊢
  have Hp := Lib.hid hp
  have HB := Lib.hid hB
  clear h hp h0 x1 hc hk hB
  go_enter Try.func20, Try.ntmps20
  go_wp2_with fail
  refine G.out.mono ?_
  rintro e w' ⟨rfl, rfl⟩
  go_wp2_with fail
  refine (Hp.out _).mono ?_
  rintro e w1 ⟨A, c', rfl, hr, hb⟩
  have HBf := Lib.hid (HB.out.trans (hb.mono HB.out.size))
  obtain ⟨g, c', hv⟩ := ownsRow_succ hr
  simp only [Value.slice.injEq] at hv
  obtain ⟨rfl, h8, h9⟩ := hv
  clear h8 h9 hb
  go_wp2_with fail
  go_loop [7, 9] (fun x i => ∃ (k : Nat) (m : Int), k ≤ s.size + 1 ∧ i = .int .i64 k ∧ x = .int .i64 m ∧ Hid (m = mxI ks k)) (fun _ i => s.size + 1 - (intOf i).toNat)
  case atStart => exact ⟨0, 0, Nat.zero_le _, rfl, rfl, rfl⟩
  case round =>
    obtain ⟨k, m, hk, rfl, rfl, Hm⟩ := hrel
    by_cases hlt : k < s.size + 1
    · have hc : w1.cell? ⟨g, k, none⟩ = some (.int .i64 (dAt ks k : Int)) := by
        rw [hr.cellAt k (by omega)]
        simp [numsV, dList_at ks _ k hlt]
      have hm1 : Hid (mxI ks (k + 1) = max m (dAt ks k : Int)) := by show _ = _; rw [mxI, Hm.out]
      go_wp2_with (go_at_call 37; refine (spec_max _ _ _).mono ?_; rintro e w' ⟨rfl, rfl⟩)
      go_round
      case rel => exact ⟨k + 1, _, by omega, by go_num, rfl, hm1.out.symm⟩
      case measure => simp [intOf]; omega
    · obtain rfl : k = s.size + 1 := by omega
      have e := Hm.out
      subst e
      go_wp2
      go_ret2
      exact ⟨rfl, HBf.out⟩
set_option maxHeartbeats 1600000 in
theorem spec_MemoryOf_no {base : Nat} {v : Value} {c : Qr} {bs : List Nat} {s : ByteArray} (w : World) (hc : BdQ c) (ha : QrE base w v c bs) (hz : s.size ≤ 1048576) (h : okQ c.steps = false ∨ ¬ IsW s) :
    Calls Try.prog 20 #[v, .string s] w (TupPost (.tuple #[.int .i64 0, .int .i64 1]) w) := by
  obtain ⟨v0, rfl, h0⟩ := ha
  have hB : Below w.heap.size w (w.alloc (.cells #[v0] 37)) := (Below.refl _ _).alloc (Nat.le_refl _) _
  have x1 := Bx.new w 37 #[v0]
  have G := Lib.hid (spec_given_no _ hc.steps (x1.cell 0 _ rfl) ((step_ok _).later h0 hB) hz h)
  clear h h0 x1 hc
  go_enter Try.func20, Try.ntmps20
  go_wp2_with fail
  refine G.out.mono ?_
  rintro e w' ⟨rfl, rfl⟩
  go_wp2
  go_ret2
  exact ⟨rfl, hB⟩
set_option maxHeartbeats 1600000 in
theorem impl_MemoryOf_no0 {base : Nat} {v : Value} {c : Qr} {bs : List Nat} {s : ByteArray} (w : World) (hc : BdQ c) (ha : QrE base w v c bs) (h : okQ c.steps = false) :
    Calls Try.prog 22 #[v, .string s] w (TupPost (.tuple #[.int .i64 0, .int .i64 1]) w) := by
  have hB0 : ∀ o, Below w.heap.size w (w.alloc o) := fun o => (Below.refl _ _).alloc (Nat.le_refl _) o
  have q := fun o => impl_ValidQuery (w.alloc o) hc ((query_ok _).later ha (hB0 o))
  rw [h] at q
  have Q := Lib.hid q
  obtain ⟨v0, rfl, h0⟩ := ha
  have HB := Lib.hid (hB0 (.cells #[v0] 37))
  obtain ⟨p0, pl⟩ := (Bx.new w 37 #[v0]).all1
  clear h hc q h0 hB0
  go_enter Try.func22, Try.ntmps22
  go_wp2_with fail
  refine (Q.out _).mono ?_
  rintro e w1 ⟨rfl, hb1⟩
  go_wp2
  go_ret2
  exact ⟨rfl, HB.out.trans (hb1.mono HB.out.size)⟩
set_option maxHeartbeats 1600000 in
theorem impl_MemoryOf_then {base : Nat} {v : Value} {c : Qr} {bs : List Nat} {s : ByteArray} {r0 r1 : Int} (w : World) (hc : BdQ c) (ha : QrE base w v c bs) (h : okQ c.steps = true)
    (hd : ∀ w, Calls Try.prog 16 #[.string s] w (TupPost (.tuple #[.int .i64 r0, .int .i64 r1]) w)) :
    Calls Try.prog 22 #[v, .string s] w (TupPost (.tuple #[.int .i64 r0, .int .i64 r1]) w) := by
  have hB0 : ∀ o, Below w.heap.size w (w.alloc o) := fun o => (Below.refl _ _).alloc (Nat.le_refl _) o
  have q := fun o => impl_ValidQuery (w.alloc o) hc ((query_ok _).later ha (hB0 o))
  rw [h] at q
  have Q := Lib.hid q
  have D := Lib.hid hd
  obtain ⟨v0, rfl, h0⟩ := ha
  have HB := Lib.hid (hB0 (.cells #[v0] 37))
  obtain ⟨p0, pl⟩ := (Bx.new w 37 #[v0]).all1
  clear h hc q h0 hB0 hd
  go_enter Try.func22, Try.ntmps22
  go_wp2_with fail
  refine (Q.out _).mono ?_
  rintro e w1 ⟨rfl, hb1⟩
  have HB1 := Lib.hid (HB.out.trans (hb1.mono HB.out.size))
  clear hb1 p0 pl
  go_wp2_with fail
  refine (D.out _).mono ?_
  rintro e w2 ⟨rfl, hb2⟩
  go_wp2
  go_ret2
  exact ⟨rfl, HB1.out.trans (hb2.mono HB1.out.size)⟩
theorem both_MemoryOf (c : Qr) (s : ByteArray) (hs : s.size ≤ 1048576) : ∃ (r0 r1 : Int),
    (∀ base0 v0 bs0 w, BdQ c → QrE base0 w v0 c bs0 → Calls Try.prog 20 #[v0, .string s] w (TupPost (.tuple #[.int .i64 r0, .int .i64 r1]) w)) ∧
    (∀ base0 v0 bs0 w, BdQ c → QrE base0 w v0 c bs0 → Calls Try.prog 22 #[v0, .string s] w (TupPost (.tuple #[.int .i64 r0, .int .i64 r1]) w)) := by
  by_cases h : okQ c.steps = false ∨ ¬ IsW s
  · refine ⟨0, 1, fun _ _ _ w hc ha => spec_MemoryOf_no w hc ha hs h, fun _ _ _ w hc ha => ?_⟩
    cases hk : okQ c.steps with
    | false => exact impl_MemoryOf_no0 w hc ha hk
    | true =>
      have hw : ¬ IsW s := by rcases h with h | h; rw [h] at hk; cases hk; exact h
      exact impl_MemoryOf_then w hc ha hk fun w => impl_DepthOf_no s w hs hw
  · obtain ⟨h1, h2⟩ := not_or.1 h
    have hk : okQ c.steps = true := by cases hh : okQ c.steps with | true => rfl | false => exact absurd hh h1
    have hw : IsW s := Classical.not_not.1 h2
    exact ⟨_, _, fun _ _ _ w hc ha => spec_MemoryOf_yes w hc ha hk hw, fun _ _ _ w hc ha => impl_MemoryOf_then w hc ha hk fun w => impl_DepthOf_yes s w hw⟩
end Go.Proofs.Ytdehehdcjfaefaa
