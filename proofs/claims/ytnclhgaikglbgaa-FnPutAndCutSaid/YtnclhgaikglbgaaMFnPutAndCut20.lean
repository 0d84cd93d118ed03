import Derived.Test.YtnclhgaikglbgaaMFnPutAndCut17
import Derived.Test.YtnclhgaikglbgaaMFnPutAndCut19
import Derived.Test.YtnclhgaikglbgaaMFnPutAndCut12
import Derived.Test.YtnclhgaikglbgaaMFnPutAndCut8
/- Bytes that came in, and what is drawn from them. -/
namespace Go.Proofs.Ytnclhgaikglbgaa
open Go.RowKit Go.ChangeShapes Go.WideShapes Go.Deep
set_option linter.unusedVariables false

/-- Bytes that came in. -/
abbrev BytesR : RP (List Int) := RowR 1 fun x => [.int .u8 x]
def WfU (xs : List Int) : Prop := ∀ x ∈ xs, 0 ≤ x ∧ x ≤ 255
theorem bytes_r : RP.Ok BytesR := RowR.ok _ _
theorem cells_u8 : Try.prog.cellsOf 5 = 1 := by kernel_rfl
section
variable {H : Type} {enc : TypeId × Value → H} {w : World} {held : Bool}
theorem read_u8 {n : Nat} {cs : List Value} {x : DataW H × List MemPlace} (h : DataW.trod enc Try.prog w 0 (fun _ => true) held n 5 cs = some x) : ∃ y : Int, cs = [.int .u8 y] ∧ (0 ≤ y ∧ y ≤ 255) := by
  obtain ⟨y, rfl, _, hw⟩ := DataW.trod_int Try.underlying5 h
  refine ⟨y, rfl, ?_⟩
  have := bounds_u8 hw
  omega
theorem read_bytes {n : Nat} {v : Value} {x : DataW H × List MemPlace} (h : DataW.trod enc Try.prog w 0 (fun _ => true) held n 22 [v] = some x) : ∃ y, BytesR w v y ∧ WfU y :=
  open_row Try.underlying22 cells_u8 (fun _ _ _ h => read_u8 h) h
end
/-- They can be drawn from. -/
theorem BytesR.code {w W : World} {A : Option Addr} {c : Nat} {xs : List Int} {n : Nat} (h : BytesR w (.slice A n c) xs) (hn : n = xs.length) (h3 : n ≤ 3000) (hw : WfU xs) (hb : Below w.heap.size w W) : CodeAt w.heap.size W A n := by
  obtain ⟨A', c', e, _, hx⟩ := h
  simp only [Value.slice.injEq] at e
  obtain ⟨rfl, h2, rfl⟩ := e
  refine ⟨h3, fun j hj => ?_⟩
  obtain ⟨x, hxj⟩ : ∃ x, xs[j]? = some x := ⟨_, List.getElem?_eq_getElem (by omega)⟩
  obtain ⟨a, rfl, hl, hc⟩ := hx j x 0 _ hxj rfl
  rw [Nat.mul_one, add_zero'] at hc
  have hv := hw x (List.mem_of_getElem? hxj)
  exact ⟨a, x, rfl, hl, (hb.cell (by rw [add_block]; exact hl)).trans hc, hv.1, hv.2⟩
end Go.Proofs.Ytnclhgaikglbgaa
/- A number below a bound, out of one byte: a2At of the properties. -/
namespace Go.Proofs.Ytnclhgaikglbgaa
open Go.RowKit
set_option linter.unusedVariables false

theorem law_at {B : Nat} {A : Option Addr} {n c : Nat} (j m : Nat) (w : World) (hc : CodeAt B w A n) (hm : 1 ≤ m) (hm2 : m ≤ 1000) :
    Calls Try.prog 24 #[.slice A n c, .int .i64 (j : Int), .int .i64 (m : Int)] w fun e w' => ∃ v : Nat, v < m ∧ e = .returned (.int .i64 (v : Int)) ∧ w = w' := by
  have hle := hc.le
  have b2 : decide ((m : Int) < 1) = false := decide_eq_false (by omega)
  by_cases h : j < n
  · obtain ⟨a, x, rfl, _, hx, x0, x1⟩ := hc.byte j h
    clear hc
    have b1 : decide ((n : Int) ≤ (j : Int)) = false := decide_eq_false (by omega)
    have et : x.tmod (m : Int) = x % (m : Int) := Int.tmod_eq_emod_of_nonneg x0
    have hw : IntKind.i64.wrap x = x := by unfold IntKind.wrap IntKind.signed IntKind.bits; simp; omega
    go_enter Try.func24, Try.ntmps24
    go_wp2
    go_ret
    obtain ⟨u, hu⟩ := Int.eq_ofNat_of_zero_le (Int.emod_nonneg x (show (m : Int) ≠ 0 by omega))
    have hlt := Int.emod_lt_of_pos x (show (0 : Int) < (m : Int) by omega)
    exact ⟨u, by omega, by simp [go_sem, ← hu], rfl⟩
  · clear hc
    have b1 : decide ((n : Int) ≤ (j : Int)) = true := decide_eq_true (by omega)
    go_enter Try.func24, Try.ntmps24
    go_wp2
    go_ret
    exact ⟨0, by omega, by simp, rfl⟩
end Go.Proofs.Ytnclhgaikglbgaa
/- DepthsOf and DepthOf: the two sides. -/
namespace Go.Proofs.Ytnclhgaikglbgaa
open Go.RowKit

theorem syms_cell' {w : World} {base g n c : Nat} {sy : List Int} (h : w.ownsRow base 58 1 (.slice (some ⟨g, 0, none⟩) n c) n (symsV sy)) : ∀ (j : Nat) (x : Int), sy[j]? = some x → w.cell? ⟨g, j, none⟩ = some (.int .u8 x) := by
  intro j x hx
  have hl := h.1
  simp [symsV] at hl
  have := (List.getElem?_eq_some_iff.1 hx).1
  rw [h.cellAt j (by omega)]
  simp [symsV, hx]

/-- depths at what readNested hands on. -/
theorem depths_read {s : ByteArray} {w w1 : World} {v : Value} (h : IsW s) (hsy : w1.ownsRow w.heap.size 58 1 (.slice (some ⟨w.heap.size + 1 + 1, 0, none⟩) s.size s.size) s.size (symsV (symL s.data.toList))) {w2 : World} (hb : Below w1.heap.size w1 w2) :
    Calls Try.prog 32 #[.agg #[.slice (some ⟨w.heap.size + 1 + 1, 0, none⟩) s.size s.size, v], .int .i64 0] w2 (RowPost2 (s.size + 1) (dList (ksOf s.data.toList) (s.size + 1)) w2) := by
  have hl : s.data.toList.length = s.size := by simp
  have hsy2 := row_below hsy hb
  have h1 := impl_depthsFrom 0 (w.heap.size + 1 + 1) s.size s.size v (symL s.data.toList) w2 (by omega) h.1 (by rw [symL_len, hl]) (hsy2.lt _ rfl).2 (symL_ok h.2) (syms_cell' hsy2)
  rw [symL_kinds, dListF_zero] at h1
  exact h1

theorem impl_DepthsOf_yes (s : ByteArray) (w : World) (h : IsW s) :
    Calls Try.prog 9 #[.string s] w (NumsPost (s.size + 1) (dList (ksOf s.data.toList) (s.size + 1)) 0 w) := by
  have hp := fun w => impl_read_yes s w h.1 h.2
  have hm := fun (w w1 : World) (v : Value) hsy (w2 : World) hb => depths_read (w := w) (w1 := w1) (v := v) h hsy (w2 := w2) hb
  generalize dList (ksOf s.data.toList) (s.size + 1) = xs at hm ⊢
  have Hp := Lib.hid hp
  have Hm := Lib.hid hm
  clear h hp hm
  go_enter Try.func9, Try.ntmps9
  go_wp2_with (first
    | (go_at_call 31; refine (Hp.out _).mono ?_; rintro e w1 ⟨M, rfl, hsy, hps, hb⟩)
    | (go_at_call 32; refine (Hm.out _ _ _ hsy _ ((Below.refl _ _).alloc (Nat.le_refl _) _)).mono ?_; rintro e w2 ⟨A, c, rfl, hr, hb2⟩))
  go_ret2
  exact ⟨A, c, rfl, row_base hr (by have := hb.size; simp; omega), (hb.alloc hb.size _).trans (hb2.mono (by have := hb.size; simp; omega))⟩
theorem impl_DepthsOf_no (s : ByteArray) (w : World) (hs : s.size ≤ 1048576) (h : ¬ IsW s) :
    Calls Try.prog 9 #[.string s] w (NumsPost 0 [] 1 w) := by
  have H := Lib.hid h
  clear h
  go_enter Try.func9, Try.ntmps9
  go_wp2_with (go_at_call 31; refine (impl_read_no _ _ hs H.out).mono ?_; rintro e w1 ⟨rfl, hb⟩)
  go_ret2
  exact ⟨_, _, rfl, World.ownsRow_nil _ _ _ _, hb.alloc hb.size _⟩
def mxI (ks : List Nat) : Nat → Int
  | 0 => 0
  | k + 1 => max (mxI ks k) (dAt ks k : Int)
theorem mxI_bd (ks : List Nat) (k : Nat) : 0 ≤ mxI ks k ∧ mxI ks k ≤ k := by
  induction k with
  | zero => exact ⟨Int.le_refl _, Int.le_refl _⟩
  | succ k ih =>
    have := dAt_le ks k
    rw [mxI]
    omega
theorem dList_at (ks : List Nat) (n k : Nat) (h : k < n) : (dList ks n)[k]? = some (dAt ks k : Int) := by simp [dList, h]


theorem mxI_one (ks : List Nat) : mxI ks 1 = (dAt ks 0 : Int) := by show max 0 (dAt ks 0 : Int) = _; omega
set_option maxHeartbeats 1600000 in
theorem impl_slMax {ks : List Nat} {n : Nat} {base : Nat} {A : Option Addr} {c : Nat} {w : World} (hn : n ≤ 60) (hr : w.ownsRow base 2 1 (.slice A (n + 1) c) (n + 1) (numsV (dList ks (n + 1)))) :
    Calls Try.prog 33 #[.slice A (n + 1) c] w fun e w' => e = .returned (.int .i64 (mxI ks (n + 1))) ∧ w = w' := by
  obtain ⟨g, c', hv⟩ := ownsRow_succ hr
  simp only [Value.slice.injEq] at hv
  obtain ⟨rfl, _, rfl⟩ := hv
  have hcs : ∀ k, k < n + 1 → w.cell? ⟨g, k, none⟩ = some (.int .i64 (dAt ks k : Int)) := fun k hk => by
    rw [hr.cellAt k (by omega)]
    simp [numsV, dList_at ks _ k hk]
  have h0 := hcs 0 (by omega)
  have Hcs := Lib.hid hcs
  clear hcs hr
  go_enter Try.func33, Try.ntmps33
  go_wp2
  go_loop [3, 4] (fun x i => ∃ (k : Nat) (m : Int), 1 ≤ k ∧ k ≤ n + 1 ∧ i = .int .i64 k ∧ x = .int .i64 m ∧ Hid (m = mxI ks k)) (fun _ i => n + 1 - (intOf i).toNat)
  case atStart => exact ⟨1, _, Nat.le_refl _, by omega, rfl, rfl, (mxI_one ks).symm⟩
  case round =>
    obtain ⟨k, m, hk1, hk, rfl, rfl, Hm⟩ := hrel
    by_cases hlt : k < n + 1
    · have hc := Hcs.out k hlt
      have hm1 : Hid (mxI ks (k + 1) = max m (dAt ks k : Int)) := by show _ = _; rw [mxI, Hm.out]
      go_wp2
      go_round
      case rel => exact ⟨k + 1, _, by omega, by omega, by go_num, rfl, hm1.out.symm⟩
      case measure => simp [intOf]; omega
    · obtain rfl : k = n + 1 := by omega
      have e := Hm.out
      subst e
      go_wp2
      go_ret
      exact ⟨rfl, rfl⟩

set_option maxHeartbeats 1600000 in
theorem impl_DepthOf_yes (s : ByteArray) (w : World) (h : IsW s) :
    Calls Try.prog 10 #[.string s] w (TupPost (.tuple #[.int .i64 (mxI (ksOf s.data.toList) (s.size + 1)), .int .i64 0]) w) := by
  have hp := fun w => impl_read_yes s w h.1 h.2
  have hm := fun (w w1 : World) (v : Value) hsy (w2 : World) hb => depths_read (w := w) (w1 := w1) (v := v) h hsy (w2 := w2) hb
  have h60 := h.1
  generalize ksOf s.data.toList = ks at hm ⊢
  have Hp := Lib.hid hp
  have Hm := Lib.hid hm
  clear h hp hm
  go_enter Try.func10, Try.ntmps10
  go_wp2_with (first
    | (go_at_call 31; refine (Hp.out _).mono ?_; rintro e w1 ⟨M, rfl, hsy, hps, hb⟩)
    | (go_at_call 32; refine (Hm.out _ _ _ hsy _ ((Below.refl _ _).alloc (Nat.le_refl _) _)).mono ?_; rintro e w2 ⟨A, c, rfl, hr, hb2⟩))
  have hbf : Below w.heap.size w w2 := (hb.alloc hb.size _).trans (hb2.mono (by have := hb.size; simp; omega))
  have Hx := Lib.hid (impl_slMax (ks := ks) (by omega) hr)
  clear hr
  go_wp2_with fail
  refine Hx.out.mono ?_
  rintro e w3 ⟨rfl, rfl⟩
  go_wp2
  go_ret2
  exact ⟨rfl, hbf⟩
theorem impl_DepthOf_no (s : ByteArray) (w : World) (hs : s.size ≤ 1048576) (h : ¬ IsW s) :
    Calls Try.prog 10 #[.string s] w (TupPost (.tuple #[.int .i64 0, .int .i64 1]) w) := by
  have H := Lib.hid h
  clear h
  go_enter Try.func10, Try.ntmps10
  go_wp2_with (go_at_call 31; refine (impl_read_no _ _ hs H.out).mono ?_; rintro e w1 ⟨rfl, hb⟩)
  go_ret2
  exact ⟨rfl, hb.alloc hb.size _⟩
end Go.Proofs.Ytnclhgaikglbgaa
