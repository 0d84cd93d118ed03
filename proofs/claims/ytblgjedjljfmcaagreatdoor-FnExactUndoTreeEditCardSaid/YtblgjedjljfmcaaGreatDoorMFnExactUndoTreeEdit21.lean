import Derived.Test.YtblgjedjljfmcaaGreatDoorMFnExactUndoTreeEdit13
import Derived.Test.YtblgjedjljfmcaaGreatDoorMFnExactUndoTreeEdit19
import Derived.Test.YtblgjedjljfmcaaGreatDoorMFnExactUndoTreeEdit20
import Derived.Test.YtblgjedjljfmcaaGreatDoorMFnExactUndoTreeEdit4
/- EditTree, of the model and of the program. -/
namespace Go.Proofs.YtblgjedjljfmcaaGreatDoor
open Go.RowKit
set_option linter.unusedVariables false

def madV (r : ByteArray) (c : Int) : Value := .tuple #[.string r, .int .i64 c]
theorem impl_wB (s : ByteArray) (w : World) (hs : s.size ≤ 1048576) : Calls Tryz.prog 33 #[.string s] w (TupPost (.bool (wB s)) w) := by
  cases h : wB s with
  | true => exact impl_valid_yes s w ((wB_iff s).1 h)
  | false => exact impl_valid_no s w hs (wB_no h)

theorem impl_editOf1 (a t : Int) (u : ByteArray) (w : World) : Calls Tryz.prog 17 #[.agg (EdA 1 a t u)] w (TupPost (.iface 64 (.agg (EdA 1 a t u))) w) := by
  go_enter Tryz.func17, Tryz.ntmps17
  go_wp2
  go_ret
  exact ⟨rfl, (Below.refl _ _).alloc (Nat.le_refl _) _⟩
theorem impl_editOf2 (a t : Int) (u : ByteArray) (w : World) : Calls Tryz.prog 17 #[.agg (EdA 2 a t u)] w (TupPost (.iface 65 (.agg (EdA 2 a t u))) w) := by
  go_enter Tryz.func17, Tryz.ntmps17
  go_wp2
  go_ret
  exact ⟨rfl, (Below.refl _ _).alloc (Nat.le_refl _) _⟩
theorem impl_editOf3 (a t : Int) (u : ByteArray) (w : World) : Calls Tryz.prog 17 #[.agg (EdA 3 a t u)] w (TupPost (.iface 66 (.agg (EdA 3 a t u))) w) := by
  go_enter Tryz.func17, Tryz.ntmps17
  go_wp2
  go_ret
  exact ⟨rfl, (Below.refl _ _).alloc (Nat.le_refl _) _⟩
theorem impl_editOf4 (a t : Int) (u : ByteArray) (w : World) : Calls Tryz.prog 17 #[.agg (EdA 4 a t u)] w (TupPost (.iface 67 (.agg (EdA 4 a t u))) w) := by
  go_enter Tryz.func17, Tryz.ntmps17
  go_wp2
  go_ret
  exact ⟨rfl, (Below.refl _ _).alloc (Nat.le_refl _) _⟩
theorem impl_editOf5 (a t : Int) (u : ByteArray) (w : World) : Calls Tryz.prog 17 #[.agg (EdA 5 a t u)] w (TupPost (.iface 68 (.agg (EdA 5 a t u))) w) := by
  go_enter Tryz.func17, Tryz.ntmps17
  go_wp2
  go_ret
  exact ⟨rfl, (Below.refl _ _).alloc (Nat.le_refl _) _⟩
set_option maxHeartbeats 6400000 in
set_option maxRecDepth 100000 in
theorem spec_given {B : Nat} (k a t : Int) (s u : ByteArray) (w : World) (hs : s.size ≤ 1048576) (hu : u.size ≤ 1048576) (hx : Bx w B 25 (EdA k a t u)) :
    Calls Tryz.prog 12 #[.string s, .pointer (some ⟨B, 0, none⟩)] w (TupPost (.int .i64 (if (wB s && edB k a t u) = true then 0 else 1)) w) := by
  have H := Lib.hid (fun W => spec_wB s W hs)
  have HE := Lib.hid (fun W (hx : Bx W B 25 (EdA k a t u)) => spec_edit k a t u W hu hx)
  have HX := Lib.hid hx
  clear hx
  generalize wB s = x at *
  generalize edB k a t u = y at *
  cases x with
  | false =>
    show Calls _ _ _ _ (TupPost (.int .i64 1) w)
    go_enter Tryz.func12, Tryz.ntmps12
    go_wp2_with fail
    refine (H.out _).mono ?_
    rintro e w' ⟨rfl, rfl⟩
    go_wp2
    go_ret
    exact ⟨rfl, Below.refl _ _⟩
  | true =>
    cases y with
    | false =>
      show Calls _ _ _ _ (TupPost (.int .i64 1) w)
      go_enter Tryz.func12, Tryz.ntmps12
      go_wp2_with fail
      refine (H.out _).mono ?_
      rintro e w' ⟨rfl, rfl⟩
      go_wp2_with fail
      refine (HE.out _ HX.out).mono ?_
      rintro e w' ⟨rfl, hb⟩
      go_wp2
      go_ret
      exact ⟨rfl, hb⟩
    | true =>
      show Calls _ _ _ _ (TupPost (.int .i64 0) w)
      go_enter Tryz.func12, Tryz.ntmps12
      go_wp2_with fail
      refine (H.out _).mono ?_
      rintro e w' ⟨rfl, rfl⟩
      go_wp2_with fail
      refine (HE.out _ HX.out).mono ?_
      rintro e w' ⟨rfl, hb⟩
      go_wp2
      go_ret
      exact ⟨rfl, hb⟩

set_option maxHeartbeats 6400000 in
set_option maxRecDepth 100000 in
theorem impl_EditTree_no (k a t : Int) (s u : ByteArray) (w : World) (hs : s.size ≤ 1048576) (hu : u.size ≤ 1048576) (h : (wB s && edB k a t u) = false) :
    Calls Tryz.prog 16 #[.string s, .agg (EdA k a t u)] w (TupPost (madV ⟨#[]⟩ 1) w) := by
  have H := Lib.hid (fun W => impl_wB s W hs)
  have HE := Lib.hid (fun W => impl_ValidTreeEdit k a t u W hu)
  have hB := (Below.refl w.heap.size w).alloc (Nat.le_refl _) (.cells (EdA k a t u) 25)
  have hx := Bx.new w 25 (EdA k a t u)
  have HB := Lib.hid (And.intro hB hx)
  clear hB hx
  cases hw : wB s with
  | false =>
    rw [hw] at H
    clear h hw
    go_enter Tryz.func16, Tryz.ntmps16
    go_wp2_with fail
    refine (H.out _).mono ?_
    rintro e w' ⟨rfl, hb⟩
    have HB1 := Lib.hid (HB.out.1.trans (hb.mono HB.out.1.size))
    clear hb
    go_wp2
    go_ret2
    exact ⟨rfl, HB1.out⟩
  | true =>
    rw [hw, Bool.true_and] at h
    rw [hw] at H
    rw [h] at HE
    clear h hw
    go_enter Tryz.func16, Tryz.ntmps16
    go_wp2_with fail
    refine (H.out _).mono ?_
    rintro e w' ⟨rfl, hb⟩
    have HB1 := Lib.hid (And.intro (HB.out.1.trans (hb.mono HB.out.1.size)) (HB.out.2.later hb))
    clear hb
    obtain ⟨c0, c1, c2, c3, cl⟩ := id HB1.out.2.all4
    go_wp2_with fail
    refine (HE.out _).mono ?_
    rintro e w2 ⟨rfl, hb⟩
    have HB2 := Lib.hid (HB1.out.1.trans (hb.mono HB1.out.1.size))
    clear hb
    go_wp2
    go_ret2
    exact ⟨rfl, HB2.out⟩

set_option maxHeartbeats 6400000 in
set_option maxRecDepth 100000 in
theorem impl_EditTree1 (a t : Int) (s u r : ByteArray) (c : Int) (w : World) (hs : s.size ≤ 1048576) (hu : u.size ≤ 1048576) (h : (wB s && edB 1 a t u) = true) (hg : w.cell? ⟨0, 0, none⟩ = some (.iface 124 (.agg #[.pointer (some ⟨7, 43, none⟩)])))
    (hM : ∀ w, Calls Tryz.prog 141 #[.agg (EdA 1 a t u), .string s] w (TupPost (.tuple #[.string r, errV c]) w)) :
    Calls Tryz.prog 16 #[.string s, .agg (EdA 1 a t u)] w (TupPost (madV r c) w) := by
  rw [Bool.and_eq_true] at h
  have H := Lib.hid (fun W => impl_wB s W hs)
  rw [h.1] at H
  have HE := Lib.hid (fun W => impl_ValidTreeEdit 1 a t u W hu)
  rw [h.2] at HE
  have HO := Lib.hid (fun W => impl_editOf1 a t u W)
  have HC := Lib.hid (fun W hg => impl_codeOf c W hg)
  have HM := Lib.hid hM
  have hl0 : 0 < w.heap.size := World.block_lt_of_cell? _ _ hg
  have Hg := Lib.hid (And.intro hg hl0)
  have hB := (Below.refl w.heap.size w).alloc (Nat.le_refl _) (.cells (EdA 1 a t u) 25)
  have hx := Bx.new w 25 (EdA 1 a t u)
  have HB := Lib.hid (And.intro hB hx)
  clear hB hx
  unfold madV
  generalize errV c = E at *
  clear h hM hg hl0
  go_enter Tryz.func16, Tryz.ntmps16
  go_wp2_with fail
  refine (H.out _).mono ?_
  rintro e w1 ⟨rfl, hb⟩
  have HB1 := Lib.hid (And.intro (HB.out.1.trans (hb.mono HB.out.1.size)) (HB.out.2.later hb))
  clear hb
  obtain ⟨c0, c1, c2, c3, cl⟩ := id HB1.out.2.all4
  go_wp2_with fail
  refine (HE.out _).mono ?_
  rintro e w2 ⟨rfl, hb⟩
  have HB2 := Lib.hid (And.intro (HB1.out.1.trans (hb.mono HB1.out.1.size)) (HB1.out.2.later hb))
  clear hb c0 c1 c2 c3 cl
  obtain ⟨c0, c1, c2, c3, cl⟩ := id HB2.out.2.all4
  go_wp2_with fail
  refine (HO.out _).mono ?_
  rintro e w3 ⟨rfl, hb⟩
  have HB3 := Lib.hid (HB2.out.1.trans (hb.mono HB2.out.1.size))
  clear hb c0 c1 c2 c3 cl
  go_wp2_with fail
  refine (HM.out _).mono ?_
  rintro e w4 ⟨rfl, hb⟩
  have HB4 := Lib.hid (HB3.out.trans (hb.mono HB3.out.size))
  clear hb
  go_wp2_with fail
  refine (HC.out _ ((HB4.out.cell (p := ⟨0, 0, none⟩) Hg.out.2).trans Hg.out.1)).mono ?_
  rintro e w5 ⟨rfl, hb⟩
  have HB5 := Lib.hid (HB4.out.trans (hb.mono HB4.out.size))
  clear hb
  go_wp2
  go_ret2
  exact ⟨rfl, HB5.out⟩

set_option maxHeartbeats 6400000 in
set_option maxRecDepth 100000 in
theorem impl_EditTree2 (a t : Int) (s u r : ByteArray) (c : Int) (w : World) (hs : s.size ≤ 1048576) (hu : u.size ≤ 1048576) (h : (wB s && edB 2 a t u) = true) (hg : w.cell? ⟨0, 0, none⟩ = some (.iface 124 (.agg #[.pointer (some ⟨7, 43, none⟩)])))
    (hM : ∀ w, Calls Tryz.prog 149 #[.agg (EdA 2 a t u), .string s] w (TupPost (.tuple #[.string r, errV c]) w)) :
    Calls Tryz.prog 16 #[.string s, .agg (EdA 2 a t u)] w (TupPost (madV r c) w) := by
  rw [Bool.and_eq_true] at h
  have H := Lib.hid (fun W => impl_wB s W hs)
  rw [h.1] at H
  have HE := Lib.hid (fun W => impl_ValidTreeEdit 2 a t u W hu)
  rw [h.2] at HE
  have HO := Lib.hid (fun W => impl_editOf2 a t u W)
  have HC := Lib.hid (fun W hg => impl_codeOf c W hg)
  have HM := Lib.hid hM
  have hl0 : 0 < w.heap.size := World.block_lt_of_cell? _ _ hg
  have Hg := Lib.hid (And.intro hg hl0)
  have hB := (Below.refl w.heap.size w).alloc (Nat.le_refl _) (.cells (EdA 2 a t u) 25)
  have hx := Bx.new w 25 (EdA 2 a t u)
  have HB := Lib.hid (And.intro hB hx)
  clear hB hx
  unfold madV
  generalize errV c = E at *
  clear h hM hg hl0
  go_enter Tryz.func16, Tryz.ntmps16
  go_wp2_with fail
  refine (H.out _).mono ?_
  rintro e w1 ⟨rfl, hb⟩
  have HB1 := Lib.hid (And.intro (HB.out.1.trans (hb.mono HB.out.1.size)) (HB.out.2.later hb))
  clear hb
  obtain ⟨c0, c1, c2, c3, cl⟩ := id HB1.out.2.all4
  go_wp2_with fail
  refine (HE.out _).mono ?_
  rintro e w2 ⟨rfl, hb⟩
  have HB2 := Lib.hid (And.intro (HB1.out.1.trans (hb.mono HB1.out.1.size)) (HB1.out.2.later hb))
  clear hb c0 c1 c2 c3 cl
  obtain ⟨c0, c1, c2, c3, cl⟩ := id HB2.out.2.all4
  go_wp2_with fail
  refine (HO.out _).mono ?_
  rintro e w3 ⟨rfl, hb⟩
  have HB3 := Lib.hid (HB2.out.1.trans (hb.mono HB2.out.1.size))
  clear hb c0 c1 c2 c3 cl
  go_wp2_with fail
  refine (HM.out _).mono ?_
  rintro e w4 ⟨rfl, hb⟩
  have HB4 := Lib.hid (HB3.out.trans (hb.mono HB3.out.size))
  clear hb
  go_wp2_with fail
  refine (HC.out _ ((HB4.out.cell (p := ⟨0, 0, none⟩) Hg.out.2).trans Hg.out.1)).mono ?_
  rintro e w5 ⟨rfl, hb⟩
  have HB5 := Lib.hid (HB4.out.trans (hb.mono HB4.out.size))
  clear hb
  go_wp2
  go_ret2
  exact ⟨rfl, HB5.out⟩

set_option maxHeartbeats 6400000 in
set_option maxRecDepth 100000 in
theorem impl_EditTree3 (a t : Int) (s u r : ByteArray) (c : Int) (w : World) (hs : s.size ≤ 1048576) (hu : u.size ≤ 1048576) (h : (wB s && edB 3 a t u) = true) (hg : w.cell? ⟨0, 0, none⟩ = some (.iface 124 (.agg #[.pointer (some ⟨7, 43, none⟩)])))
    (hM : ∀ w, Calls Tryz.prog 153 #[.agg (EdA 3 a t u), .string s] w (TupPost (.tuple #[.string r, errV c]) w)) :
    Calls Tryz.prog 16 #[.string s, .agg (EdA 3 a t u)] w (TupPost (madV r c) w) := by
  rw [Bool.and_eq_true] at h
  have H := Lib.hid (fun W => impl_wB s W hs)
  rw [h.1] at H
  have HE := Lib.hid (fun W => impl_ValidTreeEdit 3 a t u W hu)
  rw [h.2] at HE
  have HO := Lib.hid (fun W => impl_editOf3 a t u W)
  have HC := Lib.hid (fun W hg => impl_codeOf c W hg)
  have HM := Lib.hid hM
  have hl0 : 0 < w.heap.size := World.block_lt_of_cell? _ _ hg
  have Hg := Lib.hid (And.intro hg hl0)
  have hB := (Below.refl w.heap.size w).alloc (Nat.le_refl _) (.cells (EdA 3 a t u) 25)
  have hx := Bx.new w 25 (EdA 3 a t u)
  have HB := Lib.hid (And.intro hB hx)
  clear hB hx
  unfold madV
  generalize errV c = E at *
  clear h hM hg hl0
  go_enter Tryz.func16, Tryz.ntmps16
  go_wp2_with fail
  refine (H.out _).mono ?_
  rintro e w1 ⟨rfl, hb⟩
  have HB1 := Lib.hid (And.intro (HB.out.1.trans (hb.mono HB.out.1.size)) (HB.out.2.later hb))
  clear hb
  obtain ⟨c0, c1, c2, c3, cl⟩ := id HB1.out.2.all4
  go_wp2_with fail
  refine (HE.out _).mono ?_
  rintro e w2 ⟨rfl, hb⟩
  have HB2 := Lib.hid (And.intro (HB1.out.1.trans (hb.mono HB1.out.1.size)) (HB1.out.2.later hb))
  clear hb c0 c1 c2 c3 cl
  obtain ⟨c0, c1, c2, c3, cl⟩ := id HB2.out.2.all4
  go_wp2_with fail
  refine (HO.out _).mono ?_
  rintro e w3 ⟨rfl, hb⟩
  have HB3 := Lib.hid (HB2.out.1.trans (hb.mono HB2.out.1.size))
  clear hb c0 c1 c2 c3 cl
  go_wp2_with fail
  refine (HM.out _).mono ?_
  rintro e w4 ⟨rfl, hb⟩
  have HB4 := Lib.hid (HB3.out.trans (hb.mono HB3.out.size))
  clear hb
  go_wp2_with fail
  refine (HC.out _ ((HB4.out.cell (p := ⟨0, 0, none⟩) Hg.out.2).trans Hg.out.1)).mono ?_
  rintro e w5 ⟨rfl, hb⟩
  have HB5 := Lib.hid (HB4.out.trans (hb.mono HB4.out.size))
  clear hb
  go_wp2
  go_ret2
  exact ⟨rfl, HB5.out⟩

set_option maxHeartbeats 6400000 in
set_option maxRecDepth 100000 in
theorem impl_EditTree4 (a t : Int) (s u r : ByteArray) (c : Int) (w : World) (hs : s.size ≤ 1048576) (hu : u.size ≤ 1048576) (h : (wB s && edB 4 a t u) = true) (hg : w.cell? ⟨0, 0, none⟩ = some (.iface 124 (.agg #[.pointer (some ⟨7, 43, none⟩)])))
    (hM : ∀ w, Calls Tryz.prog 157 #[.agg (EdA 4 a t u), .string s] w (TupPost (.tuple #[.string r, errV c]) w)) :
    Calls Tryz.prog 16 #[.string s, .agg (EdA 4 a t u)] w (TupPost (madV r c) w) := by
  rw [Bool.and_eq_true] at h
  have H := Lib.hid (fun W => impl_wB s W hs)
  rw [h.1] at H
  have HE := Lib.hid (fun W => impl_ValidTreeEdit 4 a t u W hu)
  rw [h.2] at HE
  have HO := Lib.hid (fun W => impl_editOf4 a t u W)
  have HC := Lib.hid (fun W hg => impl_codeOf c W hg)
  have HM := Lib.hid hM
  have hl0 : 0 < w.heap.size := World.block_lt_of_cell? _ _ hg
  have Hg := Lib.hid (And.intro hg hl0)
  have hB := (Below.refl w.heap.size w).alloc (Nat.le_refl _) (.cells (EdA 4 a t u) 25)
  have hx := Bx.new w 25 (EdA 4 a t u)
  have HB := Lib.hid (And.intro hB hx)
  clear hB hx
  unfold madV
  generalize errV c = E at *
  clear h hM hg hl0
  go_enter Tryz.func16, Tryz.ntmps16
  go_wp2_with fail
  refine (H.out _).mono ?_
  rintro e w1 ⟨rfl, hb⟩
  have HB1 := Lib.hid (And.intro (HB.out.1.trans (hb.mono HB.out.1.size)) (HB.out.2.later hb))
  clear hb
  obtain ⟨c0, c1, c2, c3, cl⟩ := id HB1.out.2.all4
  go_wp2_with fail
  refine (HE.out _).mono ?_
  rintro e w2 ⟨rfl, hb⟩
  have HB2 := Lib.hid (And.intro (HB1.out.1.trans (hb.mono HB1.out.1.size)) (HB1.out.2.later hb))
  clear hb c0 c1 c2 c3 cl
  obtain ⟨c0, c1, c2, c3, cl⟩ := id HB2.out.2.all4
  go_wp2_with fail
  refine (HO.out _).mono ?_
  rintro e w3 ⟨rfl, hb⟩
  have HB3 := Lib.hid (HB2.out.1.trans (hb.mono HB2.out.1.size))
  clear hb c0 c1 c2 c3 cl
  go_wp2_with fail
  refine (HM.out _).mono ?_
  rintro e w4 ⟨rfl, hb⟩
  have HB4 := Lib.hid (HB3.out.trans (hb.mono HB3.out.size))
  clear hb
  go_wp2_with fail
  refine (HC.out _ ((HB4.out.cell (p := ⟨0, 0, none⟩) Hg.out.2).trans Hg.out.1)).mono ?_
  rintro e w5 ⟨rfl, hb⟩
  have HB5 := Lib.hid (HB4.out.trans (hb.mono HB4.out.size))
  clear hb
  go_wp2
  go_ret2
  exact ⟨rfl, HB5.out⟩

set_option maxHeartbeats 6400000 in
set_option maxRecDepth 100000 in
theorem impl_EditTree5 (a t : Int) (s u r : ByteArray) (c : Int) (w : World) (hs : s.size ≤ 1048576) (hu : u.size ≤ 1048576) (h : (wB s && edB 5 a t u) = true) (hg : w.cell? ⟨0, 0, none⟩ = some (.iface 124 (.agg #[.pointer (some ⟨7, 43, none⟩)])))
    (hM : ∀ w, Calls Tryz.prog 159 #[.agg (EdA 5 a t u), .string s] w (TupPost (.tuple #[.string r, errV c]) w)) :
    Calls Tryz.prog 16 #[.string s, .agg (EdA 5 a t u)] w (TupPost (madV r c) w) := by
  rw [Bool.and_eq_true] at h
  have H := Lib.hid (fun W => impl_wB s W hs)
  rw [h.1] at H
  have HE := Lib.hid (fun W => impl_ValidTreeEdit 5 a t u W hu)
  rw [h.2] at HE
  have HO := Lib.hid (fun W => impl_editOf5 a t u W)
  have HC := Lib.hid (fun W hg => impl_codeOf c W hg)
  have HM := Lib.hid hM
  have hl0 : 0 < w.heap.size := World.block_lt_of_cell? _ _ hg
  have Hg := Lib.hid (And.intro hg hl0)
  have hB := (Below.refl w.heap.size w).alloc (Nat.le_refl _) (.cells (EdA 5 a t u) 25)
  have hx := Bx.new w 25 (EdA 5 a t u)
  have HB := Lib.hid (And.intro hB hx)
  clear hB hx
  unfold madV
  generalize errV c = E at *
  clear h hM hg hl0
  go_enter Tryz.func16, Tryz.ntmps16
  go_wp2_with fail
  refine (H.out _).mono ?_
  rintro e w1 ⟨rfl, hb⟩
  have HB1 := Lib.hid (And.intro (HB.out.1.trans (hb.mono HB.out.1.size)) (HB.out.2.later hb))
  clear hb
  obtain ⟨c0, c1, c2, c3, cl⟩ := id HB1.out.2.all4
  go_wp2_with fail
  refine (HE.out _).mono ?_
  rintro e w2 ⟨rfl, hb⟩
  have HB2 := Lib.hid (And.intro (HB1.out.1.trans (hb.mono HB1.out.1.size)) (HB1.out.2.later hb))
  clear hb c0 c1 c2 c3 cl
  obtain ⟨c0, c1, c2, c3, cl⟩ := id HB2.out.2.all4
  go_wp2_with fail
  refine (HO.out _).mono ?_
  rintro e w3 ⟨rfl, hb⟩
  have HB3 := Lib.hid (HB2.out.1.trans (hb.mono HB2.out.1.size))
  clear hb c0 c1 c2 c3 cl
  go_wp2_with fail
  refine (HM.out _).mono ?_
  rintro e w4 ⟨rfl, hb⟩
  have HB4 := Lib.hid (HB3.out.trans (hb.mono HB3.out.size))
  clear hb
  go_wp2_with fail
  refine (HC.out _ ((HB4.out.cell (p := ⟨0, 0, none⟩) Hg.out.2).trans Hg.out.1)).mono ?_
  rintro e w5 ⟨rfl, hb⟩
  have HB5 := Lib.hid (HB4.out.trans (hb.mono HB4.out.size))
  clear hb
  go_wp2
  go_ret2
  exact ⟨rfl, HB5.out⟩

end Go.Proofs.YtblgjedjljfmcaaGreatDoor
/- EditTree: both answer the same. -/
namespace Go.Proofs.YtblgjedjljfmcaaGreatDoor
open Go.RowKit
set_option linter.unusedVariables false

theorem wf_small (a : Nat) (h : a ≤ 60) : (Lit.int .i64 (a : Int)).wf = true := by
  have : ∀ n : Fin 61, (Lit.int .i64 (n.val : Int)).wf = true := by decide
  exact this ⟨a, by omega⟩
theorem wrap_size (s u : ByteArray) (a t : Nat) (hu : u.size = 2) (ha : a ≤ t) (ht : t ≤ s.size) : (wrapW s u a t).size = s.size + 2 := by
  simp only [wrapW, ByteArray.size_append, ByteArray.size_extract]
  omega
/-- What the call and the return of an edit's place are: none behind the word, no matched call, or both. -/
theorem call_cases (s : ByteArray) (a : Nat) (hs : IsW s) : s.size ≤ a ∨ (∃ h : a < s.size, ∃ p : Int, (prts (ksOf s.data.toList))[a]? = some p ∧ (callB (s[a].toNat : Int) = false ∨ (callB (s[a].toNat : Int) = true ∧ p = -2) ∨ (callB (s[a].toNat : Int) = true ∧ ∃ m : Nat, p = (m : Int) ∧ a < m ∧ m < s.size))) := by
  by_cases hk : a < s.size
  case neg => exact .inl (by omega)
  refine .inr ⟨hk, ?_⟩
  have hlk : s.data.toList[a]? = some s[a] := by rw [List.getElem?_eq_getElem (by simpa using hk)]; rfl
  have hkk := ksOf_at _ _ _ hlk
  have hpl : (prts (ksOf s.data.toList)).length = s.size := by rw [prts_len, ksOf_len]; simp
  have hkl : (ksOf s.data.toList).length = s.size := by rw [ksOf_len]; simp
  obtain ⟨p, hp⟩ : ∃ p, (prts (ksOf s.data.toList))[a]? = some p := ⟨_, List.getElem?_eq_getElem (by omega)⟩
  refine ⟨p, hp, ?_⟩
  cases hc : callB (s[a].toNat : Int) with
  | false => exact .inl rfl
  | true =>
    rw [kind_call hc] at hkk
    rcases prts_at_call _ _ hkk with h1 | ⟨q, h1, h2, h3⟩
    · rw [hp] at h1
      exact .inr (.inl ⟨rfl, Option.some.inj h1⟩)
    · rw [hp] at h3
      exact .inr (.inr ⟨rfl, q, Option.some.inj h3, h1, by omega⟩)

end Go.Proofs.YtblgjedjljfmcaaGreatDoor
