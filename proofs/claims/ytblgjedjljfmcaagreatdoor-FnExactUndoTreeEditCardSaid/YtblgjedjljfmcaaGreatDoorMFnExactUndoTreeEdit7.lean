import Derived.Test.YtblgjedjljfmcaaGreatDoorRows
import Derived.WalkKit
import Derived.ProofKit
import Derived.OpenShut
import Derived.WalkLawsBesides
import Derived.Test.YtblgjedjljfmcaaGreatDoorMFnExactUndoTreeEdit4
import Derived.Test.YtblgjedjljfmcaaGreatDoorMFnExactUndoTreeEdit6
import Derived.BigQuiet
import Derived.Deep.QuietTactic
/- l00In: whether a number lies between two. -/
namespace Go.Proofs.YtblgjedjljfmcaaGreatDoor
open Go.RowKit

theorem in_yes (n a b : Int) (w : World) (h1 : a ≤ n) (h2 : n ≤ b) :
    Calls Tryz.prog 35 #[.int .i64 n, .int .i64 a, .int .i64 b] w fun e w' => e = .returned (.bool true) ∧ w' = w := by
  go_enter Tryz.func35, Tryz.ntmps35
  go_wp2
  go_ret
  exact ⟨rfl, rfl⟩

theorem in_no (n a b : Int) (w : World) (h : n < a ∨ b < n) :
    Calls Tryz.prog 35 #[.int .i64 n, .int .i64 a, .int .i64 b] w fun e w' => e = .returned (.bool false) ∧ w' = w := by
  by_cases h1 : a ≤ n
  · have h2 : b < n := by omega
    clear h
    go_enter Tryz.func35, Tryz.ntmps35
    go_wp2
    go_ret
    exact ⟨by simp; omega, rfl⟩
  · have h2 : n < a := by omega
    clear h
    go_enter Tryz.func35, Tryz.ntmps35
    go_wp2
    go_ret
    exact ⟨rfl, rfl⟩

end Go.Proofs.YtblgjedjljfmcaaGreatDoor
/- PutAt, of the model and of the program. -/
namespace Go.Proofs.YtblgjedjljfmcaaGreatDoor
open Go.RowKit

/-- Whether a word is matched. -/
def mB (l : List UInt8) : Bool := decide (cR l (prts (ksOf l)) l.length + cC l (prts (ksOf l)) l.length = 0)
theorem mB_size (s : ByteArray) : mB s.data.toList = decide (cR s.data.toList (prts (ksOf s.data.toList)) s.size + cC s.data.toList (prts (ksOf s.data.toList)) s.size = 0) := by
  have hl : s.data.toList.length = s.size := by simp
  rw [mB, hl]

theorem spec_matched' (s : ByteArray) (w : World) (hw : IsW s) : Calls Tryz.prog 30 #[.string s] w (TupPost (.bool (mB s.data.toList)) w) := by
  rw [mB_size]; exact spec_matched s w hw
theorem matched_read' {s : ByteArray} {w w1 : World} {M : Nat} (h : IsW s) (hsy : w1.ownsRow w.heap.size 120 1 (.slice (some ⟨w.heap.size + 1 + 1, 0, none⟩) s.size s.size) s.size (symsV (symL s.data.toList)))
    (hps : w1.ownsRow w.heap.size 2 1 (.slice (some ⟨M, 0, none⟩) s.size s.size) s.size (numsV (prts (ksOf s.data.toList)))) {w2 : World} (hb : Below w1.heap.size w1 w2) :
    Calls Tryz.prog 92 #[.agg #[.slice (some ⟨w.heap.size + 1 + 1, 0, none⟩) s.size s.size, .slice (some ⟨M, 0, none⟩) s.size s.size]] w2 (TupPost (.bool (mB s.data.toList)) w2) := by
  rw [mB_size]; exact matched_read h hsy hps hb

def putW (s u : ByteArray) (k : Nat) : ByteArray := s.extract 0 k ++ u ++ s.extract k s.size

theorem slice_to (s : ByteArray) (k : Nat) (h : k ≤ s.size) : ∀ W : World, (Instr.slice 9 (.string s) none (some (.int .i64 (k : Int))) none).run Tryz.prog W = .ok (.string (s.extract 0 k)) W := fun W => by
  have := run_slice_string_h (P := Tryz.prog) (w := W) (t := 9) (s := s) Tryz.underlying9 .i64 (k : Int) (by omega) (by omega)
  rwa [Int.toNat_natCast] at this
theorem slice_from (s : ByteArray) (k : Nat) (h : k ≤ s.size) : ∀ W : World, (Instr.slice 9 (.string s) (some (.int .i64 (k : Int))) none none).run Tryz.prog W = .ok (.string (s.extract k s.size)) W := fun W => by
  have := run_slice_string_l (P := Tryz.prog) (w := W) (t := 9) (s := s) Tryz.underlying9 .i64 (k : Int) (by omega) (by omega)
  rwa [Int.toNat_natCast] at this

theorem spec_PutAt_yes (s u : ByteArray) (k : Nat) (w : World) (hs : IsW s) (hu : IsW u) (hk : k ≤ s.size) (hm : mB u.data.toList = true) :
    Calls Tryz.prog 28 #[.string s, .int .i64 (k : Int), .string u] w (TupPost (toldV (putW s u k)) w) := by
  have h1 := hs.1
  have h2 := hu.1
  have hz1 : (s.extract 0 k).size ≤ 60 := by rw [ByteArray.size_extract]; omega
  have hz2 : (s.extract k s.size).size ≤ 60 := by rw [ByteArray.size_extract]; omega
  have hz3 : (s.extract 0 k ++ u).size ≤ 120 := by rw [ByteArray.size_append]; omega
  have hz4 : (putW s u k).size ≤ 1048576 := by rw [putW, ByteArray.size_append]; omega
  obtain ⟨r, code, hr⟩ := toldV_form (putW s u k)
  have ht := fun w => spec_told (putW s u k) w hz4
  have hmt := fun w => spec_matched' u w hu
  rw [hm] at hmt
  rw [hr] at ht ⊢
  rw [putW] at ht
  have Ht := Lib.hid ht
  have Hmt := Lib.hid hmt
  have Hu := Lib.hid hu
  have Hs := Lib.hid hs
  have hsl1 := slice_to s k hk
  have hsl2 := slice_from s k hk
  clear hu hs ht hr hm hmt hz4
  go_enter Tryz.func28, Tryz.ntmps28
  go_wp2_with fail
  refine (spec_ok_yes _ _ Hs.out).mono ?_
  rintro e w' ⟨rfl, rfl⟩
  go_wp2_with fail
  refine (spec_ok_yes _ _ Hu.out).mono ?_
  rintro e w' ⟨rfl, rfl⟩
  go_wp2_with fail
  refine (in_yes _ _ _ _ (by omega) (by omega)).mono ?_
  rintro e w' ⟨rfl, rfl⟩
  go_wp2_with fail
  refine (Hmt.out _).mono ?_
  rintro e w1 ⟨rfl, hb⟩
  go_wp2_with fail
  go_quiet ((go_at_call 47; exact Calls.quiet_of_same ((Ht.out _).mono fun e w' h => ⟨h.1, h.2.symm⟩)))
  go_wp2
  go_ret2
  exact ⟨rfl, below_drewN hb _⟩

def putV (c : Int) : Value := .tuple #[.string ⟨#[]⟩, .int .i64 c]

/-! The model's other ways. -/
theorem spec_PutAt_inv (s u : ByteArray) (i : Int) (w : World) (l1 : s.size ≤ 1048576) (l2 : u.size ≤ 1048576) (h : ¬ (IsW s ∧ IsW u)) :
    Calls Tryz.prog 28 #[.string s, .int .i64 i, .string u] w (TupPost (putV 1) w) := by
  by_cases hs : IsW s
  · have hu : ¬ IsW u := fun hu => h ⟨hs, hu⟩
    have Hu := Lib.hid hu
    have Hs := Lib.hid hs
    clear hu hs h
    go_enter Tryz.func28, Tryz.ntmps28
    go_wp2_with fail
    refine (spec_ok_yes _ _ Hs.out).mono ?_
    rintro e w' ⟨rfl, rfl⟩
    go_wp2_with fail
    refine (spec_ok_no _ _ l2 Hu.out).mono ?_
    rintro e w' ⟨rfl, rfl⟩
    go_wp2
    go_ret2
    exact ⟨rfl, Below.refl _ _⟩
  · have Hs := Lib.hid hs
    clear hs h
    go_enter Tryz.func28, Tryz.ntmps28
    go_wp2_with fail
    refine (spec_ok_no _ _ l1 Hs.out).mono ?_
    rintro e w' ⟨rfl, rfl⟩
    go_wp2
    go_ret2
    exact ⟨rfl, Below.refl _ _⟩
theorem spec_PutAt_range (s u : ByteArray) (i : Int) (w : World) (hs : IsW s) (hu : IsW u) (hi : i < 0 ∨ (s.size : Int) < i) :
    Calls Tryz.prog 28 #[.string s, .int .i64 i, .string u] w (TupPost (putV 2) w) := by
  have h1 := hs.1
  have Hu := Lib.hid hu
  have Hs := Lib.hid hs
  have Hi := Lib.hid hi
  clear hu hs hi
  go_enter Tryz.func28, Tryz.ntmps28
  go_wp2_with fail
  refine (spec_ok_yes _ _ Hs.out).mono ?_
  rintro e w' ⟨rfl, rfl⟩
  go_wp2_with fail
  refine (spec_ok_yes _ _ Hu.out).mono ?_
  rintro e w' ⟨rfl, rfl⟩
  go_wp2_with fail
  refine (in_no _ _ _ _ Hi.out).mono ?_
  rintro e w' ⟨rfl, rfl⟩
  go_wp2
  go_ret2
  exact ⟨rfl, Below.refl _ _⟩
theorem spec_PutAt_state (s u : ByteArray) (i : Int) (w : World) (hs : IsW s) (hu : IsW u) (h0 : 0 ≤ i) (h2 : i ≤ (s.size : Int)) (hm : mB u.data.toList = false) :
    Calls Tryz.prog 28 #[.string s, .int .i64 i, .string u] w (TupPost (putV 4) w) := by
  have h1 := hs.1
  have hmt := fun w => spec_matched' u w hu
  rw [hm] at hmt
  have Hmt := Lib.hid hmt
  have Hu := Lib.hid hu
  have Hs := Lib.hid hs
  clear hu hs hm hmt
  go_enter Tryz.func28, Tryz.ntmps28
  go_wp2_with fail
  refine (spec_ok_yes _ _ Hs.out).mono ?_
  rintro e w' ⟨rfl, rfl⟩
  go_wp2_with fail
  refine (spec_ok_yes _ _ Hu.out).mono ?_
  rintro e w' ⟨rfl, rfl⟩
  go_wp2_with fail
  refine (in_yes _ _ _ _ h0 h2).mono ?_
  rintro e w' ⟨rfl, rfl⟩
  go_wp2_with fail
  refine (Hmt.out _).mono ?_
  rintro e w1 ⟨rfl, hb⟩
  go_wp2
  go_ret2
  exact ⟨rfl, hb⟩

/-! The program's ways. -/
theorem impl_PutAt_inv (s u : ByteArray) (i : Int) (w : World) (l1 : s.size ≤ 1048576) (l2 : u.size ≤ 1048576) (h : ¬ (IsW s ∧ IsW u)) :
    Calls Tryz.prog 143 #[.string s, .int .i64 i, .string u] w (TupPost (putV 1) w) := by
  by_cases hu : IsW u
  · have hs : ¬ IsW s := fun hs => h ⟨hs, hu⟩
    have Hu := Lib.hid hu
    have Hs := Lib.hid hs
    clear hu hs h
    go_enter Tryz.func143, Tryz.ntmps143
    go_wp2_with fail
    refine (impl_read_yes _ _ Hu.out.1 Hu.out.2).mono ?_
    rintro e w1 ⟨M, rfl, hsy, hps, hb1⟩
    go_wp2_with fail
    refine (impl_valid_no _ _ l1 Hs.out).mono ?_
    rintro e w2 ⟨rfl, hb2⟩
    go_wp2
    go_ret2
    exact ⟨rfl, (hb1.alloc hb1.size _).trans (hb2.mono (by have := hb1.size; simp; omega))⟩
  · have Hu := Lib.hid hu
    clear hu h
    go_enter Tryz.func143, Tryz.ntmps143
    go_wp2_with fail
    refine (impl_read_no _ _ l2 Hu.out).mono ?_
    rintro e w1 ⟨rfl, hb1⟩
    go_wp2
    go_ret2
    exact ⟨rfl, hb1.alloc hb1.size _⟩
theorem impl_PutAt_range (s u : ByteArray) (i : Int) (w : World) (hs : IsW s) (hu : IsW u) (hi : i < 0 ∨ (s.size : Int) < i) :
    Calls Tryz.prog 143 #[.string s, .int .i64 i, .string u] w (TupPost (putV 2) w) := by
  have h1 := hs.1
  have Hu := Lib.hid hu
  have Hs := Lib.hid hs
  clear hu hs
  by_cases h0 : i < 0
  · clear hi
    go_enter Tryz.func143, Tryz.ntmps143
    go_wp2_with fail
    refine (impl_read_yes _ _ Hu.out.1 Hu.out.2).mono ?_
    rintro e w1 ⟨M, rfl, hsy, hps, hb1⟩
    go_wp2_with fail
    refine (impl_valid_yes _ _ Hs.out).mono ?_
    rintro e w2 ⟨rfl, hb2⟩
    go_wp2
    go_ret2
    exact ⟨rfl, (hb1.alloc hb1.size _).trans (hb2.mono (by have := hb1.size; simp; omega))⟩
  · have h0' : 0 ≤ i := by omega
    have h2 : (s.size : Int) < i := by omega
    clear hi h0
    go_enter Tryz.func143, Tryz.ntmps143
    go_wp2_with fail
    refine (impl_read_yes _ _ Hu.out.1 Hu.out.2).mono ?_
    rintro e w1 ⟨M, rfl, hsy, hps, hb1⟩
    go_wp2_with fail
    refine (impl_valid_yes _ _ Hs.out).mono ?_
    rintro e w2 ⟨rfl, hb2⟩
    go_wp2
    go_ret2
    exact ⟨rfl, (hb1.alloc hb1.size _).trans (hb2.mono (by have := hb1.size; simp; omega))⟩

theorem cell_nested {w1 w2 : World} {v0 v1 : Value} (hb : Below (w1.alloc (.cells #[v0, v1] 94)).heap.size (w1.alloc (.cells #[v0, v1] 94)) w2) :
    w2.cell? ⟨w1.heap.size, 0, none⟩ = some v0 ∧ w2.cell? ⟨w1.heap.size, 1, none⟩ = some v1 := by
  exact ⟨(hb.cell (p := ⟨w1.heap.size, 0, none⟩) (by simp)).trans (by simp [go_sem]), (hb.cell (p := ⟨w1.heap.size, 1, none⟩) (by simp)).trans (by simp [go_sem])⟩

theorem impl_PutAt_state (s u : ByteArray) (i : Int) (w : World) (hs : IsW s) (hu : IsW u) (h0 : 0 ≤ i) (h2 : i ≤ (s.size : Int)) (hm : mB u.data.toList = false) :
    Calls Tryz.prog 143 #[.string s, .int .i64 i, .string u] w (TupPost (putV 4) w) := by
  have h1 := hs.1
  have hmt := fun (w w1 : World) (M : Nat) hsy hps (w2 : World) hb => matched_read' (w := w) (w1 := w1) (M := M) hu hsy hps (w2 := w2) hb
  rw [hm] at hmt
  have Hmt := Lib.hid hmt
  have Hu := Lib.hid hu
  have Hs := Lib.hid hs
  clear hu hs hm hmt
  go_enter Tryz.func143, Tryz.ntmps143
  go_wp2_with fail
  refine (impl_read_yes _ _ Hu.out.1 Hu.out.2).mono ?_
  rintro e w1 ⟨M, rfl, hsy, hps, hb1⟩
  go_wp2_with fail
  refine (impl_valid_yes _ _ Hs.out).mono ?_
  rintro e w2 ⟨rfl, hb2⟩
  obtain ⟨hc0, hc1⟩ := cell_nested hb2
  have hb12 : Below w1.heap.size w1 w2 := ((Below.refl _ _).alloc (Nat.le_refl _) _).trans (hb2.mono (by simp))
  go_wp2_with fail
  refine (Hmt.out _ _ _ hsy hps _ hb12).mono ?_
  rintro e w3 ⟨rfl, hb3⟩
  go_wp2
  go_ret2
  exact ⟨rfl, (hb1.trans (hb12.mono hb1.size)).trans (hb3.mono (by have := hb1.size; have := hb12.size; omega))⟩
theorem impl_PutAt_yes (s u : ByteArray) (k : Nat) (w : World) (hs : IsW s) (hu : IsW u) (hk : k ≤ s.size) (hm : mB u.data.toList = true) :
    Calls Tryz.prog 143 #[.string s, .int .i64 (k : Int), .string u] w (TupPost (toldV (putW s u k)) w) := by
  have h1 := hs.1
  have h2 := hu.1
  have hz1 : (s.extract 0 k).size ≤ 60 := by rw [ByteArray.size_extract]; omega
  have hz2 : (s.extract k s.size).size ≤ 60 := by rw [ByteArray.size_extract]; omega
  have hz3 : (s.extract 0 k ++ u).size ≤ 120 := by rw [ByteArray.size_append]; omega
  have hz4 : (putW s u k).size ≤ 1048576 := by rw [putW, ByteArray.size_append]; omega
  obtain ⟨r, code, hr⟩ := toldV_form (putW s u k)
  have ht := fun w => impl_told (putW s u k) w hz4
  have hmt := fun (w w1 : World) (M : Nat) hsy hps (w2 : World) hb => matched_read' (w := w) (w1 := w1) (M := M) hu hsy hps (w2 := w2) hb
  rw [hm] at hmt
  rw [hr] at ht ⊢
  rw [putW] at ht
  have Ht := Lib.hid ht
  have Hmt := Lib.hid hmt
  have Hu := Lib.hid hu
  have Hs := Lib.hid hs
  have hsl1 := slice_to s k hk
  have hsl2 := slice_from s k hk
  clear hu hs ht hr hm hmt hz4
  go_enter Tryz.func143, Tryz.ntmps143
  go_wp2_with fail
  refine (impl_read_yes _ _ Hu.out.1 Hu.out.2).mono ?_
  rintro e w1 ⟨M, rfl, hsy, hps, hb1⟩
  go_wp2_with fail
  refine (impl_valid_yes _ _ Hs.out).mono ?_
  rintro e w2 ⟨rfl, hb2⟩
  obtain ⟨hc0, hc1⟩ := cell_nested hb2
  have hb12 : Below w1.heap.size w1 w2 := ((Below.refl _ _).alloc (Nat.le_refl _) _).trans (hb2.mono (by simp))
  go_wp2_with fail
  refine (Hmt.out _ _ _ hsy hps _ hb12).mono ?_
  rintro e w3 ⟨rfl, hb3⟩
  have hbf := (hb1.trans (hb12.mono hb1.size)).trans (hb3.mono (by have := hb1.size; have := hb12.size; omega))
  go_wp2_with fail
  go_quiet ((go_at_call 146; exact Calls.quiet_of_same ((Ht.out _).mono fun e w' h => ⟨h.1, h.2.symm⟩)))
  go_wp2
  go_ret2
  exact ⟨rfl, below_drewN hbf _⟩

theorem both_PutAt (s : ByteArray) (i : Int) (u : ByteArray) (l1 : s.size ≤ 1048576) (l2 : u.size ≤ 1048576) (_wi : (Lit.int .i64 i).wf = true) : ∃ (r : ByteArray) (code : Int),
    (∀ w, Calls Tryz.prog 28 #[.string s, .int .i64 i, .string u] w (TupPost (.tuple #[.string r, .int .i64 code]) w)) ∧ (∀ w, Calls Tryz.prog 143 #[.string s, .int .i64 i, .string u] w (TupPost (.tuple #[.string r, .int .i64 code]) w)) := by
  by_cases h : IsW s ∧ IsW u
  · obtain ⟨hs, hu⟩ := h
    by_cases hi : 0 ≤ i ∧ i ≤ (s.size : Int)
    · cases hm : mB u.data.toList with
      | true =>
        obtain ⟨k, rfl⟩ := Int.eq_ofNat_of_zero_le hi.1
        have hk : k ≤ s.size := by have := hi.2; omega
        obtain ⟨r, code, hr⟩ := toldV_form (putW s u k)
        exact ⟨r, code, fun w => hr ▸ spec_PutAt_yes s u k w hs hu hk hm, fun w => hr ▸ impl_PutAt_yes s u k w hs hu hk hm⟩
      | false => exact ⟨_, _, fun w => spec_PutAt_state s u i w hs hu hi.1 hi.2 hm, fun w => impl_PutAt_state s u i w hs hu hi.1 hi.2 hm⟩
    · have hi' : i < 0 ∨ (s.size : Int) < i := by omega
      exact ⟨_, _, fun w => spec_PutAt_range s u i w hs hu hi', fun w => impl_PutAt_range s u i w hs hu hi'⟩
  · exact ⟨_, _, fun w => spec_PutAt_inv s u i w l1 l2 h, fun w => impl_PutAt_inv s u i w l1 l2 h⟩
end Go.Proofs.YtblgjedjljfmcaaGreatDoor
