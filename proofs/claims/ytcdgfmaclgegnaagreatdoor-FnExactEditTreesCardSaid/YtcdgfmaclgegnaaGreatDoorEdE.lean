/- What an edit makes of a word, of the model. -/
import Derived.Test.YtcdgfmaclgegnaaGreatDoorEdAt
import Derived.Test.YtcdgfmaclgegnaaGreatDoorBody
import Derived.BigQuiet
import Derived.Deep.QuietTactic
import Derived.Deep.RegionWith
import Derived.Deep.DeepCutAuto
namespace Go.Proofs.YtcdgfmaclgegnaaGreatDoor
open Go.RowKit
set_option linter.unusedVariables false

abbrev EdA (k a t : Int) (u : ByteArray) : Array Value := #[.int .i64 k, .int .i64 a, .int .i64 t, .string u]
theorem isW_sub {s : ByteArray} (h : IsW s) (i j : Nat) : IsW (s.extract i j) := by
  refine ⟨by rw [ByteArray.size_extract]; have := h.1; omega, fun x hx => h.2 x ?_⟩
  have e : (s.extract i j).data.toList = (s.data.toList.drop i).take (j - i) := by
    simp [ByteArray.data_extract]
  rw [e] at hx
  exact List.mem_of_mem_drop (List.mem_of_mem_take hx)
theorem slice_ab (s : ByteArray) (k m : Nat) (h : k ≤ m) (h2 : m ≤ s.size) : ∀ W : World, (Instr.slice 9 (.string s) (some (.int .i64 (k : Int))) (some (.int .i64 (m : Int))) none).run Tryz.prog W = .ok (.string (s.extract k m)) W := fun W => by
  have := run_slice_string (P := Tryz.prog) W 9 s .i64 .i64 (k : Int) (m : Int) Tryz.underlying9 (by omega) (by omega) (by omega)
  rwa [Int.toNat_natCast, Int.toNat_natCast] at this
theorem slice_one (s : ByteArray) (h : 1 ≤ s.size) : ∀ W : World, (Instr.slice 9 (.string s) none (some (.int .i64 1)) none).run Tryz.prog W = .ok (.string (s.extract 0 1)) W := slice_to s 1 h
theorem slice_rest (s : ByteArray) (h : 1 ≤ s.size) : ∀ W : World, (Instr.slice 9 (.string s) (some (.int .i64 1)) none none).run Tryz.prog W = .ok (.string (s.extract 1 s.size)) W := slice_from s 1 h

set_option maxHeartbeats 6400000 in
set_option maxRecDepth 100000 in
theorem spec_made_put {B o : Nat} (a t : Int) (s u r : ByteArray) (c : Int) (w : World) (hx : EdAt w B o 1 a t u) (hP : ∀ w, Calls Tryz.prog 49 #[.string s, .int .i64 a, .string u] w (TupPost (.tuple #[.string r, .int .i64 c]) w)) :
    Calls Tryz.prog 27 #[.string s, .pointer (some ⟨B, o, none⟩)] w (TupPost (.tuple #[.string r, .int .i64 c]) w) := by
  have HP := Lib.hid hP
  obtain ⟨c0, c1, c2, c3, cl⟩ := id hx.all4
  have hR := Below.refl w.heap.size w
  clear hP hx
  go_enter Tryz.func27, Tryz.ntmps27
  go_wp2_with fail
  go_region_with (go_at_call 49
                  refine (HP.out _).mono ?_
                  rintro e wd ⟨rfl, hbd⟩
                  have hd1 : Below w.heap.size w wd := by first | exact hR.drew.trans (hbd.mono hR.drew.size) | exact hbd)
  all_goals
    go_wp2
    go_ret2
    exact ⟨rfl, hd1⟩
set_option maxHeartbeats 3200000 in
set_option maxRecDepth 100000 in
theorem spec_made_cut {B o : Nat} (a t : Int) (s u r : ByteArray) (c : Int) (w : World) (hx : EdAt w B o 2 a t u) (hP : ∀ w, Calls Tryz.prog 50 #[.string s, .int .i64 a] w (TupPost (.tuple #[.string r, .int .i64 c]) w)) :
    Calls Tryz.prog 27 #[.string s, .pointer (some ⟨B, o, none⟩)] w (TupPost (.tuple #[.string r, .int .i64 c]) w) := by
  have HP := Lib.hid hP
  obtain ⟨c0, c1, c2, c3, cl⟩ := id hx.all4
  clear hP hx
  go_enter Tryz.func27, Tryz.ntmps27
  go_wp2_with fail
  refine (HP.out _).mono ?_
  rintro e wd ⟨rfl, hbd⟩
  go_wp2
  go_ret2
  exact ⟨rfl, hbd⟩
set_option maxHeartbeats 6400000 in
set_option maxRecDepth 100000 in
/-- A wrap whose places are none. -/
theorem spec_made_wrap_range {B o : Nat} (a t : Nat) (s u : ByteArray) (w : World) (h60 : s.size ≤ 60) (hx : EdAt w B o 4 a t u) (h : t < a ∨ s.size < t) :
    Calls Tryz.prog 27 #[.string s, .pointer (some ⟨B, o, none⟩)] w (TupPost (.tuple #[.string ⟨#[]⟩, .int .i64 2]) w) := by
  obtain ⟨c0, c1, c2, c3, cl⟩ := id hx.all4
  by_cases h1 : s.size < a
  · have d1 : decide ((s.size : Int) < (a : Int)) = true := decide_eq_true (by omega)
    clear hx h
    go_enter Tryz.func27, Tryz.ntmps27
    go_wp2_with fail
    go_big_quiet (fail)
    go_wp2
    go_ret2
    exact ⟨rfl, below_drewN (Below.refl _ _) _⟩
  · by_cases h2 : s.size < t
    · have d1 : decide ((s.size : Int) < (a : Int)) = false := decide_eq_false (by omega)
      have d2 : decide ((s.size : Int) < (t : Int)) = true := decide_eq_true (by omega)
      clear hx h
      go_enter Tryz.func27, Tryz.ntmps27
      go_wp2_with fail
      go_big_quiet (fail)
      go_wp2
      go_ret2
      exact ⟨rfl, below_drewN (Below.refl _ _) _⟩
    · have h3 : t < a := by omega
      have d1 : decide ((s.size : Int) < (a : Int)) = false := decide_eq_false (by omega)
      have d2 : decide ((s.size : Int) < (t : Int)) = false := decide_eq_false (by omega)
      have d3 : decide ((t : Int) < (a : Int)) = true := decide_eq_true (by omega)
      clear hx h
      go_enter Tryz.func27, Tryz.ntmps27
      go_wp2_with fail
      go_big_quiet (fail)
      go_wp2
      go_ret2
      exact ⟨rfl, below_drewN (Below.refl _ _) _⟩
end Go.Proofs.YtcdgfmaclgegnaaGreatDoor
