/- BodyOf and CutMatched, of the model and of the program. -/
import Derived.Test.YtcdgfmaclgegnaaGreatDoorClosed
namespace Go.Proofs.YtcdgfmaclgegnaaGreatDoor
open Go.RowKit

def bodV (t : ByteArray) (c : Int) : Value := .tuple #[.string t, .int .i64 c]

theorem slice_mid (s : ByteArray) (k m : Nat) (h : k < m) (h2 : m ≤ s.size) : ∀ W : World, (Instr.slice 9 (.string s) (some (.int .i64 ((k : Int) + 1))) (some (.int .i64 (m : Int))) none).run Tryz.prog W = .ok (.string (s.extract (k + 1) m)) W := fun W => by
  have := run_slice_string (P := Tryz.prog) W 9 s .i64 .i64 ((k : Int) + 1) (m : Int) Tryz.underlying9 (by omega) (by omega) (by omega)
  rwa [show ((k : Int) + 1).toNat = k + 1 from by omega, Int.toNat_natCast] at this
theorem slice_head (s : ByteArray) (k : Nat) (h : k ≤ s.size) : ∀ W : World, (Instr.slice 9 (.string s) none (some (.int .i64 (k : Int))) none).run Tryz.prog W = .ok (.string (s.extract 0 k)) W := fun W => by
  have := run_slice_string_h (P := Tryz.prog) (w := W) (t := 9) (s := s) Tryz.underlying9 .i64 (k : Int) (by omega) (by omega)
  rwa [Int.toNat_natCast] at this
theorem slice_tail (s : ByteArray) (m : Nat) (h : m < s.size) : ∀ W : World, (Instr.slice 9 (.string s) (some (.int .i64 ((m : Int) + 1))) none none).run Tryz.prog W = .ok (.string (s.extract (m + 1) s.size)) W := fun W => by
  have := run_slice_string_l (P := Tryz.prog) (w := W) (t := 9) (s := s) Tryz.underlying9 .i64 ((m : Int) + 1) (by omega) (by omega)
  rwa [show ((m : Int) + 1).toNat = m + 1 from by omega] at this

theorem spec_CutMatched_bad (s : ByteArray) (i q c : Int) (w : World) (hc : c = 1 ∨ c = 2 ∨ c = 4)
    (h : ∀ w, Calls Tryz.prog 69 #[.string s, .int .i64 i] w (TupPost (cloV q c) w)) :
    Calls Tryz.prog 50 #[.string s, .int .i64 i] w (TupPost (bodV ⟨#[]⟩ c) w) := by
  simp only [cloV, bodV] at h ⊢
  have H := Lib.hid h
  clear h
  rcases hc with rfl | rfl | rfl
  all_goals
    go_enter Tryz.func50, Tryz.ntmps50
    go_wp2_with fail
    refine (H.out _).mono ?_
    rintro e w1 ⟨rfl, hb⟩
    go_wp2
    go_ret2
    exact ⟨rfl, hb⟩

theorem spec_CutMatched_yes (s : ByteArray) (k m : Nat) (w : World) (hkm : k < m) (hm : m < s.size) (h60 : s.size ≤ 60)
    (h : ∀ w, Calls Tryz.prog 69 #[.string s, .int .i64 (k : Int)] w (TupPost (cloV (m : Int) 0) w)) :
    Calls Tryz.prog 50 #[.string s, .int .i64 (k : Int)] w (TupPost (bodV (s.extract 0 k ++ s.extract (m + 1) s.size) 0) w) := by
  simp only [cloV, bodV] at h ⊢
  have H := Lib.hid h
  clear h
  have hsl := slice_head s k (by omega)
  have hsl2 := slice_tail s m hm
  have hz : (s.extract 0 k).size ≤ 60 := by rw [ByteArray.size_extract]; omega
  have hz2 : (s.extract (m + 1) s.size).size ≤ 60 := by rw [ByteArray.size_extract]; omega
  go_enter Tryz.func50, Tryz.ntmps50
  go_wp2_with fail
  refine (H.out _).mono ?_
  rintro e w1 ⟨rfl, hb⟩
  go_wp2
  go_quiet (fail)
  go_wp2
  go_ret2
  exact ⟨rfl, below_drewN hb _⟩

theorem impl_CutMatched_bad (s : ByteArray) (i q c : Int) (w : World) (hc : c = 1 ∨ c = 2 ∨ c = 4)
    (h : ∀ w, Calls Tryz.prog 161 #[.string s, .int .i64 i] w (TupPost (cloV q c) w)) :
    Calls Tryz.prog 160 #[.string s, .int .i64 i] w (TupPost (bodV ⟨#[]⟩ c) w) := by
  simp only [cloV, bodV] at h ⊢
  have H := Lib.hid h
  clear h
  rcases hc with rfl | rfl | rfl
  all_goals
    go_enter Tryz.func160, Tryz.ntmps160
    go_wp2_with fail
    refine (H.out _).mono ?_
    rintro e w1 ⟨rfl, hb⟩
    go_wp2
    go_ret2
    exact ⟨rfl, hb⟩

theorem impl_CutMatched_yes (s : ByteArray) (k m : Nat) (w : World) (hkm : k < m) (hm : m < s.size) (h60 : s.size ≤ 60)
    (h : ∀ w, Calls Tryz.prog 161 #[.string s, .int .i64 (k : Int)] w (TupPost (cloV (m : Int) 0) w)) :
    Calls Tryz.prog 160 #[.string s, .int .i64 (k : Int)] w (TupPost (bodV (s.extract 0 k ++ s.extract (m + 1) s.size) 0) w) := by
  simp only [cloV, bodV] at h ⊢
  have H := Lib.hid h
  clear h
  have hsl := slice_head s k (by omega)
  have hsl2 := slice_tail s m hm
  have hz : (s.extract 0 k).size ≤ 60 := by rw [ByteArray.size_extract]; omega
  have hz2 : (s.extract (m + 1) s.size).size ≤ 60 := by rw [ByteArray.size_extract]; omega
  go_enter Tryz.func160, Tryz.ntmps160
  go_wp2_with fail
  refine (H.out _).mono ?_
  rintro e w1 ⟨rfl, hb⟩
  go_wp2
  go_quiet (fail)
  go_wp2
  go_ret2
  exact ⟨rfl, below_drewN hb _⟩

theorem both_CutMatched (s : ByteArray) (i : Int) (hs : s.size ≤ 1048576) (_wi : (Lit.int .i64 i).wf = true) : ∃ (r : ByteArray) (code : Int),
    (∀ w, Calls Tryz.prog 50 #[.string s, .int .i64 i] w (TupPost (.tuple #[.string r, .int .i64 code]) w)) ∧ (∀ w, Calls Tryz.prog 160 #[.string s, .int .i64 i] w (TupPost (.tuple #[.string r, .int .i64 code]) w)) := by
  obtain ⟨q, c, hc, hS, hI⟩ := both_closed s i hs
  rcases hc with ⟨rfl, k, m, rfl, rfl, hkm, hm, h60⟩ | hc
  · exact ⟨_, _, fun w => spec_CutMatched_yes s k m w hkm hm h60 hS, fun w => impl_CutMatched_yes s k m w hkm hm h60 hI⟩
  · exact ⟨_, _, fun w => spec_CutMatched_bad s i q c w hc hS, fun w => impl_CutMatched_bad s i q c w hc hI⟩
end Go.Proofs.YtcdgfmaclgegnaaGreatDoor
