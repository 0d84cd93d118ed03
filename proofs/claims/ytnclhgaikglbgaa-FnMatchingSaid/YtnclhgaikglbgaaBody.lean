/- BodyOf and CutMatched, of the model and of the program. -/
import Derived.Test.YtnclhgaikglbgaaClosed
namespace Go.Proofs.Ytnclhgaikglbgaa
open Go.RowKit

def bodV (t : ByteArray) (c : Int) : Value := .tuple #[.string t, .int .i64 c]

theorem slice_mid (s : ByteArray) (k m : Nat) (h : k < m) (h2 : m ≤ s.size) : ∀ W : World, (Instr.slice 9 (.string s) (some (.int .i64 ((k : Int) + 1))) (some (.int .i64 (m : Int))) none).run Try.prog W = .ok (.string (s.extract (k + 1) m)) W := fun W => by
  have := run_slice_string (P := Try.prog) W 9 s .i64 .i64 ((k : Int) + 1) (m : Int) Try.underlying9 (by omega) (by omega) (by omega)
  rwa [show ((k : Int) + 1).toNat = k + 1 from by omega, Int.toNat_natCast] at this
theorem slice_head (s : ByteArray) (k : Nat) (h : k ≤ s.size) : ∀ W : World, (Instr.slice 9 (.string s) none (some (.int .i64 (k : Int))) none).run Try.prog W = .ok (.string (s.extract 0 k)) W := fun W => by
  have := run_slice_string_h (P := Try.prog) (w := W) (t := 9) (s := s) Try.underlying9 .i64 (k : Int) (by omega) (by omega)
  rwa [Int.toNat_natCast] at this
theorem slice_tail (s : ByteArray) (m : Nat) (h : m < s.size) : ∀ W : World, (Instr.slice 9 (.string s) (some (.int .i64 ((m : Int) + 1))) none none).run Try.prog W = .ok (.string (s.extract (m + 1) s.size)) W := fun W => by
  have := run_slice_string_l (P := Try.prog) (w := W) (t := 9) (s := s) Try.underlying9 .i64 ((m : Int) + 1) (by omega) (by omega)
  rwa [show ((m : Int) + 1).toNat = m + 1 from by omega] at this

theorem impl_BodyOf_bad (s : ByteArray) (i q c : Int) (w : World) (hc : c = 1 ∨ c = 2 ∨ c = 4)
    (h : ∀ w, Calls Try.prog 39 #[.string s, .int .i64 i] w (TupPost (cloV q c) w)) :
    Calls Try.prog 18 #[.string s, .int .i64 i] w (TupPost (bodV ⟨#[]⟩ c) w) := by
  simp only [cloV, bodV] at h ⊢
  have H := Lib.hid h
  clear h
  rcases hc with rfl | rfl | rfl
  all_goals
    go_enter Try.func18, Try.ntmps18
    go_wp2_with fail
    refine (H.out _).mono ?_
    rintro e w1 ⟨rfl, hb⟩
    go_wp2
    go_ret2
    exact ⟨rfl, hb⟩

theorem impl_BodyOf_yes (s : ByteArray) (k m : Nat) (w : World) (hkm : k < m) (hm : m < s.size) (h60 : s.size ≤ 60)
    (h : ∀ w, Calls Try.prog 39 #[.string s, .int .i64 (k : Int)] w (TupPost (cloV (m : Int) 0) w)) :
    Calls Try.prog 18 #[.string s, .int .i64 (k : Int)] w (TupPost (bodV (s.extract (k + 1) m) 0) w) := by
  simp only [cloV, bodV] at h ⊢
  have H := Lib.hid h
  clear h
  have hsl := slice_mid s k m hkm (by omega)
  have hz : (s.extract (k + 1) m).size ≤ 60 := by rw [ByteArray.size_extract]; omega
  go_enter Try.func18, Try.ntmps18
  go_wp2_with fail
  refine (H.out _).mono ?_
  rintro e w1 ⟨rfl, hb⟩
  go_wp2
  go_ret2
  exact ⟨rfl, hb⟩

theorem impl_CutMatched_bad (s : ByteArray) (i q c : Int) (w : World) (hc : c = 1 ∨ c = 2 ∨ c = 4)
    (h : ∀ w, Calls Try.prog 39 #[.string s, .int .i64 i] w (TupPost (cloV q c) w)) :
    Calls Try.prog 26 #[.string s, .int .i64 i] w (TupPost (bodV ⟨#[]⟩ c) w) := by
  simp only [cloV, bodV] at h ⊢
  have H := Lib.hid h
  clear h
  rcases hc with rfl | rfl | rfl
  all_goals
    go_enter Try.func26, Try.ntmps26
    go_wp2_with fail
    refine (H.out _).mono ?_
    rintro e w1 ⟨rfl, hb⟩
    go_wp2
    go_ret2
    exact ⟨rfl, hb⟩

theorem impl_CutMatched_yes (s : ByteArray) (k m : Nat) (w : World) (hkm : k < m) (hm : m < s.size) (h60 : s.size ≤ 60)
    (h : ∀ w, Calls Try.prog 39 #[.string s, .int .i64 (k : Int)] w (TupPost (cloV (m : Int) 0) w)) :
    Calls Try.prog 26 #[.string s, .int .i64 (k : Int)] w (TupPost (bodV (s.extract 0 k ++ s.extract (m + 1) s.size) 0) w) := by
  simp only [cloV, bodV] at h ⊢
  have H := Lib.hid h
  clear h
  have hsl := slice_head s k (by omega)
  have hsl2 := slice_tail s m hm
  have hz : (s.extract 0 k).size ≤ 60 := by rw [ByteArray.size_extract]; omega
  have hz2 : (s.extract (m + 1) s.size).size ≤ 60 := by rw [ByteArray.size_extract]; omega
  go_enter Try.func26, Try.ntmps26
  go_wp2_with fail
  refine (H.out _).mono ?_
  rintro e w1 ⟨rfl, hb⟩
  go_wp2
  go_quiet (fail)
  go_wp2
  go_ret2
  exact ⟨rfl, below_drewN hb _⟩

end Go.Proofs.Ytnclhgaikglbgaa
