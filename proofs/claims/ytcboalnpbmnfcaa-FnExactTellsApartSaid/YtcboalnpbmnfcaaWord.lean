/- What is a word: l01Ok and readNested agree. -/
import Derived.Test.YtcboalnpbmnfcaaNested
namespace Go.Proofs.Ytcboalnpbmnfcaa
open Go.RowKit

theorem first_bad (l : List UInt8) (h : ¬ AllSym l) : ∃ (j : Nat) (b : UInt8), l[j]? = some b ∧ symNo b.toNat < 0 ∧ AllSym (l.take j) := by
  induction l with
  | nil => exact absurd (by intro b hb; cases hb) h
  | cons a l ih =>
    by_cases ha : 0 ≤ symNo a.toNat
    · have h' : ¬ AllSym l := fun hl => h (by
        intro b hb
        rcases List.mem_cons.1 hb with rfl | hb
        · exact ha
        · exact hl b hb)
      obtain ⟨j, b, h1, h2, h3⟩ := ih h'
      refine ⟨j + 1, b, by simpa using h1, h2, ?_⟩
      intro c hc
      rw [List.take_succ_cons] at hc
      rcases List.mem_cons.1 hc with rfl | hc
      · exact ha
      · exact h3 c hc
    · exact ⟨0, a, rfl, by omega, by intro c hc; simp at hc⟩

def IsW (s : ByteArray) : Prop := s.size ≤ 60 ∧ AllSym s.data.toList

theorem impl_read_no (s : ByteArray) (w : World) (hs : s.size ≤ 1048576) (h : ¬ IsW s) : Calls Try.prog 58 #[.string s] w (ReadNo w) := by
  by_cases h60 : s.size ≤ 60
  · obtain ⟨j, b, h1, h2, h3⟩ := first_bad s.data.toList (fun ha => h ⟨h60, ha⟩)
    exact impl_read_bad s w h60 j b h1 h2 h3
  · exact impl_read_long s w (by omega) hs

set_option maxHeartbeats 800000 in
theorem spec_ok_all (s : ByteArray) (w : World) (hs : s.size ≤ 1048576) (hall : AllSym s.data.toList) :
    Calls Try.prog 56 #[.string s] w fun e w' => e = .returned (.bool (decide (s.size ≤ 60))) ∧ w = w' := by
  have Hall := Lib.hid hall
  clear hall
  go_enter Try.func56, Try.ntmps56
  go_wp2
  go_loop [3] (fun i => ∃ k : Nat, k ≤ s.size ∧ i = .int .i64 k) (fun i => s.size - (intOf i).toNat)
  case atStart => exact ⟨0, Nat.zero_le _, rfl⟩
  case round =>
    obtain ⟨k, hk, rfl⟩ := hrel
    by_cases hlt : k < s.size
    · have hsy : 0 ≤ symNo (s[k].toNat : Int) := Hall.out _ (by
        have : s.data.toList[k]? = some s[k] := by rw [List.getElem?_eq_getElem (by simpa using hlt)]; rfl
        exact List.mem_of_getElem? this)
      go_wp2_with (go_at_call 121; refine (spec_symbol _ _).mono ?_; rintro e w' ⟨rfl, rfl⟩)
      go_round
      case rel => exact ⟨k + 1, by omega, by go_num⟩
      case measure => simp [intOf]; omega
    · go_wp2
      go_ret
      exact ⟨by simp; omega, rfl⟩

set_option maxHeartbeats 800000 in
theorem spec_ok_bad (s : ByteArray) (w : World) (hs : s.size ≤ 1048576) (j : Nat) (b : UInt8) (hj : s.data.toList[j]? = some b) (hbad : symNo b.toNat < 0) (hgood : AllSym (s.data.toList.take j)) :
    Calls Try.prog 56 #[.string s] w fun e w' => e = .returned (.bool false) ∧ w = w' := by
  have hjn : j < s.size := by have := (List.getElem?_eq_some_iff.1 hj).1; simpa using this
  have Hgood := Lib.hid hgood
  have Hj := Lib.hid hj
  clear hgood hj
  go_enter Try.func56, Try.ntmps56
  go_wp2
  go_loop [3] (fun i => ∃ k : Nat, k ≤ j ∧ i = .int .i64 k) (fun i => s.size - (intOf i).toNat)
  case atStart => exact ⟨0, Nat.zero_le _, rfl⟩
  case round =>
    obtain ⟨k, hk, rfl⟩ := hrel
    have hks : k < s.size := by omega
    have hb : Hid (s.data.toList[k]? = some s[k]) := by
      show _ = _
      rw [List.getElem?_eq_getElem (by simpa using hks)]; rfl
    by_cases hlt : k < j
    · have hsy : 0 ≤ symNo (s[k].toNat : Int) := Hgood.out _ (List.mem_of_getElem? (by rw [List.getElem?_take_of_lt hlt]; exact hb.out))
      go_wp2_with (go_at_call 121; refine (spec_symbol _ _).mono ?_; rintro e w' ⟨rfl, rfl⟩)
      go_round
      case rel => exact ⟨k + 1, by omega, by go_num⟩
      case measure => simp [intOf]; omega
    · have e : k = j := by omega
      subst e
      have hx : s[k] = b := by
        have e1 := hb.out
        rw [Hj.out] at e1
        exact (Option.some.inj e1).symm
      have hsy : symNo (s[k].toNat : Int) < 0 := by rw [hx]; exact hbad
      clear hx hb
      go_wp2_with (go_at_call 121; refine (spec_symbol _ _).mono ?_; rintro e w' ⟨rfl, rfl⟩)
      go_ret
      exact ⟨rfl, rfl⟩

theorem spec_ok_yes (s : ByteArray) (w : World) (h : IsW s) :
    Calls Try.prog 56 #[.string s] w fun e w' => e = .returned (.bool true) ∧ w = w' := by
  refine (spec_ok_all s w (by have := h.1; omega) h.2).mono ?_
  rintro e w' ⟨rfl, rfl⟩
  exact ⟨by simp [h.1], rfl⟩
theorem spec_ok_no (s : ByteArray) (w : World) (hs : s.size ≤ 1048576) (h : ¬ IsW s) :
    Calls Try.prog 56 #[.string s] w fun e w' => e = .returned (.bool false) ∧ w = w' := by
  by_cases ha : AllSym s.data.toList
  · have h60 : ¬ s.size ≤ 60 := fun h' => h ⟨h', ha⟩
    refine (spec_ok_all s w hs ha).mono ?_
    rintro e w' ⟨rfl, rfl⟩
    exact ⟨by simp; omega, rfl⟩
  · obtain ⟨j, b, h1, h2, h3⟩ := first_bad s.data.toList ha
    exact spec_ok_bad s w hs j b h1 h2 h3
end Go.Proofs.Ytcboalnpbmnfcaa
