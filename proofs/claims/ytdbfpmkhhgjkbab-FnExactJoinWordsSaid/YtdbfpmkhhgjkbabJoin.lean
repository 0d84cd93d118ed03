/- What must not be too long; JoinWords; PutAt. -/
import Derived.Test.YtdbfpmkhhgjkbabWord
import Derived.Test.YtdbfpmkhhgjkbabValidWord0
namespace Go.Proofs.Ytdbfpmkhhgjkbab
open Go.RowKit

/-- A text of symbols, if it is short enough for a word. -/
def toldV (t : ByteArray) : Value := if t.size ≤ 60 then .tuple #[.string t, .int .i64 0] else .tuple #[.string ⟨#[]⟩, .int .i64 3]

theorem spec_told (t : ByteArray) (w : World) (ht : t.size ≤ 1048576) : Calls Try.prog 29 #[.string t] w fun e w' => e = .returned (toldV t) ∧ w = w' := by
  by_cases h : t.size ≤ 60
  · rw [toldV, if_pos h]
    go_enter Try.func29, Try.ntmps29
    go_wp2
    go_ret2
    exact ⟨rfl, rfl⟩
  · rw [toldV, if_neg h]
    have h' : 60 < t.size := by omega
    clear h
    go_enter Try.func29, Try.ntmps29
    go_wp2
    go_ret2
    exact ⟨rfl, rfl⟩
theorem impl_told (t : ByteArray) (w : World) (ht : t.size ≤ 1048576) : Calls Try.prog 31 #[.string t] w fun e w' => e = .returned (toldV t) ∧ w = w' := by
  by_cases h : t.size ≤ 60
  · rw [toldV, if_pos h]
    go_enter Try.func31, Try.ntmps31
    go_wp2
    go_ret2
    exact ⟨rfl, rfl⟩
  · rw [toldV, if_neg h]
    have h' : 60 < t.size := by omega
    clear h
    go_enter Try.func31, Try.ntmps31
    go_wp2
    go_ret2
    exact ⟨rfl, rfl⟩
theorem toldV_form (t : ByteArray) : ∃ r code, toldV t = .tuple #[.string r, .int .i64 code] := by
  unfold toldV
  split
  · exact ⟨_, _, rfl⟩
  · exact ⟨_, _, rfl⟩

theorem spec_JoinWords_yes (u s : ByteArray) (w : World) (hu : IsW u) (hs : IsW s) :
    Calls Try.prog 16 #[.string u, .string s] w (TupPost (toldV (u ++ s)) w) := by
  have h1 := hu.1
  have h2 := hs.1
  obtain ⟨r, code, hr⟩ := toldV_form (u ++ s)
  have ht := fun w => spec_told (u ++ s) w (by rw [ByteArray.size_append]; omega)
  rw [hr] at ht ⊢
  have Ht := Lib.hid ht
  have Hu := Lib.hid hu
  have Hs := Lib.hid hs
  clear hu hs ht hr
  go_enter Try.func16, Try.ntmps16
  go_wp2_with fail
  refine (spec_ok_yes _ _ Hu.out).mono ?_
  rintro e w' ⟨rfl, rfl⟩
  go_wp2_with fail
  refine (spec_ok_yes _ _ Hs.out).mono ?_
  rintro e w' ⟨rfl, rfl⟩
  go_wp2_with fail
  refine (Ht.out _).mono ?_
  rintro e w' ⟨rfl, rfl⟩
  go_wp2
  go_ret2
  exact ⟨rfl, Below.refl _ _⟩
theorem spec_JoinWords_no (u s : ByteArray) (w : World) (l1 : u.size ≤ 1048576) (l2 : s.size ≤ 1048576) (h : ¬ (IsW u ∧ IsW s)) :
    Calls Try.prog 16 #[.string u, .string s] w (TupPost (.tuple #[.string ⟨#[]⟩, .int .i64 1]) w) := by
  by_cases hu : IsW u
  · have hs : ¬ IsW s := fun hs => h ⟨hu, hs⟩
    have Hu := Lib.hid hu
    have Hs := Lib.hid hs
    clear hu hs h
    go_enter Try.func16, Try.ntmps16
    go_wp2_with fail
    refine (spec_ok_yes _ _ Hu.out).mono ?_
    rintro e w' ⟨rfl, rfl⟩
    go_wp2_with fail
    refine (spec_ok_no _ _ l2 Hs.out).mono ?_
    rintro e w' ⟨rfl, rfl⟩
    go_wp2
    go_ret2
    exact ⟨rfl, Below.refl _ _⟩
  · have Hu := Lib.hid hu
    clear hu h
    go_enter Try.func16, Try.ntmps16
    go_wp2_with fail
    refine (spec_ok_no _ _ l1 Hu.out).mono ?_
    rintro e w' ⟨rfl, rfl⟩
    go_wp2
    go_ret2
    exact ⟨rfl, Below.refl _ _⟩
theorem impl_JoinWords_yes (u s : ByteArray) (w : World) (hu : IsW u) (hs : IsW s) :
    Calls Try.prog 17 #[.string u, .string s] w (TupPost (toldV (u ++ s)) w) := by
  have h1 := hu.1
  have h2 := hs.1
  obtain ⟨r, code, hr⟩ := toldV_form (u ++ s)
  have ht := fun w => impl_told (u ++ s) w (by rw [ByteArray.size_append]; omega)
  rw [hr] at ht ⊢
  have Ht := Lib.hid ht
  have Hu := Lib.hid hu
  have Hs := Lib.hid hs
  clear hu hs ht hr
  go_enter Try.func17, Try.ntmps17
  go_wp2_with fail
  refine (impl_valid_yes _ _ Hu.out).mono ?_
  rintro e w1 ⟨rfl, hb1⟩
  go_wp2_with fail
  refine (impl_valid_yes _ _ Hs.out).mono ?_
  rintro e w2 ⟨rfl, hb2⟩
  go_wp2_with fail
  refine (Ht.out _).mono ?_
  rintro e w' ⟨rfl, rfl⟩
  go_wp2
  go_ret2
  exact ⟨rfl, hb1.trans (hb2.mono hb1.size)⟩
theorem impl_JoinWords_no (u s : ByteArray) (w : World) (l1 : u.size ≤ 1048576) (l2 : s.size ≤ 1048576) (h : ¬ (IsW u ∧ IsW s)) :
    Calls Try.prog 17 #[.string u, .string s] w (TupPost (.tuple #[.string ⟨#[]⟩, .int .i64 1]) w) := by
  by_cases hu : IsW u
  · have hs : ¬ IsW s := fun hs => h ⟨hu, hs⟩
    have Hu := Lib.hid hu
    have Hs := Lib.hid hs
    clear hu hs h
    go_enter Try.func17, Try.ntmps17
    go_wp2_with fail
    refine (impl_valid_yes _ _ Hu.out).mono ?_
    rintro e w1 ⟨rfl, hb1⟩
    go_wp2_with fail
    refine (impl_valid_no _ _ l2 Hs.out).mono ?_
    rintro e w2 ⟨rfl, hb2⟩
    go_wp2
    go_ret2
    exact ⟨rfl, hb1.trans (hb2.mono hb1.size)⟩
  · have Hu := Lib.hid hu
    clear hu h
    go_enter Try.func17, Try.ntmps17
    go_wp2_with fail
    refine (impl_valid_no _ _ l1 Hu.out).mono ?_
    rintro e w1 ⟨rfl, hb1⟩
    go_wp2
    go_ret2
    exact ⟨rfl, hb1⟩
theorem both_JoinWords (u s : ByteArray) (l1 : u.size ≤ 1048576) (l2 : s.size ≤ 1048576) : ∃ (r : ByteArray) (code : Int),
    (∀ w, Calls Try.prog 16 #[.string u, .string s] w (TupPost (.tuple #[.string r, .int .i64 code]) w)) ∧ (∀ w, Calls Try.prog 17 #[.string u, .string s] w (TupPost (.tuple #[.string r, .int .i64 code]) w)) := by
  by_cases h : IsW u ∧ IsW s
  · obtain ⟨r, code, hr⟩ := toldV_form (u ++ s)
    exact ⟨r, code, fun w => hr ▸ spec_JoinWords_yes u s w h.1 h.2, fun w => hr ▸ impl_JoinWords_yes u s w h.1 h.2⟩
  · exact ⟨_, _, fun w => spec_JoinWords_no u s w l1 l2 h, fun w => impl_JoinWords_no u s w l1 l2 h⟩
end Go.Proofs.Ytdbfpmkhhgjkbab
