import Derived.Test.YtblgjedjljfmcaaGreatDoorMFnExactUndoTreeEdit11
import Derived.Test.YtblgjedjljfmcaaGreatDoorRows
import Derived.Test.YtblgjedjljfmcaaGreatDoorMFnExactUndoTreeEdit1
import Derived.Test.YtblgjedjljfmcaaGreatDoorMFnExactUndoTreeEdit8
import Derived.WalkKit
import Derived.LaidEql
import Derived.Stop.Asserts
import Derived.RowKitTokens
/- What an edit makes of a word, of the model: wraps, openings and new names. -/
namespace Go.Proofs.YtblgjedjljfmcaaGreatDoor
open Go.RowKit
set_option linter.unusedVariables false

theorem ext_le (s : ByteArray) (i j : Nat) (h : s.size ≤ 60) : (s.extract i j).size ≤ 60 := by rw [ByteArray.size_extract]; omega
theorem one_le (s : ByteArray) : (s.extract 0 1).size ≤ 1 := by rw [ByteArray.size_extract]; omega
theorem rest_le (s : ByteArray) (h : s.size = 2) : (s.extract 1 s.size).size ≤ 1 := by rw [ByteArray.size_extract]; omega
/-- The word behind a wrap; behind an opening; behind a new name. -/
def wrapW (s u : ByteArray) (a t : Nat) : ByteArray := s.extract 0 a ++ u.extract 0 1 ++ s.extract a t ++ u.extract 1 u.size ++ s.extract t s.size
def openW (s : ByteArray) (a m : Nat) : ByteArray := s.extract 0 a ++ s.extract (a + 1) m ++ s.extract (m + 1) s.size
def nameW (s u : ByteArray) (a m : Nat) : ByteArray := s.extract 0 a ++ u.extract 0 1 ++ s.extract (a + 1) m ++ u.extract 1 u.size ++ s.extract (m + 1) s.size

set_option maxHeartbeats 12800000 in
set_option maxRecDepth 100000 in
theorem spec_made_wrap_state {B o : Nat} (a t : Nat) (s u : ByteArray) (w : World) (hs : IsW s) (hu : u.size = 2) (hx : EdAt w B o 4 a t u) (ha : a ≤ t) (ht : t ≤ s.size) (hm : mB (s.extract a t).data.toList = false) :
    Calls Tryz.prog 13 #[.string s, .pointer (some ⟨B, o, none⟩)] w (TupPost (.tuple #[.string ⟨#[]⟩, .int .i64 4]) w) := by
  have h60 := hs.1
  have hM := fun W => spec_matched' (s.extract a t) W (isW_sub hs a t)
  rw [hm] at hM
  have HM := Lib.hid hM
  have HX := Lib.hid hx
  obtain ⟨c0, c1, c2, c3, cl⟩ := id hx.all4
  have d1_ : decide ((s.size : Int) < (a : Int)) = false := decide_eq_false (by omega)
  have d2_ : decide ((s.size : Int) < (t : Int)) = false := decide_eq_false (by omega)
  have d3_ : decide ((t : Int) < (a : Int)) = false := decide_eq_false (by omega)
  have n1_ : ¬ (s.size < a) := by omega
  have n2_ : ¬ (s.size < t) := by omega
  have n3_ : ¬ (t < a) := by omega
  have hsl := slice_ab s a t ha ht
  clear hs hM hm hx
  generalize s.extract a t = b at *
  go_enter Tryz.func13, Tryz.ntmps13
  go_wp2_with fail
  go_big_quiet (fail)
  go_wp2_with fail
  go_upto_region 10 with fail
  refine wp_region_free (by kernel_rfl) [
      .val [] (fun _ => .string s),
      .val [] (fun _ => .pointer (some ⟨B, o, none⟩)),
      .val [] (fun _ => .pointer (some ⟨B, o, none⟩)),
      .val [] (fun _ => .pointer (some ⟨B, o + 1, none⟩)),
      .val [] (fun _ => .int .i64 (a : Int)),
      .val [] (fun _ => .pointer (some ⟨B, o, none⟩)),
      .val [] (fun _ => .pointer (some ⟨B, o, none⟩)),
      .val [] (fun _ => .pointer (some ⟨B, o + 2, none⟩)),
      .val [] (fun _ => .int .i64 (t : Int)),
      .val [] (fun _ => .string b),
      .val [] (fun _ => .bool false),
      .val [] (fun _ => .bool true)] ?hp ?hfw ?deps ?oks ?steps ?tail
  case hp => kernel_rfl
  case hfw => kernel_rfl
  case deps => kernel_rfl
  case oks =>
    intro F hF
    simp only [List.mem_cons, List.not_mem_nil, or_false] at hF
    rcases hF with rfl | rfl | rfl | rfl | rfl | rfl | rfl | rfl | rfl | rfl | rfl | rfl
    all_goals trivial
  case steps =>
    refine Steps.cons ?_ ?_
    · refine FreeStep.val [] _ rfl rfl fun u β W hW hn fr hfr K hK => ?_
      simp only [frameL, putL, Act.put, List.setIfInBounds_toArray, List.set_cons_zero, List.set_cons_succ, Nat.zero_add, Nat.reduceAdd] at hfr
      subst hfr
      have HK := Lib.hid hK
      clear hK hn
      go_simp
      have h9 := HK.out
      revert h9
      clear HK
      go_simp
      try exact id
    refine Steps.cons ?_ ?_
    · refine FreeStep.val [] _ rfl rfl fun u β W hW hn fr hfr K hK => ?_
      simp only [frameL, putL, Act.put, List.setIfInBounds_toArray, List.set_cons_zero, List.set_cons_succ, Nat.zero_add, Nat.reduceAdd] at hfr
      subst hfr
      have HK := Lib.hid hK
      clear hK hn
      go_simp
      have h9 := HK.out
      revert h9
      clear HK
      go_simp
      try exact id
    refine Steps.cons ?_ ?_
    · refine FreeStep.val [] _ rfl rfl fun u β W hW hn fr hfr K hK => ?_
      simp only [frameL, putL, Act.put, List.setIfInBounds_toArray, List.set_cons_zero, List.set_cons_succ, Nat.zero_add, Nat.reduceAdd] at hfr
      subst hfr
      have e1 : u 1 = .pointer (some ⟨B, o, none⟩) := Have.get (k := 1) hn rfl
      simp only [e1] at hK
      obtain ⟨e0, e1, e2, e3, el⟩ := id (EdAt.all4 (HX.out.laterN hW))
      have HK := Lib.hid hK
      clear hK hn
      go_simp
      have h9 := HK.out
      revert h9
      clear HK
      go_simp
      try exact id
    refine Steps.cons ?_ ?_
    · refine FreeStep.val [] _ rfl rfl fun u β W hW hn fr hfr K hK => ?_
      simp only [frameL, putL, Act.put, List.setIfInBounds_toArray, List.set_cons_zero, List.set_cons_succ, Nat.zero_add, Nat.reduceAdd] at hfr
      subst hfr
      have e2 : u 2 = .pointer (some ⟨B, o, none⟩) := Have.get (k := 2) hn rfl
      simp only [e2] at hK
      obtain ⟨e0, e1, e2, e3, el⟩ := id (EdAt.all4 (HX.out.laterN hW))
      have HK := Lib.hid hK
      clear hK hn
      go_simp
      have h9 := HK.out
      revert h9
      clear HK
      go_simp
      try exact id
    refine Steps.cons ?_ ?_
    · refine FreeStep.val [] _ rfl rfl fun u β W hW hn fr hfr K hK => ?_
      simp only [frameL, putL, Act.put, List.setIfInBounds_toArray, List.set_cons_zero, List.set_cons_succ, Nat.zero_add, Nat.reduceAdd] at hfr
      subst hfr
      have e3 : u 3 = .pointer (some ⟨B, o + 1, none⟩) := Have.get (k := 3) hn rfl
      simp only [e3] at hK
      obtain ⟨e0, e1, e2, e3, el⟩ := id (EdAt.all4 (HX.out.laterN hW))
      have HK := Lib.hid hK
      clear hK hn
      go_simp
      have h9 := HK.out
      revert h9
      clear HK
      go_simp
      try exact id
    refine Steps.cons ?_ ?_
    · refine FreeStep.val [] _ rfl rfl fun u β W hW hn fr hfr K hK => ?_
      simp only [frameL, putL, Act.put, List.setIfInBounds_toArray, List.set_cons_zero, List.set_cons_succ, Nat.zero_add, Nat.reduceAdd] at hfr
      subst hfr
      have HK := Lib.hid hK
      clear hK hn
      go_simp
      have h9 := HK.out
      revert h9
      clear HK
      go_simp
      try exact id
    refine Steps.cons ?_ ?_
    · refine FreeStep.val [] _ rfl rfl fun u β W hW hn fr hfr K hK => ?_
      simp only [frameL, putL, Act.put, List.setIfInBounds_toArray, List.set_cons_zero, List.set_cons_succ, Nat.zero_add, Nat.reduceAdd] at hfr
      subst hfr
      have e5 : u 5 = .pointer (some ⟨B, o, none⟩) := Have.get (k := 5) hn rfl
      simp only [e5] at hK
      obtain ⟨e0, e1, e2, e3, el⟩ := id (EdAt.all4 (HX.out.laterN hW))
      have HK := Lib.hid hK
      clear hK hn
      go_simp
      have h9 := HK.out
      revert h9
      clear HK
      go_simp
      try exact id
    refine Steps.cons ?_ ?_
    · refine FreeStep.val [] _ rfl rfl fun u β W hW hn fr hfr K hK => ?_
      simp only [frameL, putL, Act.put, List.setIfInBounds_toArray, List.set_cons_zero, List.set_cons_succ, Nat.zero_add, Nat.reduceAdd] at hfr
      subst hfr
      have e6 : u 6 = .pointer (some ⟨B, o, none⟩) := Have.get (k := 6) hn rfl
      simp only [e6] at hK
      obtain ⟨e0, e1, e2, e3, el⟩ := id (EdAt.all4 (HX.out.laterN hW))
      have HK := Lib.hid hK
      clear hK hn
      go_simp
      have h9 := HK.out
      revert h9
      clear HK
      go_simp
      try exact id
    refine Steps.cons ?_ ?_
    · refine FreeStep.val [] _ rfl rfl fun u β W hW hn fr hfr K hK => ?_
      simp only [frameL, putL, Act.put, List.setIfInBounds_toArray, List.set_cons_zero, List.set_cons_succ, Nat.zero_add, Nat.reduceAdd] at hfr
      subst hfr
      have e7 : u 7 = .pointer (some ⟨B, o + 2, none⟩) := Have.get (k := 7) hn rfl
      simp only [e7] at hK
      obtain ⟨e0, e1, e2, e3, el⟩ := id (EdAt.all4 (HX.out.laterN hW))
      have HK := Lib.hid hK
      clear hK hn
      go_simp
      have h9 := HK.out
      revert h9
      clear HK
      go_simp
      try exact id
    refine Steps.cons ?_ ?_
    · refine FreeStep.val [] _ rfl rfl fun u β W hW hn fr hfr K hK => ?_
      simp only [frameL, putL, Act.put, List.setIfInBounds_toArray, List.set_cons_zero, List.set_cons_succ, Nat.zero_add, Nat.reduceAdd] at hfr
      subst hfr
      have e0 : u 0 = .string s := Have.get (k := 0) hn rfl
      have e4 : u 4 = .int .i64 (a : Int) := Have.get (k := 4) hn rfl
      have e8 : u 8 = .int .i64 (t : Int) := Have.get (k := 8) hn rfl
      simp only [e0, e4, e8] at hK
      have HK := Lib.hid hK
      clear hK hn
      go_simp
      have h9 := HK.out
      revert h9
      clear HK
      go_simp
      try exact id
    refine Steps.cons ?_ ?_
    · refine FreeStep.calm [] _ rfl rfl fun u β W hW hn fr hfr K hK => ?_
      simp only [frameL, putL, Act.put, List.setIfInBounds_toArray, List.set_cons_zero, List.set_cons_succ, Nat.zero_add, Nat.reduceAdd] at hfr
      subst hfr
      have e9 : u 9 = .string b := Have.get (k := 9) hn rfl
      simp only [e9] at hK
      have HK := Lib.hid hK
      clear hK hn
      go_simp
      refine (HM.out _).mono ?_
      rintro e w1 ⟨rfl, hb1⟩
      have h9 := HK.out _ hb1
      revert h9
      clear HK
      go_simp
      try exact id
    refine Steps.cons ?_ ?_
    · refine FreeStep.val [] _ rfl rfl fun u β W hW hn fr hfr K hK => ?_
      simp only [frameL, putL, Act.put, List.setIfInBounds_toArray, List.set_cons_zero, List.set_cons_succ, Nat.zero_add, Nat.reduceAdd] at hfr
      subst hfr
      have e10 : u 10 = .bool false := Have.get (k := 10) hn rfl
      simp only [e10] at hK
      have HK := Lib.hid hK
      clear hK hn
      go_simp
      have h9 := HK.out
      revert h9
      clear HK
      go_simp
      try exact id
    exact Steps.nil
  case tail =>
    intro u_ β W hW hn hdis hbnd
    have z0 : u_ 0 = .string s := Have.get (k := 0) hn rfl
    have z1 : u_ 1 = .pointer (some ⟨B, o, none⟩) := Have.get (k := 1) hn rfl
    have z2 : u_ 2 = .pointer (some ⟨B, o, none⟩) := Have.get (k := 2) hn rfl
    have z3 : u_ 3 = .pointer (some ⟨B, o + 1, none⟩) := Have.get (k := 3) hn rfl
    have z4 : u_ 4 = .int .i64 (a : Int) := Have.get (k := 4) hn rfl
    have z5 : u_ 5 = .pointer (some ⟨B, o, none⟩) := Have.get (k := 5) hn rfl
    have z6 : u_ 6 = .pointer (some ⟨B, o, none⟩) := Have.get (k := 6) hn rfl
    have z7 : u_ 7 = .pointer (some ⟨B, o + 2, none⟩) := Have.get (k := 7) hn rfl
    have z8 : u_ 8 = .int .i64 (t : Int) := Have.get (k := 8) hn rfl
    have z9 : u_ 9 = .string b := Have.get (k := 9) hn rfl
    have z10 : u_ 10 = .bool false := Have.get (k := 10) hn rfl
    have z11 : u_ 11 = .bool true := Have.get (k := 11) hn rfl
    rw [← frameL_eq (by kernel_rfl)]
    clear hn hdis hbnd
    simp only [frameL, putL, Act.put, List.setIfInBounds_toArray, List.set_cons_zero, List.set_cons_succ, Nat.zero_add, Nat.reduceAdd, z0, z1, z2, z3, z4, z5, z6, z7, z8, z9, z10, z11]
    clear z0 z1 z2 z3 z4 z5 z6 z7 z8 z9 z10 z11
    have hW2 : Below w.heap.size w W := by first | exact hW | exact (below_drewN (Below.refl _ _) _).trans (hW.mono (Nat.le_refl _))
    go_wp2
    go_ret2
    exact ⟨rfl, hW2⟩

set_option maxHeartbeats 12800000 in
set_option maxRecDepth 100000 in
theorem spec_made_wrap_limit {B o : Nat} (a t : Nat) (s u : ByteArray) (w : World) (hs : IsW s) (hu : u.size = 2) (hx : EdAt w B o 4 a t u) (ha : a ≤ t) (ht : t ≤ s.size) (hm : mB (s.extract a t).data.toList = true) (hl : 60 < s.size + 2) :
    Calls Tryz.prog 13 #[.string s, .pointer (some ⟨B, o, none⟩)] w (TupPost (.tuple #[.string ⟨#[]⟩, .int .i64 3]) w) := by
  have h60 := hs.1
  have hM := fun W => spec_matched' (s.extract a t) W (isW_sub hs a t)
  rw [hm] at hM
  have HM := Lib.hid hM
  have HX := Lib.hid hx
  obtain ⟨c0, c1, c2, c3, cl⟩ := id hx.all4
  have d1_ : decide ((s.size : Int) < (a : Int)) = false := decide_eq_false (by omega)
  have d2_ : decide ((s.size : Int) < (t : Int)) = false := decide_eq_false (by omega)
  have d3_ : decide ((t : Int) < (a : Int)) = false := decide_eq_false (by omega)
  have n1_ : ¬ (s.size < a) := by omega
  have n2_ : ¬ (s.size < t) := by omega
  have n3_ : ¬ (t < a) := by omega
  have hsl := slice_ab s a t ha ht
  have hl1 : decide ((60 : Int) < (s.size : Int) + 2) = true := decide_eq_true (by omega)
  clear hs hM hm hx
  generalize s.extract a t = b at *
  go_enter Tryz.func13, Tryz.ntmps13
  go_wp2_with fail
  go_big_quiet (fail)
  go_wp2_with fail
  go_upto_region 10 with fail
  refine wp_region_free (by kernel_rfl) [
      .val [] (fun _ => .string s),
      .val [] (fun _ => .pointer (some ⟨B, o, none⟩)),
      .val [] (fun _ => .pointer (some ⟨B, o, none⟩)),
      .val [] (fun _ => .pointer (some ⟨B, o + 1, none⟩)),
      .val [] (fun _ => .int .i64 (a : Int)),
      .val [] (fun _ => .pointer (some ⟨B, o, none⟩)),
      .val [] (fun _ => .pointer (some ⟨B, o, none⟩)),
      .val [] (fun _ => .pointer (some ⟨B, o + 2, none⟩)),
      .val [] (fun _ => .int .i64 (t : Int)),
      .val [] (fun _ => .string b),
      .val [] (fun _ => .bool true),
      .val [] (fun _ => .bool false)] ?hp ?hfw ?deps ?oks ?steps ?tail
  case hp => kernel_rfl
  case hfw => kernel_rfl
  case deps => kernel_rfl
  case oks =>
    intro F hF
    simp only [List.mem_cons, List.not_mem_nil, or_false] at hF
    rcases hF with rfl | rfl | rfl | rfl | rfl | rfl | rfl | rfl | rfl | rfl | rfl | rfl
    all_goals trivial
  case steps =>
    refine Steps.cons ?_ ?_
    · refine FreeStep.val [] _ rfl rfl fun u β W hW hn fr hfr K hK => ?_
      simp only [frameL, putL, Act.put, List.setIfInBounds_toArray, List.set_cons_zero, List.set_cons_succ, Nat.zero_add, Nat.reduceAdd] at hfr
      subst hfr
      have HK := Lib.hid hK
      clear hK hn
      go_simp
      have h9 := HK.out
      revert h9
      clear HK
      go_simp
      try exact id
    refine Steps.cons ?_ ?_
    · refine FreeStep.val [] _ rfl rfl fun u β W hW hn fr hfr K hK => ?_
      simp only [frameL, putL, Act.put, List.setIfInBounds_toArray, List.set_cons_zero, List.set_cons_succ, Nat.zero_add, Nat.reduceAdd] at hfr
      subst hfr
      have HK := Lib.hid hK
      clear hK hn
      go_simp
      have h9 := HK.out
      revert h9
      clear HK
      go_simp
      try exact id
    refine Steps.cons ?_ ?_
    · refine FreeStep.val [] _ rfl rfl fun u β W hW hn fr hfr K hK => ?_
      simp only [frameL, putL, Act.put, List.setIfInBounds_toArray, List.set_cons_zero, List.set_cons_succ, Nat.zero_add, Nat.reduceAdd] at hfr
      subst hfr
      have e1 : u 1 = .pointer (some ⟨B, o, none⟩) := Have.get (k := 1) hn rfl
      simp only [e1] at hK
      obtain ⟨e0, e1, e2, e3, el⟩ := id (EdAt.all4 (HX.out.laterN hW))
      have HK := Lib.hid hK
      clear hK hn
      go_simp
      have h9 := HK.out
      revert h9
      clear HK
      go_simp
      try exact id
    refine Steps.cons ?_ ?_
    · refine FreeStep.val [] _ rfl rfl fun u β W hW hn fr hfr K hK => ?_
      simp only [frameL, putL, Act.put, List.setIfInBounds_toArray, List.set_cons_zero, List.set_cons_succ, Nat.zero_add, Nat.reduceAdd] at hfr
      subst hfr
      have e2 : u 2 = .pointer (some ⟨B, o, none⟩) := Have.get (k := 2) hn rfl
      simp only [e2] at hK
      obtain ⟨e0, e1, e2, e3, el⟩ := id (EdAt.all4 (HX.out.laterN hW))
      have HK := Lib.hid hK
      clear hK hn
      go_simp
      have h9 := HK.out
      revert h9
      clear HK
      go_simp
      try exact id
    refine Steps.cons ?_ ?_
    · refine FreeStep.val [] _ rfl rfl fun u β W hW hn fr hfr K hK => ?_
      simp only [frameL, putL, Act.put, List.setIfInBounds_toArray, List.set_cons_zero, List.set_cons_succ, Nat.zero_add, Nat.reduceAdd] at hfr
      subst hfr
      have e3 : u 3 = .pointer (some ⟨B, o + 1, none⟩) := Have.get (k := 3) hn rfl
      simp only [e3] at hK
      obtain ⟨e0, e1, e2, e3, el⟩ := id (EdAt.all4 (HX.out.laterN hW))
      have HK := Lib.hid hK
      clear hK hn
      go_simp
      have h9 := HK.out
      revert h9
      clear HK
      go_simp
      try exact id
    refine Steps.cons ?_ ?_
    · refine FreeStep.val [] _ rfl rfl fun u β W hW hn fr hfr K hK => ?_
      simp only [frameL, putL, Act.put, List.setIfInBounds_toArray, List.set_cons_zero, List.set_cons_succ, Nat.zero_add, Nat.reduceAdd] at hfr
      subst hfr
      have HK := Lib.hid hK
      clear hK hn
      go_simp
      have h9 := HK.out
      revert h9
      clear HK
      go_simp
      try exact id
    refine Steps.cons ?_ ?_
    · refine FreeStep.val [] _ rfl rfl fun u β W hW hn fr hfr K hK => ?_
      simp only [frameL, putL, Act.put, List.setIfInBounds_toArray, List.set_cons_zero, List.set_cons_succ, Nat.zero_add, Nat.reduceAdd] at hfr
      subst hfr
      have e5 : u 5 = .pointer (some ⟨B, o, none⟩) := Have.get (k := 5) hn rfl
      simp only [e5] at hK
      obtain ⟨e0, e1, e2, e3, el⟩ := id (EdAt.all4 (HX.out.laterN hW))
      have HK := Lib.hid hK
      clear hK hn
      go_simp
      have h9 := HK.out
      revert h9
      clear HK
      go_simp
      try exact id
    refine Steps.cons ?_ ?_
    · refine FreeStep.val [] _ rfl rfl fun u β W hW hn fr hfr K hK => ?_
      simp only [frameL, putL, Act.put, List.setIfInBounds_toArray, List.set_cons_zero, List.set_cons_succ, Nat.zero_add, Nat.reduceAdd] at hfr
      subst hfr
      have e6 : u 6 = .pointer (some ⟨B, o, none⟩) := Have.get (k := 6) hn rfl
      simp only [e6] at hK
      obtain ⟨e0, e1, e2, e3, el⟩ := id (EdAt.all4 (HX.out.laterN hW))
      have HK := Lib.hid hK
      clear hK hn
      go_simp
      have h9 := HK.out
      revert h9
      clear HK
      go_simp
      try exact id
    refine Steps.cons ?_ ?_
    · refine FreeStep.val [] _ rfl rfl fun u β W hW hn fr hfr K hK => ?_
      simp only [frameL, putL, Act.put, List.setIfInBounds_toArray, List.set_cons_zero, List.set_cons_succ, Nat.zero_add, Nat.reduceAdd] at hfr
      subst hfr
      have e7 : u 7 = .pointer (some ⟨B, o + 2, none⟩) := Have.get (k := 7) hn rfl
      simp only [e7] at hK
      obtain ⟨e0, e1, e2, e3, el⟩ := id (EdAt.all4 (HX.out.laterN hW))
      have HK := Lib.hid hK
      clear hK hn
      go_simp
      have h9 := HK.out
      revert h9
      clear HK
      go_simp
      try exact id
    refine Steps.cons ?_ ?_
    · refine FreeStep.val [] _ rfl rfl fun u β W hW hn fr hfr K hK => ?_
      simp only [frameL, putL, Act.put, List.setIfInBounds_toArray, List.set_cons_zero, List.set_cons_succ, Nat.zero_add, Nat.reduceAdd] at hfr
      subst hfr
      have e0 : u 0 = .string s := Have.get (k := 0) hn rfl
      have e4 : u 4 = .int .i64 (a : Int) := Have.get (k := 4) hn rfl
      have e8 : u 8 = .int .i64 (t : Int) := Have.get (k := 8) hn rfl
      simp only [e0, e4, e8] at hK
      have HK := Lib.hid hK
      clear hK hn
      go_simp
      have h9 := HK.out
      revert h9
      clear HK
      go_simp
      try exact id
    refine Steps.cons ?_ ?_
    · refine FreeStep.calm [] _ rfl rfl fun u β W hW hn fr hfr K hK => ?_
      simp only [frameL, putL, Act.put, List.setIfInBounds_toArray, List.set_cons_zero, List.set_cons_succ, Nat.zero_add, Nat.reduceAdd] at hfr
      subst hfr
      have e9 : u 9 = .string b := Have.get (k := 9) hn rfl
      simp only [e9] at hK
      have HK := Lib.hid hK
      clear hK hn
      go_simp
      refine (HM.out _).mono ?_
      rintro e w1 ⟨rfl, hb1⟩
      have h9 := HK.out _ hb1
      revert h9
      clear HK
      go_simp
      try exact id
    refine Steps.cons ?_ ?_
    · refine FreeStep.val [] _ rfl rfl fun u β W hW hn fr hfr K hK => ?_
      simp only [frameL, putL, Act.put, List.setIfInBounds_toArray, List.set_cons_zero, List.set_cons_succ, Nat.zero_add, Nat.reduceAdd] at hfr
      subst hfr
      have e10 : u 10 = .bool true := Have.get (k := 10) hn rfl
      simp only [e10] at hK
      have HK := Lib.hid hK
      clear hK hn
      go_simp
      have h9 := HK.out
      revert h9
      clear HK
      go_simp
      try exact id
    exact Steps.nil
  case tail =>
    intro u_ β W hW hn hdis hbnd
    have z0 : u_ 0 = .string s := Have.get (k := 0) hn rfl
    have z1 : u_ 1 = .pointer (some ⟨B, o, none⟩) := Have.get (k := 1) hn rfl
    have z2 : u_ 2 = .pointer (some ⟨B, o, none⟩) := Have.get (k := 2) hn rfl
    have z3 : u_ 3 = .pointer (some ⟨B, o + 1, none⟩) := Have.get (k := 3) hn rfl
    have z4 : u_ 4 = .int .i64 (a : Int) := Have.get (k := 4) hn rfl
    have z5 : u_ 5 = .pointer (some ⟨B, o, none⟩) := Have.get (k := 5) hn rfl
    have z6 : u_ 6 = .pointer (some ⟨B, o, none⟩) := Have.get (k := 6) hn rfl
    have z7 : u_ 7 = .pointer (some ⟨B, o + 2, none⟩) := Have.get (k := 7) hn rfl
    have z8 : u_ 8 = .int .i64 (t : Int) := Have.get (k := 8) hn rfl
    have z9 : u_ 9 = .string b := Have.get (k := 9) hn rfl
    have z10 : u_ 10 = .bool true := Have.get (k := 10) hn rfl
    have z11 : u_ 11 = .bool false := Have.get (k := 11) hn rfl
    rw [← frameL_eq (by kernel_rfl)]
    clear hn hdis hbnd
    simp only [frameL, putL, Act.put, List.setIfInBounds_toArray, List.set_cons_zero, List.set_cons_succ, Nat.zero_add, Nat.reduceAdd, z0, z1, z2, z3, z4, z5, z6, z7, z8, z9, z10, z11]
    clear z0 z1 z2 z3 z4 z5 z6 z7 z8 z9 z10 z11
    have hW2 : Below w.heap.size w W := by first | exact hW | exact (below_drewN (Below.refl _ _) _).trans (hW.mono (Nat.le_refl _))
    go_wp2
    go_ret2
    exact ⟨rfl, hW2⟩

set_option maxHeartbeats 12800000 in
set_option maxRecDepth 100000 in
theorem spec_made_wrap_yes {B o : Nat} (a t : Nat) (s u : ByteArray) (w : World) (hs : IsW s) (hu : u.size = 2) (hx : EdAt w B o 4 a t u) (ha : a ≤ t) (ht : t ≤ s.size) (hm : mB (s.extract a t).data.toList = true) (hl : s.size + 2 ≤ 60) :
    Calls Tryz.prog 13 #[.string s, .pointer (some ⟨B, o, none⟩)] w (TupPost (.tuple #[.string (wrapW s u a t), .int .i64 0]) w) := by
  have h60 := hs.1
  have hM := fun W => spec_matched' (s.extract a t) W (isW_sub hs a t)
  rw [hm] at hM
  have HM := Lib.hid hM
  have HX := Lib.hid hx
  obtain ⟨c0, c1, c2, c3, cl⟩ := id hx.all4
  have d1_ : decide ((s.size : Int) < (a : Int)) = false := decide_eq_false (by omega)
  have d2_ : decide ((s.size : Int) < (t : Int)) = false := decide_eq_false (by omega)
  have d3_ : decide ((t : Int) < (a : Int)) = false := decide_eq_false (by omega)
  have n1_ : ¬ (s.size < a) := by omega
  have n2_ : ¬ (s.size < t) := by omega
  have n3_ : ¬ (t < a) := by omega
  have hsl := slice_ab s a t ha ht
  have hl1 : decide ((60 : Int) < (s.size : Int) + 2) = false := decide_eq_false (by omega)
  have hk1 := slice_head s a (by omega)
  have hk2 := slice_one u (by omega)
  have hk3 := slice_rest u (by omega)
  have hk4 := slice_from s t ht
  have q1 := ext_le s 0 a h60
  have q2 := one_le u
  have q3 := ext_le s a t h60
  have q4 := rest_le u hu
  have q5 := ext_le s t s.size h60
  unfold wrapW
  generalize s.extract 0 a = p1 at *
  generalize u.extract 0 1 = p2 at *
  generalize u.extract 1 u.size = p4 at *
  generalize s.extract t s.size = p5 at *
  have n1 : (p1 ++ p2).size ≤ 61 := by rw [ByteArray.size_append]; omega
  have n2 : (p1 ++ p2 ++ s.extract a t).size ≤ 121 := by rw [ByteArray.size_append]; omega
  have n3 : (p1 ++ p2 ++ s.extract a t ++ p4).size ≤ 122 := by rw [ByteArray.size_append]; omega
  clear hs hM hm hx
  generalize s.extract a t = b at *
  go_enter Tryz.func13, Tryz.ntmps13
  go_wp2_with fail
  go_big_quiet (fail)
  go_wp2_with fail
  go_upto_region 10 with fail
  refine wp_region_free (by kernel_rfl) [
      .val [] (fun _ => .string s),
      .val [] (fun _ => .pointer (some ⟨B, o, none⟩)),
      .val [] (fun _ => .pointer (some ⟨B, o, none⟩)),
      .val [] (fun _ => .pointer (some ⟨B, o + 1, none⟩)),
      .val [] (fun _ => .int .i64 (a : Int)),
      .val [] (fun _ => .pointer (some ⟨B, o, none⟩)),
      .val [] (fun _ => .pointer (some ⟨B, o, none⟩)),
      .val [] (fun _ => .pointer (some ⟨B, o + 2, none⟩)),
      .val [] (fun _ => .int .i64 (t : Int)),
      .val [] (fun _ => .string b),
      .val [] (fun _ => .bool true),
      .val [] (fun _ => .bool false)] ?hp ?hfw ?deps ?oks ?steps ?tail
  case hp => kernel_rfl
  case hfw => kernel_rfl
  case deps => kernel_rfl
  case oks =>
    intro F hF
    simp only [List.mem_cons, List.not_mem_nil, or_false] at hF
    rcases hF with rfl | rfl | rfl | rfl | rfl | rfl | rfl | rfl | rfl | rfl | rfl | rfl
    all_goals trivial
  case steps =>
    refine Steps.cons ?_ ?_
    · refine FreeStep.val [] _ rfl rfl fun u β W hW hn fr hfr K hK => ?_
      simp only [frameL, putL, Act.put, List.setIfInBounds_toArray, List.set_cons_zero, List.set_cons_succ, Nat.zero_add, Nat.reduceAdd] at hfr
      subst hfr
      have HK := Lib.hid hK
      clear hK hn
      go_simp
      have h9 := HK.out
      revert h9
      clear HK
      go_simp
      try exact id
    refine Steps.cons ?_ ?_
    · refine FreeStep.val [] _ rfl rfl fun u β W hW hn fr hfr K hK => ?_
      simp only [frameL, putL, Act.put, List.setIfInBounds_toArray, List.set_cons_zero, List.set_cons_succ, Nat.zero_add, Nat.reduceAdd] at hfr
      subst hfr
      have HK := Lib.hid hK
      clear hK hn
      go_simp
      have h9 := HK.out
      revert h9
      clear HK
      go_simp
      try exact id
    refine Steps.cons ?_ ?_
    · refine FreeStep.val [] _ rfl rfl fun u β W hW hn fr hfr K hK => ?_
      simp only [frameL, putL, Act.put, List.setIfInBounds_toArray, List.set_cons_zero, List.set_cons_succ, Nat.zero_add, Nat.reduceAdd] at hfr
      subst hfr
      have e1 : u 1 = .pointer (some ⟨B, o, none⟩) := Have.get (k := 1) hn rfl
      simp only [e1] at hK
      obtain ⟨e0, e1, e2, e3, el⟩ := id (EdAt.all4 (HX.out.laterN hW))
      have HK := Lib.hid hK
      clear hK hn
      go_simp
      have h9 := HK.out
      revert h9
      clear HK
      go_simp
      try exact id
    refine Steps.cons ?_ ?_
    · refine FreeStep.val [] _ rfl rfl fun u β W hW hn fr hfr K hK => ?_
      simp only [frameL, putL, Act.put, List.setIfInBounds_toArray, List.set_cons_zero, List.set_cons_succ, Nat.zero_add, Nat.reduceAdd] at hfr
      subst hfr
      have e2 : u 2 = .pointer (some ⟨B, o, none⟩) := Have.get (k := 2) hn rfl
      simp only [e2] at hK
      obtain ⟨e0, e1, e2, e3, el⟩ := id (EdAt.all4 (HX.out.laterN hW))
      have HK := Lib.hid hK
      clear hK hn
      go_simp
      have h9 := HK.out
      revert h9
      clear HK
      go_simp
      try exact id
    refine Steps.cons ?_ ?_
    · refine FreeStep.val [] _ rfl rfl fun u β W hW hn fr hfr K hK => ?_
      simp only [frameL, putL, Act.put, List.setIfInBounds_toArray, List.set_cons_zero, List.set_cons_succ, Nat.zero_add, Nat.reduceAdd] at hfr
      subst hfr
      have e3 : u 3 = .pointer (some ⟨B, o + 1, none⟩) := Have.get (k := 3) hn rfl
      simp only [e3] at hK
      obtain ⟨e0, e1, e2, e3, el⟩ := id (EdAt.all4 (HX.out.laterN hW))
      have HK := Lib.hid hK
      clear hK hn
      go_simp
      have h9 := HK.out
      revert h9
      clear HK
      go_simp
      try exact id
    refine Steps.cons ?_ ?_
    · refine FreeStep.val [] _ rfl rfl fun u β W hW hn fr hfr K hK => ?_
      simp only [frameL, putL, Act.put, List.setIfInBounds_toArray, List.set_cons_zero, List.set_cons_succ, Nat.zero_add, Nat.reduceAdd] at hfr
      subst hfr
      have HK := Lib.hid hK
      clear hK hn
      go_simp
      have h9 := HK.out
      revert h9
      clear HK
      go_simp
      try exact id
    refine Steps.cons ?_ ?_
    · refine FreeStep.val [] _ rfl rfl fun u β W hW hn fr hfr K hK => ?_
      simp only [frameL, putL, Act.put, List.setIfInBounds_toArray, List.set_cons_zero, List.set_cons_succ, Nat.zero_add, Nat.reduceAdd] at hfr
      subst hfr
      have e5 : u 5 = .pointer (some ⟨B, o, none⟩) := Have.get (k := 5) hn rfl
      simp only [e5] at hK
      obtain ⟨e0, e1, e2, e3, el⟩ := id (EdAt.all4 (HX.out.laterN hW))
      have HK := Lib.hid hK
      clear hK hn
      go_simp
      have h9 := HK.out
      revert h9
      clear HK
      go_simp
      try exact id
    refine Steps.cons ?_ ?_
    · refine FreeStep.val [] _ rfl rfl fun u β W hW hn fr hfr K hK => ?_
      simp only [frameL, putL, Act.put, List.setIfInBounds_toArray, List.set_cons_zero, List.set_cons_succ, Nat.zero_add, Nat.reduceAdd] at hfr
      subst hfr
      have e6 : u 6 = .pointer (some ⟨B, o, none⟩) := Have.get (k := 6) hn rfl
      simp only [e6] at hK
      obtain ⟨e0, e1, e2, e3, el⟩ := id (EdAt.all4 (HX.out.laterN hW))
      have HK := Lib.hid hK
      clear hK hn
      go_simp
      have h9 := HK.out
      revert h9
      clear HK
      go_simp
      try exact id
    refine Steps.cons ?_ ?_
    · refine FreeStep.val [] _ rfl rfl fun u β W hW hn fr hfr K hK => ?_
      simp only [frameL, putL, Act.put, List.setIfInBounds_toArray, List.set_cons_zero, List.set_cons_succ, Nat.zero_add, Nat.reduceAdd] at hfr
      subst hfr
      have e7 : u 7 = .pointer (some ⟨B, o + 2, none⟩) := Have.get (k := 7) hn rfl
      simp only [e7] at hK
      obtain ⟨e0, e1, e2, e3, el⟩ := id (EdAt.all4 (HX.out.laterN hW))
      have HK := Lib.hid hK
      clear hK hn
      go_simp
      have h9 := HK.out
      revert h9
      clear HK
      go_simp
      try exact id
    refine Steps.cons ?_ ?_
    · refine FreeStep.val [] _ rfl rfl fun u β W hW hn fr hfr K hK => ?_
      simp only [frameL, putL, Act.put, List.setIfInBounds_toArray, List.set_cons_zero, List.set_cons_succ, Nat.zero_add, Nat.reduceAdd] at hfr
      subst hfr
      have e0 : u 0 = .string s := Have.get (k := 0) hn rfl
      have e4 : u 4 = .int .i64 (a : Int) := Have.get (k := 4) hn rfl
      have e8 : u 8 = .int .i64 (t : Int) := Have.get (k := 8) hn rfl
      simp only [e0, e4, e8] at hK
      have HK := Lib.hid hK
      clear hK hn
      go_simp
      have h9 := HK.out
      revert h9
      clear HK
      go_simp
      try exact id
    refine Steps.cons ?_ ?_
    · refine FreeStep.calm [] _ rfl rfl fun u β W hW hn fr hfr K hK => ?_
      simp only [frameL, putL, Act.put, List.setIfInBounds_toArray, List.set_cons_zero, List.set_cons_succ, Nat.zero_add, Nat.reduceAdd] at hfr
      subst hfr
      have e9 : u 9 = .string b := Have.get (k := 9) hn rfl
      simp only [e9] at hK
      have HK := Lib.hid hK
      clear hK hn
      go_simp
      refine (HM.out _).mono ?_
      rintro e w1 ⟨rfl, hb1⟩
      have h9 := HK.out _ hb1
      revert h9
      clear HK
      go_simp
      try exact id
    refine Steps.cons ?_ ?_
    · refine FreeStep.val [] _ rfl rfl fun u β W hW hn fr hfr K hK => ?_
      simp only [frameL, putL, Act.put, List.setIfInBounds_toArray, List.set_cons_zero, List.set_cons_succ, Nat.zero_add, Nat.reduceAdd] at hfr
      subst hfr
      have e10 : u 10 = .bool true := Have.get (k := 10) hn rfl
      simp only [e10] at hK
      have HK := Lib.hid hK
      clear hK hn
      go_simp
      have h9 := HK.out
      revert h9
      clear HK
      go_simp
      try exact id
    exact Steps.nil
  case tail =>
    intro u_ β W hW hn hdis hbnd
    have z0 : u_ 0 = .string s := Have.get (k := 0) hn rfl
    have z1 : u_ 1 = .pointer (some ⟨B, o, none⟩) := Have.get (k := 1) hn rfl
    have z2 : u_ 2 = .pointer (some ⟨B, o, none⟩) := Have.get (k := 2) hn rfl
    have z3 : u_ 3 = .pointer (some ⟨B, o + 1, none⟩) := Have.get (k := 3) hn rfl
    have z4 : u_ 4 = .int .i64 (a : Int) := Have.get (k := 4) hn rfl
    have z5 : u_ 5 = .pointer (some ⟨B, o, none⟩) := Have.get (k := 5) hn rfl
    have z6 : u_ 6 = .pointer (some ⟨B, o, none⟩) := Have.get (k := 6) hn rfl
    have z7 : u_ 7 = .pointer (some ⟨B, o + 2, none⟩) := Have.get (k := 7) hn rfl
    have z8 : u_ 8 = .int .i64 (t : Int) := Have.get (k := 8) hn rfl
    have z9 : u_ 9 = .string b := Have.get (k := 9) hn rfl
    have z10 : u_ 10 = .bool true := Have.get (k := 10) hn rfl
    have z11 : u_ 11 = .bool false := Have.get (k := 11) hn rfl
    rw [← frameL_eq (by kernel_rfl)]
    clear hn hdis hbnd
    simp only [frameL, putL, Act.put, List.setIfInBounds_toArray, List.set_cons_zero, List.set_cons_succ, Nat.zero_add, Nat.reduceAdd, z0, z1, z2, z3, z4, z5, z6, z7, z8, z9, z10, z11]
    clear z0 z1 z2 z3 z4 z5 z6 z7 z8 z9 z10 z11
    have hW2 : Below w.heap.size w W := by first | exact hW | exact (below_drewN (Below.refl _ _) _).trans (hW.mono (Nat.le_refl _))
    obtain ⟨c0, c1, c2, c3, cl⟩ := id (EdAt.all4 (HX.out.later hW2))
    go_wp2
    go_big_quiet (fail)
    go_wp2
    go_ret2
    exact ⟨rfl, below_drewN hW2 _⟩

set_option maxHeartbeats 12800000 in
set_option maxRecDepth 100000 in
theorem spec_made_call_range {B o : Nat} (k a t : Nat) (s u : ByteArray) (w : World) (h60 : s.size ≤ 60) (hk : k = 3 ∨ k = 5) (hx : EdAt w B o k a t u) (h : s.size ≤ a) :
    Calls Tryz.prog 13 #[.string s, .pointer (some ⟨B, o, none⟩)] w (TupPost (.tuple #[.string ⟨#[]⟩, .int .i64 2]) w) := by
  obtain ⟨c0, c1, c2, c3, cl⟩ := id hx.all4
  have d1 : decide ((s.size : Int) ≤ (a : Int)) = true := decide_eq_true (by omega)
  clear hx
  obtain rfl | rfl := hk
  all_goals
    go_enter Tryz.func13, Tryz.ntmps13
    go_wp2
    go_ret2
    exact ⟨rfl, Below.refl _ _⟩

set_option maxHeartbeats 12800000 in
set_option maxRecDepth 100000 in
theorem spec_made_call_inner {B o : Nat} (k a t : Nat) (s u : ByteArray) (w : World) (hs : IsW s) (hk : k = 3 ∨ k = 5) (hx : EdAt w B o k a t u) (ha : a < s.size) (p : Int) (hp : (prts (ksOf s.data.toList))[a]? = some p) (hc : callB (s[a].toNat : Int) = false) :
    Calls Tryz.prog 13 #[.string s, .pointer (some ⟨B, o, none⟩)] w (TupPost (.tuple #[.string ⟨#[]⟩, .int .i64 4]) w) := by
  have h60 := hs.1
  obtain ⟨c0, c1, c2, c3, cl⟩ := id hx.all4
  have d1 : decide ((s.size : Int) ≤ (a : Int)) = false := decide_eq_false (by omega)
  have HX := Lib.hid hx
  have H := Lib.hid hs
  have Hp := Lib.hid hp
  have hix : (a : Int) < (s.size : Int) := by omega
  have hR := Below.refl w.heap.size w
  clear hx hs hp
  obtain rfl | rfl := hk
  all_goals
    go_enter Tryz.func13, Tryz.ntmps13
    go_wp2_with fail
    go_cut [7] (fun so wx => so = .int .i64 p ∧ Below w.heap.size w wx)
    case first =>
      go_region_with (go_at_call 15
                      refine (spec_partners _ _ H.out).mono ?_
                      rintro e w1 ⟨A, c, rfl, hr, hb⟩
                      obtain ⟨g, rfl⟩ : ∃ g, A = some ⟨g, 0, none⟩ := by
                        rcases hr.2 with ⟨_, h1⟩ | ⟨g, cap, cur, hv, _⟩
                        · omega
                        · simp only [Value.slice.injEq] at hv
                          exact ⟨g, hv.1⟩
                      have hcell := nums_cell hr a p Hp.out
                      have hd1 : Below w.heap.size w w1 := by first | exact hR.drew.trans (hb.mono hR.drew.size) | exact hb
                      obtain ⟨g0, g1, g2, g3, gl⟩ := id (HX.out.later hd1).all4)
      all_goals
        go_wp2_with fail
        go_meet
        exact ⟨rfl, hd1⟩
    case rest =>
      obtain ⟨rfl, hwc⟩ := hcut
      clear c0 c1 c2 c3 cl
      obtain ⟨c0, c1, c2, c3, cl⟩ := id (HX.out.later hwc).all4
      go_wp2_with fail
      refine (spec_call _ _).mono ?_
      rintro e w' ⟨rfl, rfl⟩
      rw [hc]
      go_wp2
      go_ret2
      exact ⟨rfl, hwc⟩
set_option maxHeartbeats 12800000 in
set_option maxRecDepth 100000 in
theorem spec_made_call_pend {B o : Nat} (k a t : Nat) (s u : ByteArray) (w : World) (hs : IsW s) (hk : k = 3 ∨ k = 5) (hx : EdAt w B o k a t u) (ha : a < s.size) (p : Int) (hp : (prts (ksOf s.data.toList))[a]? = some p) (hc : callB (s[a].toNat : Int) = true) (hn : p < 0) :
    Calls Tryz.prog 13 #[.string s, .pointer (some ⟨B, o, none⟩)] w (TupPost (.tuple #[.string ⟨#[]⟩, .int .i64 4]) w) := by
  have h60 := hs.1
  obtain ⟨c0, c1, c2, c3, cl⟩ := id hx.all4
  have d1 : decide ((s.size : Int) ≤ (a : Int)) = false := decide_eq_false (by omega)
  have HX := Lib.hid hx
  have H := Lib.hid hs
  have Hp := Lib.hid hp
  have hix : (a : Int) < (s.size : Int) := by omega
  have hR := Below.refl w.heap.size w
  have e1 : decide (p < 0) = true := decide_eq_true hn
  clear hx hs hp
  obtain rfl | rfl := hk
  all_goals
    go_enter Tryz.func13, Tryz.ntmps13
    go_wp2_with fail
    go_cut [7] (fun so wx => so = .int .i64 p ∧ Below w.heap.size w wx)
    case first =>
      go_region_with (go_at_call 15
                      refine (spec_partners _ _ H.out).mono ?_
                      rintro e w1 ⟨A, c, rfl, hr, hb⟩
                      obtain ⟨g, rfl⟩ : ∃ g, A = some ⟨g, 0, none⟩ := by
                        rcases hr.2 with ⟨_, h1⟩ | ⟨g, cap, cur, hv, _⟩
                        · omega
                        · simp only [Value.slice.injEq] at hv
                          exact ⟨g, hv.1⟩
                      have hcell := nums_cell hr a p Hp.out
                      have hd1 : Below w.heap.size w w1 := by first | exact hR.drew.trans (hb.mono hR.drew.size) | exact hb
                      obtain ⟨g0, g1, g2, g3, gl⟩ := id (HX.out.later hd1).all4)
      all_goals
        go_wp2_with fail
        go_meet
        exact ⟨rfl, hd1⟩
    case rest =>
      obtain ⟨rfl, hwc⟩ := hcut
      clear c0 c1 c2 c3 cl
      obtain ⟨c0, c1, c2, c3, cl⟩ := id (HX.out.later hwc).all4
      go_wp2_with fail
      refine (spec_call _ _).mono ?_
      rintro e w' ⟨rfl, rfl⟩
      rw [hc]
      go_wp2
      go_ret2
      exact ⟨rfl, hwc⟩
set_option maxHeartbeats 12800000 in
set_option maxRecDepth 100000 in
theorem spec_made_open {B o : Nat} (a t : Nat) (s u : ByteArray) (w : World) (hs : IsW s) (hx : EdAt w B o 3 a t u) (ha : a < s.size) (p : Int) (hp : (prts (ksOf s.data.toList))[a]? = some p) (m : Nat) (hpm : p = (m : Int)) (hm : a < m) (hms : m < s.size) (hc : callB (s[a].toNat : Int) = true) :
    Calls Tryz.prog 13 #[.string s, .pointer (some ⟨B, o, none⟩)] w (TupPost (.tuple #[.string (openW s a m), .int .i64 0]) w) := by
  have h60 := hs.1
  obtain ⟨c0, c1, c2, c3, cl⟩ := id hx.all4
  have d1 : decide ((s.size : Int) ≤ (a : Int)) = false := decide_eq_false (by omega)
  have HX := Lib.hid hx
  have H := Lib.hid hs
  have Hp := Lib.hid hp
  have hix : (a : Int) < (s.size : Int) := by omega
  have hR := Below.refl w.heap.size w
  subst hpm
  have e1 : decide ((m : Int) < 0) = false := decide_eq_false (by omega)
  have hl1 := slice_head s a (by omega)
  have hl2 := slice_mid s a m hm (by omega)
  have hl3 := slice_tail s m hms
  have q1 := ext_le s 0 a h60
  have q2 := ext_le s (a + 1) m h60
  have q3 := ext_le s (m + 1) s.size h60
  unfold openW
  generalize s.extract 0 a = p1 at *
  generalize s.extract (a + 1) m = p2 at *
  generalize s.extract (m + 1) s.size = p3 at *
  have n1 : (p1 ++ p2).size ≤ 120 := by rw [ByteArray.size_append]; omega
  clear hx hs hp
  go_enter Tryz.func13, Tryz.ntmps13
  go_wp2_with fail
  go_cut [7] (fun so wx => so = .int .i64 (m : Int) ∧ Below w.heap.size w wx)
  case first =>
    go_region_with (go_at_call 15
                    refine (spec_partners _ _ H.out).mono ?_
                    rintro e w1 ⟨A, c, rfl, hr, hb⟩
                    obtain ⟨g, rfl⟩ : ∃ g, A = some ⟨g, 0, none⟩ := by
                      rcases hr.2 with ⟨_, h1⟩ | ⟨g, cap, cur, hv, _⟩
                      · omega
                      · simp only [Value.slice.injEq] at hv
                        exact ⟨g, hv.1⟩
                    have hcell := nums_cell hr a (m : Int) Hp.out
                    have hd1 : Below w.heap.size w w1 := by first | exact hR.drew.trans (hb.mono hR.drew.size) | exact hb
                    obtain ⟨g0, g1, g2, g3, gl⟩ := id (HX.out.later hd1).all4)
    all_goals
      go_wp2_with fail
      go_meet
      exact ⟨rfl, hd1⟩
  case rest =>
    obtain ⟨rfl, hwc⟩ := hcut
    clear c0 c1 c2 c3 cl
    obtain ⟨c0, c1, c2, c3, cl⟩ := id (HX.out.later hwc).all4
    go_wp2_with fail
    refine (spec_call _ _).mono ?_
    rintro e w' ⟨rfl, rfl⟩
    rw [hc]
    go_wp2
    go_big_quiet (fail)
    go_wp2
    go_ret2
    exact ⟨rfl, below_drewN hwc _⟩
set_option maxHeartbeats 12800000 in
set_option maxRecDepth 100000 in
theorem spec_made_name {B o : Nat} (a t : Nat) (s u : ByteArray) (w : World) (hs : IsW s) (hx : EdAt w B o 5 a t u) (ha : a < s.size) (p : Int) (hp : (prts (ksOf s.data.toList))[a]? = some p) (m : Nat) (hpm : p = (m : Int)) (hm : a < m) (hms : m < s.size) (hc : callB (s[a].toNat : Int) = true) (hu : u.size = 2) :
    Calls Tryz.prog 13 #[.string s, .pointer (some ⟨B, o, none⟩)] w (TupPost (.tuple #[.string (nameW s u a m), .int .i64 0]) w) := by
  have h60 := hs.1
  obtain ⟨c0, c1, c2, c3, cl⟩ := id hx.all4
  have d1 : decide ((s.size : Int) ≤ (a : Int)) = false := decide_eq_false (by omega)
  have HX := Lib.hid hx
  have H := Lib.hid hs
  have Hp := Lib.hid hp
  have hix : (a : Int) < (s.size : Int) := by omega
  have hR := Below.refl w.heap.size w
  subst hpm
  have e1 : decide ((m : Int) < 0) = false := decide_eq_false (by omega)
  have hl1 := slice_head s a (by omega)
  have hl2 := slice_mid s a m hm (by omega)
  have hl3 := slice_tail s m hms
  have q1 := ext_le s 0 a h60
  have q2 := ext_le s (a + 1) m h60
  have q3 := ext_le s (m + 1) s.size h60
  have hk2 := slice_one u (by omega)
  have hk3 := slice_rest u (by omega)
  have q4 := one_le u
  have q5 := rest_le u hu
  unfold nameW
  generalize s.extract 0 a = p1 at *
  generalize s.extract (a + 1) m = p2 at *
  generalize s.extract (m + 1) s.size = p3 at *
  generalize u.extract 0 1 = p4 at *
  generalize u.extract 1 u.size = p5 at *
  have n1 : (p1 ++ p4).size ≤ 61 := by rw [ByteArray.size_append]; omega
  have n2 : (p1 ++ p4 ++ p2).size ≤ 121 := by rw [ByteArray.size_append]; omega
  have n3 : (p1 ++ p4 ++ p2 ++ p5).size ≤ 122 := by rw [ByteArray.size_append]; omega
  clear hx hs hp
  go_enter Tryz.func13, Tryz.ntmps13
  go_wp2_with fail
  go_cut [7] (fun so wx => so = .int .i64 (m : Int) ∧ Below w.heap.size w wx)
  case first =>
    go_region_with (go_at_call 15
                    refine (spec_partners _ _ H.out).mono ?_
                    rintro e w1 ⟨A, c, rfl, hr, hb⟩
                    obtain ⟨g, rfl⟩ : ∃ g, A = some ⟨g, 0, none⟩ := by
                      rcases hr.2 with ⟨_, h1⟩ | ⟨g, cap, cur, hv, _⟩
                      · omega
                      · simp only [Value.slice.injEq] at hv
                        exact ⟨g, hv.1⟩
                    have hcell := nums_cell hr a (m : Int) Hp.out
                    have hd1 : Below w.heap.size w w1 := by first | exact hR.drew.trans (hb.mono hR.drew.size) | exact hb
                    obtain ⟨g0, g1, g2, g3, gl⟩ := id (HX.out.later hd1).all4)
    all_goals
      go_wp2_with fail
      go_meet
      exact ⟨rfl, hd1⟩
  case rest =>
    obtain ⟨rfl, hwc⟩ := hcut
    clear c0 c1 c2 c3 cl
    obtain ⟨c0, c1, c2, c3, cl⟩ := id (HX.out.later hwc).all4
    go_wp2_with fail
    refine (spec_call _ _).mono ?_
    rintro e w' ⟨rfl, rfl⟩
    rw [hc]
    go_wp2
    go_big_quiet (fail)
    go_wp2
    go_ret2
    exact ⟨rfl, below_drewN hwc _⟩
end Go.Proofs.YtblgjedjljfmcaaGreatDoor
/- errors.As at an error that is none, and at one of the program's own type. -/
namespace Go.Proofs.YtblgjedjljfmcaaGreatDoor
open Go.RowKit Go.Extern.Stop Go.Stop Go.Extern
set_option linter.unusedVariables false

theorem as_nil (t : Value) (w : World) : Calls Tryz.prog 34 #[.nilIface, t] w fun e w' => e = .returned (.bool false) ∧ w' = w := by
  go_enter Tryz.func34, Tryz.ntmps34
  go_wp2
  go_ret
  exact ⟨rfl, rfl⟩

theorem rl_valueOfP (t : Addr) (w : World) : (ReflectliteValue.unpack (.iface 72 (.pointer (some t)))).run Tryz.prog w
    = .ok (.agg #[.pointer (some ⟨7, 72, none⟩), .pointer (some ⟨w.heap.size, 0, none⟩), .int .u64 150]) (w.alloc (.cells #[.pointer (some t)] 72)) := by kernel_rfl
theorem rl_typeP (a : Addr) (w : World) : (ReflectliteValue.methodAny (ReflectliteValue.valueError "reflectlite.Value.Type" 0) (fun t _ _ _ => ReflectliteType.toType t) #[.agg #[.pointer (some ⟨7, 72, none⟩), .pointer (some a), .int .u64 150]]).run Tryz.prog w
    = .ok (.iface 124 (.agg #[.pointer (some ⟨7, 72, none⟩)])) w := by kernel_rfl
theorem rl_mKind (h : Value) (w : World) : (Go.method 330 124 (.agg #[h]) "Kind").run Tryz.prog w = .ok (138, h) w := by kernel_rfl
theorem rl_kindP (w : World) : ((ReflectliteType.abiMethod fun t => (fun a : Nat => Value.int IntKind.u8 (a : Int)) <$> Rtype.kind t) #[.pointer (some ⟨7, 72, none⟩)]).run Tryz.prog w = .ok (.int .u8 22) w := by kernel_rfl
theorem rl_kindT (w : World) : ((ReflectliteType.abiMethod fun t => (fun a : Nat => Value.int IntKind.u8 (a : Int)) <$> Rtype.kind t) #[.pointer (some ⟨7, 70, none⟩)]).run Tryz.prog w = .ok (.int .u8 25) w := by kernel_rfl

theorem rlm (z : Sem Value) (f : TypeId → Addr → Nat → Nat → Sem Value) (v : Value) :
    ReflectliteValue.method z f #[v] = (do match ← ReflectliteValue.parts v with | none => z | some (t, a, fl) => f t a fl (fl % 32)) := rfl
theorem rl_partsP (a : Addr) (w : World) : (ReflectliteValue.parts (.agg #[.pointer (some ⟨7, 72, none⟩), .pointer (some a), .int .u64 150])).run Tryz.prog w = .ok (some (72, a, 150)) w := by kernel_rfl
theorem rl_isNilP (a p : Addr) (W : World) (ha : W.cell? a = some (.pointer (some p))) :
    (ReflectliteValue.method (ReflectliteValue.valueError "reflectlite.Value.IsNil" 0) ReflectliteValue.isNil #[.agg #[.pointer (some ⟨7, 72, none⟩), .pointer (some a), .int .u64 150]]).run Tryz.prog W = .ok (.bool false) W := by
  rw [rlm]
  simp only [Sem.run_bind, rl_partsP, Result.andThen]
  simp [ReflectliteValue.isNil, loadVar, isAgg, underlying, Tryz.underlying72, ha, Result.andThen]
theorem rl_mElem (h : Value) (w : World) : (Go.method 330 124 (.agg #[h]) "Elem").run Tryz.prog w = .ok (170, .agg #[h]) w := by kernel_rfl
theorem rl_mImplements (h : Value) (w : World) : (Go.method 330 124 (.agg #[h]) "Implements").run Tryz.prog w = .ok (171, .agg #[h]) w := by kernel_rfl
theorem rl_mAssignableTo (h : Value) (w : World) : (Go.method 330 124 (.agg #[h]) "AssignableTo").run Tryz.prog w = .ok (168, .agg #[h]) w := by kernel_rfl
theorem rl_elemP (w : World) : (ReflectliteType.method ReflectliteType.elem #[.agg #[.pointer (some ⟨7, 72, none⟩)]]).run Tryz.prog w = .ok (.iface 124 (.agg #[.pointer (some ⟨7, 70, none⟩)])) w := by kernel_rfl
theorem rl_implementsT (w : World) : (ReflectliteType.relation "Implements" ReflectliteType.implements_ #[.agg #[.pointer (some ⟨7, 70, none⟩)], .iface 124 (.agg #[.pointer (some ⟨7, 43, none⟩)])]).run Tryz.prog w = .ok (.bool true) w := by kernel_rfl
theorem rl_typeOfT (v : Value) (w : World) : (ReflectliteType.typeOf #[.iface 70 v]).run Tryz.prog w = .ok (.iface 124 (.agg #[.pointer (some ⟨7, 70, none⟩)])) w := by kernel_rfl
theorem rl_assignableT (w : World) : (ReflectliteType.relation "AssignableTo" ReflectliteType.assignableTo #[.agg #[.pointer (some ⟨7, 70, none⟩)], .iface 124 (.agg #[.pointer (some ⟨7, 70, none⟩)])]).run Tryz.prog w = .ok (.bool true) w := by kernel_rfl
theorem rl_valueOfT (c : Int) (w : World) : (ReflectliteValue.unpack (.iface 70 (.agg #[.int .i64 c]))).run Tryz.prog w
    = .ok (.agg #[.pointer (some ⟨7, 70, none⟩), .pointer (some ⟨w.heap.size, 0, none⟩), .int .u64 153]) (w.alloc (.cells #[.int .i64 c] 70)) := by kernel_rfl
theorem rl_elemOfP (w : World) : (Rtype.elem? 72).run Tryz.prog w = .ok (some 70) w := by kernel_rfl
theorem rl_mkT (p : Addr) (w : World) : (ReflectliteValue.mk 70 p ReflectliteValue.flagAddr).run Tryz.prog w = .ok (.agg #[.pointer (some ⟨7, 70, none⟩), .pointer (some p), .int .u64 409]) w := by kernel_rfl
theorem rl_elemVP (a p : Addr) (W : World) (ha : W.cell? a = some (.pointer (some p))) :
    (ReflectliteValue.method (ReflectliteValue.valueError "reflectlite.Value.Elem" 0) ReflectliteValue.elem #[.agg #[.pointer (some ⟨7, 72, none⟩), .pointer (some a), .int .u64 150]]).run Tryz.prog W
      = .ok (.agg #[.pointer (some ⟨7, 70, none⟩), .pointer (some p), .int .u64 409]) W := by
  rw [rlm]
  simp only [Sem.run_bind, rl_partsP, Result.andThen]
  simp [ReflectliteValue.elem, loadVar, isAgg, underlying, Tryz.underlying72, ha, Result.andThen, rl_elemOfP, rl_mkT]
theorem rls (v x : Value) : ReflectliteValue.set #[v, x] = (do
    let (some (dst, a, fl), some (src, b, _)) := (← ReflectliteValue.parts v, ← ReflectliteValue.parts x)
      | unsupported (.noEntry "extern/(internal/reflectlite.Value).Set.zeroValue")
    if fl / ReflectliteValue.flagAddr % 2 == 0 then unsupported (.noEntry "extern/(internal/reflectlite.Value).Set.unaddressable")
    let val ← loadVar src b
    if ← Rtype.directlyAssignable dst src then storeVar dst a val
    else if ← Rtype.implements dst src then
      if (← Rtype.kind src) == 20 then
        match val with
        | .nilIface => unsupported (.noEntry "extern/reflectlite: a nil value of one interface type handed on as a value of another")
        | _ => storeVar dst a val
      else storeVar dst a (.iface src val)
    else panicString ("reflectlite.Set: value of type " ++ (← Rtype.spelt src) ++ " is not assignable to type " ++ (← Rtype.spelt dst))
    pure (.tuple #[])) := rfl
theorem rl_partsTa (a : Addr) (w : World) : (ReflectliteValue.parts (.agg #[.pointer (some ⟨7, 70, none⟩), .pointer (some a), .int .u64 409])).run Tryz.prog w = .ok (some (70, a, 409)) w := by kernel_rfl
theorem rl_partsT (a : Addr) (w : World) : (ReflectliteValue.parts (.agg #[.pointer (some ⟨7, 70, none⟩), .pointer (some a), .int .u64 153])).run Tryz.prog w = .ok (some (70, a, 153)) w := by kernel_rfl
theorem rl_directT (w : World) : (Rtype.directlyAssignable 70 70).run Tryz.prog w = .ok true w := by kernel_rfl

theorem rl_setT (tb sb : Nat) (c : Int) (old : Value) (W : World) (hb : W.cell? ⟨sb, 0, none⟩ = some (.int .i64 c)) (ht : W.cell? ⟨tb, 0, none⟩ = some old) (hf : W.frozen? ⟨tb, 0, none⟩ = false) :
    (ReflectliteValue.set #[.agg #[.pointer (some ⟨7, 70, none⟩), .pointer (some ⟨tb, 0, none⟩), .int .u64 409], .agg #[.pointer (some ⟨7, 70, none⟩), .pointer (some ⟨sb, 0, none⟩), .int .u64 153]]).run Tryz.prog W
      = .ok (.tuple #[]) (W.setCell ⟨tb, 0, none⟩ (.int .i64 c)) := by
  rw [rls]
  simp only [Sem.run_bind, rl_partsTa, rl_partsT, Result.andThen]
  have hl : (loadCells ⟨sb, 0, none⟩ 1).run Tryz.prog W = .ok #[.int .i64 c] W := by simp [go_sem, hb, Addr.add]
  have hst : (storeCells ⟨tb, 0, none⟩ [.int .i64 c]).run Tryz.prog W = .ok () (W.setCell ⟨tb, 0, none⟩ (.int .i64 c)) := by
    simp [storeCells, Addr.add]
    rw [run_store Tryz.prog W ⟨tb, 0, none⟩ _ _ (by rfl)]
    simp [ht, hf]
  simp [ReflectliteValue.flagAddr, loadVar, isAgg, underlying, Tryz.underlying70, Result.andThen, rl_directT, storeVar, Value.cells, hl, hst, Tryz.sizeOf70]
set_option maxHeartbeats 8000000 in
set_option maxRecDepth 100000 in
theorem as_hit (tb : Nat) (c : Int) (old : Value) (w : World) (hg : w.cell? ⟨0, 0, none⟩ = some (.iface 124 (.agg #[.pointer (some ⟨7, 43, none⟩)]))) (ht0 : w.cell? ⟨tb, 0, none⟩ = some old) (hf0 : w.frozen? ⟨tb, 0, none⟩ = false) :
    Calls Tryz.prog 34 #[.iface 70 (.agg #[.int .i64 c]), .iface 72 (.pointer (some ⟨tb, 0, none⟩))] w fun ev w' => ev = .returned (.bool true) ∧ w' = ((((w.alloc (.cells #[.pointer (some ⟨tb, 0, none⟩)] 72)).alloc (.cells #[.pointer (some ⟨7, 72, none⟩), .pointer (some ⟨w.heap.size, 0, none⟩), .int .u64 150] 100)).alloc (.cells #[.pointer (some ⟨7, 72, none⟩), .pointer (some ⟨w.heap.size, 0, none⟩), .int .u64 150] 100)).alloc (.cells #[.int .i64 c] 70)).setCell ⟨tb, 0, none⟩ (.int .i64 c) := by
  have h6 := @run_callFunc_extern Tryz.prog 51 _ (fun args => ReflectliteValue.unpack (args.getD 0 (.tuple #[]))) Tryz.func51 (by kernel_rfl) (by kernel_rfl) (by kernel_rfl) (by kernel_rfl)
  have h7 := @run_callFunc_extern Tryz.prog 52 _ (ReflectliteValue.methodAny (ReflectliteValue.valueError "reflectlite.Value.Type" 0) (fun t _ _ _ => ReflectliteType.toType t)) Tryz.func52 (by kernel_rfl) (by kernel_rfl) (by kernel_rfl) (by kernel_rfl)
  have h8 := @run_callFunc_extern Tryz.prog 53 _ (ReflectliteValue.method (ReflectliteValue.valueError "reflectlite.Value.IsNil" 0) ReflectliteValue.isNil) Tryz.func53 (by kernel_rfl) (by kernel_rfl) (by kernel_rfl) (by kernel_rfl)
  have h27 := @run_callFunc_extern Tryz.prog 138 _ (ReflectliteType.abiMethod fun t => do pure (.int .u8 (← Rtype.kind t))) Tryz.func138 (by kernel_rfl) (by kernel_rfl) (by kernel_rfl) (by kernel_rfl)
  have h37 := @run_callFunc_extern Tryz.prog 170 _ (ReflectliteType.method ReflectliteType.elem) Tryz.func170 (by kernel_rfl) (by kernel_rfl) (by kernel_rfl) (by kernel_rfl)
  have h38 := @run_callFunc_extern Tryz.prog 171 _ (ReflectliteType.relation "Implements" ReflectliteType.implements_) Tryz.func171 (by kernel_rfl) (by kernel_rfl) (by kernel_rfl) (by kernel_rfl)
  have h10 := @run_callFunc_extern Tryz.prog 68 _ ReflectliteType.typeOf Tryz.func68 (by kernel_rfl) (by kernel_rfl) (by kernel_rfl) (by kernel_rfl)
  have h35 := @run_callFunc_extern Tryz.prog 168 _ (ReflectliteType.relation "AssignableTo" ReflectliteType.assignableTo) Tryz.func168 (by kernel_rfl) (by kernel_rfl) (by kernel_rfl) (by kernel_rfl)
  have h11 := @run_callFunc_extern Tryz.prog 69 _ (ReflectliteValue.method (ReflectliteValue.valueError "reflectlite.Value.Elem" 0) ReflectliteValue.elem) Tryz.func69 (by kernel_rfl) (by kernel_rfl) (by kernel_rfl) (by kernel_rfl)
  have h12 := @run_callFunc_extern Tryz.prog 70 _ ReflectliteValue.set Tryz.func70 (by kernel_rfl) (by kernel_rfl) (by kernel_rfl) (by kernel_rfl)
  have tO := rl_typeOfT
  have mA := rl_mAssignableTo
  have a25 := rl_assignableT
  have v25 := rl_valueOfT
  have f6 := rl_valueOfP
  have f7 := rl_typeP
  have mK := rl_mKind
  have mE := rl_mElem
  have mI := rl_mImplements
  have k27 := rl_kindP
  have k25 := rl_kindT
  have e27 := rl_elemP
  have i25 := rl_implementsT
  have n8 := rl_isNilP ⟨w.heap.size, 0, none⟩ ⟨tb, 0, none⟩ ((w.alloc (.cells #[.pointer (some ⟨tb, 0, none⟩)] 72)).alloc (.cells #[.pointer (some ⟨7, 72, none⟩), .pointer (some ⟨w.heap.size, 0, none⟩), .int .u64 150] 100)) (by simp)
  have hlt : 0 < w.heap.size := World.block_lt_of_cell? _ _ hg
  have hg2 : ((w.alloc (.cells #[.pointer (some ⟨tb, 0, none⟩)] 72)).alloc (.cells #[.pointer (some ⟨7, 72, none⟩), .pointer (some ⟨w.heap.size, 0, none⟩), .int .u64 150] 100)).cell? ⟨0, 0, none⟩ = some (.iface 124 (.agg #[.pointer (some ⟨7, 43, none⟩)])) := by
    rw [World.cell?_alloc_lt _ _ ⟨0, 0, none⟩ (by simp), World.cell?_alloc_lt _ _ ⟨0, 0, none⟩ hlt]; exact hg
  have htl : tb < w.heap.size := World.block_lt_of_cell? _ _ ht0
  have el := rl_elemVP ⟨w.heap.size, 0, none⟩ ⟨tb, 0, none⟩ (((w.alloc (.cells #[.pointer (some ⟨tb, 0, none⟩)] 72)).alloc (.cells #[.pointer (some ⟨7, 72, none⟩), .pointer (some ⟨w.heap.size, 0, none⟩), .int .u64 150] 100)).alloc (.cells #[.pointer (some ⟨7, 72, none⟩), .pointer (some ⟨w.heap.size, 0, none⟩), .int .u64 150] 100)) (by rw [World.cell?_alloc_lt _ _ ⟨w.heap.size, 0, none⟩ (by simp; omega)]; simp)
  have st := rl_setT tb (w.heap.size + 1 + 1 + 1) c old ((((w.alloc (.cells #[.pointer (some ⟨tb, 0, none⟩)] 72)).alloc (.cells #[.pointer (some ⟨7, 72, none⟩), .pointer (some ⟨w.heap.size, 0, none⟩), .int .u64 150] 100)).alloc (.cells #[.pointer (some ⟨7, 72, none⟩), .pointer (some ⟨w.heap.size, 0, none⟩), .int .u64 150] 100)).alloc (.cells #[.int .i64 c] 70))
    (by rw [World.cell?_alloc_at _ _ _ _ (by simp)]; rfl)
    (by rw [World.cell?_alloc_lt _ _ ⟨tb, 0, none⟩ (by simp; omega), World.cell?_alloc_lt _ _ ⟨tb, 0, none⟩ (by simp; omega), World.cell?_alloc_lt _ _ ⟨tb, 0, none⟩ (by simp; omega), World.cell?_alloc_lt _ _ ⟨tb, 0, none⟩ htl]; exact ht0)
    (by rw [World.frozen?_alloc_old _ _ ⟨tb, 0, none⟩ (by simp; omega), World.frozen?_alloc_old _ _ ⟨tb, 0, none⟩ (by simp; omega), World.frozen?_alloc_old _ _ ⟨tb, 0, none⟩ (by simp; omega), World.frozen?_alloc_old _ _ ⟨tb, 0, none⟩ (Nat.ne_of_lt htl)]; exact hf0)
  go_enter Tryz.func34, Tryz.ntmps34
  go_wp2
  refine wp_loop_rounds 1 ?_
  rw [rounds_succ]
  go_wp2
  go_ret
  exact ⟨rfl, rfl⟩
end Go.Proofs.YtblgjedjljfmcaaGreatDoor
