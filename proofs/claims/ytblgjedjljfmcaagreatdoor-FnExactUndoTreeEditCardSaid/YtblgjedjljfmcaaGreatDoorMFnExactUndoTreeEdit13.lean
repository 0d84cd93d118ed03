import Derived.Test.YtblgjedjljfmcaaGreatDoorMFnExactUndoTreeEdit12
import Derived.Test.YtblgjedjljfmcaaGreatDoorMFnExactUndoTreeEdit8
/- What an edit makes of a word, of the program: errors, errors.As, and the five kinds. -/
namespace Go.Proofs.YtblgjedjljfmcaaGreatDoor
open Go.RowKit
set_option linter.unusedVariables false

/-- The error of a code. -/
def errV (c : Int) : Value := if c = 0 then .nilIface else .iface 70 (.agg #[.int .i64 c])
theorem impl_errorOf (c : Int) (w : World) : Calls Tryz.prog 144 #[.int .i64 c] w fun e w' => e = .returned (errV c) ∧ w = w' := by
  by_cases h : c = 0
  · subst h
    show Calls _ _ _ _ fun e w' => e = .returned .nilIface ∧ w = w'
    go_enter Tryz.func144, Tryz.ntmps144
    go_wp2
    go_ret
    exact ⟨rfl, rfl⟩
  · rw [errV, if_neg h]
    have e5 : (c == 0) = false := by simpa using h
    have e6 : decide (c = 0) = false := decide_eq_false h
    go_enter Tryz.func144, Tryz.ntmps144
    go_wp2
    go_ret
    exact ⟨rfl, rfl⟩
theorem as_hit' (tb : Nat) (c : Int) (old : Value) (w : World) (hg : w.cell? ⟨0, 0, none⟩ = some (.iface 124 (.agg #[.pointer (some ⟨7, 43, none⟩)]))) (ht0 : w.cell? ⟨tb, 0, none⟩ = some old) (hf0 : w.frozen? ⟨tb, 0, none⟩ = false) :
    Calls Tryz.prog 34 #[.iface 70 (.agg #[.int .i64 c]), .iface 72 (.pointer (some ⟨tb, 0, none⟩))] w fun ev w' => ev = .returned (.bool true) ∧ w'.cell? ⟨tb, 0, none⟩ = some (.int .i64 c) ∧ Below tb w w' := by
  have htl : tb < w.heap.size := World.block_lt_of_cell? _ _ ht0
  refine (as_hit tb c old w hg ht0 hf0).mono ?_
  rintro ev w' ⟨rfl, rfl⟩
  refine ⟨rfl, World.cell?_setCell_same (u := old) _ _ _ ?_, ?_⟩
  · rw [World.cell?_alloc_lt _ _ ⟨tb, 0, none⟩ (by simp; omega), World.cell?_alloc_lt _ _ ⟨tb, 0, none⟩ (by simp; omega), World.cell?_alloc_lt _ _ ⟨tb, 0, none⟩ (by simp; omega), World.cell?_alloc_lt _ _ ⟨tb, 0, none⟩ htl]
    exact ht0
  · exact (((((Below.refl tb w).alloc (by omega) _).alloc (by simp; omega) _).alloc (by simp; omega) _).alloc (by simp; omega) _).setCell (p := ⟨tb, 0, none⟩) (Nat.le_refl _) _
set_option maxHeartbeats 3200000 in
theorem impl_codeOf (c : Int) (w : World) (hg : w.cell? ⟨0, 0, none⟩ = some (.iface 124 (.agg #[.pointer (some ⟨7, 43, none⟩)]))) : Calls Tryz.prog 18 #[errV c] w (TupPost (.int .i64 c) w) := by
  have hB := (Below.refl w.heap.size w).alloc (Nat.le_refl _) (.cells #[.int .i64 0] 70)
  by_cases h : c = 0
  · subst h
    have HB := Lib.hid hB
    show Calls _ _ #[.nilIface] _ _
    clear hB hg
    go_enter Tryz.func18, Tryz.ntmps18
    go_wp2_with fail
    refine (as_nil _ _).mono ?_
    rintro e w' ⟨rfl, rfl⟩
    go_wp2
    go_ret
    exact ⟨rfl, HB.out⟩
  · rw [errV, if_neg h]
    have H := as_hit' w.heap.size c (.int .i64 0) (w.alloc (.cells #[.int .i64 0] 70)) (by rw [World.cell?_alloc_lt _ _ ⟨0, 0, none⟩ (World.block_lt_of_cell? _ _ hg)]; exact hg) (by simp) (by simp)
    have HH := Lib.hid (And.intro H hB)
    clear H hB hg
    go_enter Tryz.func18, Tryz.ntmps18
    go_wp2_with fail
    refine HH.out.1.mono ?_
    rintro e w' ⟨rfl, hc, hb⟩
    have HB := Lib.hid (HH.out.2.trans hb)
    clear hb
    go_wp2
    go_ret
    exact ⟨rfl, HB.out⟩

set_option maxHeartbeats 6400000 in
set_option maxRecDepth 100000 in
theorem impl_renamed_bad (s x y : ByteArray) (i q c : Int) (w : World) (hc : c = 2 ∨ c = 4) (h : ∀ w, Calls Tryz.prog 152 #[.string s, .int .i64 i] w (TupPost (cloV q c) w)) :
    Calls Tryz.prog 155 #[.string s, .int .i64 i, .string x, .string y] w (TupPost (.tuple #[.string ⟨#[]⟩, errV c]) w) := by
  simp only [cloV] at h
  have H := Lib.hid h
  have HE := Lib.hid (fun W => impl_errorOf c W)
  generalize errV c = E at *
  clear h
  rcases hc with rfl | rfl
  all_goals
    go_enter Tryz.func155, Tryz.ntmps155
    go_wp2_with fail
    refine (H.out _).mono ?_
    rintro e w1 ⟨rfl, hb⟩
    go_wp2_with fail
    refine (HE.out _).mono ?_
    rintro e w2 ⟨rfl, rfl⟩
    go_wp2
    go_ret2
    exact ⟨rfl, hb⟩

set_option maxHeartbeats 6400000 in
set_option maxRecDepth 100000 in
theorem impl_renamed_yes (s x y : ByteArray) (k m : Nat) (w : World) (hkm : k < m) (hm : m < s.size) (h60 : s.size ≤ 60) (hx : x.size ≤ 1) (hy : y.size ≤ 1) (h : ∀ w, Calls Tryz.prog 152 #[.string s, .int .i64 (k : Int)] w (TupPost (cloV (m : Int) 0) w)) :
    Calls Tryz.prog 155 #[.string s, .int .i64 (k : Int), .string x, .string y] w (TupPost (.tuple #[.string (s.extract 0 k ++ x ++ s.extract (k + 1) m ++ y ++ s.extract (m + 1) s.size), .nilIface]) w) := by
  simp only [cloV] at h
  have H := Lib.hid h
  clear h
  have hl1 := slice_head s k (by omega)
  have hl2 := slice_mid s k m hkm (by omega)
  have hl3 := slice_tail s m hm
  have q1 := ext_le s 0 k h60
  have q2 := ext_le s (k + 1) m h60
  have q3 := ext_le s (m + 1) s.size h60
  generalize s.extract 0 k = p1 at *
  generalize s.extract (k + 1) m = p2 at *
  generalize s.extract (m + 1) s.size = p3 at *
  have n1 : (p1 ++ x).size ≤ 61 := by rw [ByteArray.size_append]; omega
  have n2 : (p1 ++ x ++ p2).size ≤ 121 := by rw [ByteArray.size_append]; omega
  have n3 : (p1 ++ x ++ p2 ++ y).size ≤ 122 := by rw [ByteArray.size_append]; omega
  go_enter Tryz.func155, Tryz.ntmps155
  go_wp2_with fail
  refine (H.out _).mono ?_
  rintro e w1 ⟨rfl, hb⟩
  go_wp2
  go_quiet (fail)
  go_wp2
  go_ret2
  exact ⟨rfl, below_drewN hb _⟩

set_option maxHeartbeats 6400000 in
set_option maxRecDepth 100000 in
theorem impl_put (a t : Int) (s u r : ByteArray) (c : Int) (w : World) (hP : ∀ w, Calls Tryz.prog 143 #[.string s, .int .i64 a, .string u] w (TupPost (.tuple #[.string r, .int .i64 c]) w)) :
    Calls Tryz.prog 141 #[.agg (EdA 1 a t u), .string s] w (TupPost (.tuple #[.string r, errV c]) w) := by
  have hB := (Below.refl w.heap.size w).alloc (Nat.le_refl _) (.cells (EdA 1 a t u) 64)
  have hx := Bx.new w 64 (EdA 1 a t u)
  have HB := Lib.hid (And.intro hB hx)
  clear hB hx
  have HP := Lib.hid hP
  have HE := Lib.hid (fun W => impl_errorOf c W)
  generalize errV c = E at *
  clear hP
  go_enter Tryz.func141, Tryz.ntmps141
  go_wp2_with fail
  refine (HP.out _).mono ?_
  rintro e w1 ⟨rfl, hb⟩
  have HB1 := Lib.hid (HB.out.1.trans (hb.mono HB.out.1.size))
  clear hb
  go_wp2_with fail
  refine (HE.out _).mono ?_
  rintro e w2 ⟨rfl, rfl⟩
  go_wp2
  go_ret2
  exact ⟨rfl, HB1.out⟩

set_option maxHeartbeats 6400000 in
set_option maxRecDepth 100000 in
theorem impl_cut (a t : Int) (s u r : ByteArray) (c : Int) (w : World) (hP : ∀ w, Calls Tryz.prog 151 #[.string s, .int .i64 a] w (TupPost (.tuple #[.string r, .int .i64 c]) w)) :
    Calls Tryz.prog 149 #[.agg (EdA 2 a t u), .string s] w (TupPost (.tuple #[.string r, errV c]) w) := by
  have hB := (Below.refl w.heap.size w).alloc (Nat.le_refl _) (.cells (EdA 2 a t u) 65)
  have hx := Bx.new w 65 (EdA 2 a t u)
  have HB := Lib.hid (And.intro hB hx)
  clear hB hx
  have HP := Lib.hid hP
  have HE := Lib.hid (fun W => impl_errorOf c W)
  generalize errV c = E at *
  clear hP
  go_enter Tryz.func149, Tryz.ntmps149
  go_wp2_with fail
  refine (HP.out _).mono ?_
  rintro e w1 ⟨rfl, hb⟩
  have HB1 := Lib.hid (HB.out.1.trans (hb.mono HB.out.1.size))
  clear hb
  go_wp2_with fail
  refine (HE.out _).mono ?_
  rintro e w2 ⟨rfl, rfl⟩
  go_wp2
  go_ret2
  exact ⟨rfl, HB1.out⟩

set_option maxHeartbeats 6400000 in
set_option maxRecDepth 100000 in
theorem impl_open (a t : Int) (s u r : ByteArray) (E : Value) (w : World) (hP : ∀ w, Calls Tryz.prog 155 #[.string s, .int .i64 a, .string ⟨#[]⟩, .string ⟨#[]⟩] w (TupPost (.tuple #[.string r, E]) w)) :
    Calls Tryz.prog 153 #[.agg (EdA 3 a t u), .string s] w (TupPost (.tuple #[.string r, E]) w) := by
  have hB := (Below.refl w.heap.size w).alloc (Nat.le_refl _) (.cells (EdA 3 a t u) 66)
  have hx := Bx.new w 66 (EdA 3 a t u)
  have HB := Lib.hid (And.intro hB hx)
  clear hB hx
  have HP := Lib.hid hP
  clear hP
  go_enter Tryz.func153, Tryz.ntmps153
  go_wp2_with fail
  refine (HP.out _).mono ?_
  rintro e w1 ⟨rfl, hb⟩
  have HB1 := Lib.hid (HB.out.1.trans (hb.mono HB.out.1.size))
  clear hb
  go_wp2
  go_ret2
  exact ⟨rfl, HB1.out⟩

set_option maxHeartbeats 6400000 in
set_option maxRecDepth 100000 in
theorem impl_name (a t : Int) (s tx r : ByteArray) (E : Value) (w : World) (hu : tx.size = 2) (hP : ∀ w, Calls Tryz.prog 155 #[.string s, .int .i64 a, .string (tx.extract 0 1), .string (tx.extract 1 tx.size)] w (TupPost (.tuple #[.string r, E]) w)) :
    Calls Tryz.prog 159 #[.agg (EdA 5 a t tx), .string s] w (TupPost (.tuple #[.string r, E]) w) := by
  have hB := (Below.refl w.heap.size w).alloc (Nat.le_refl _) (.cells (EdA 5 a t tx) 68)
  have hx := Bx.new w 68 (EdA 5 a t tx)
  have HB := Lib.hid (And.intro hB hx)
  clear hB hx
  have HP := Lib.hid hP
  have hk2 := slice_one tx (by omega)
  have hk3 := slice_rest tx (by omega)
  generalize tx.extract 0 1 = p1 at *
  generalize tx.extract 1 tx.size = p2 at *
  clear hP
  go_enter Tryz.func159, Tryz.ntmps159
  go_wp2_with fail
  go_upto_region 1 with fail
  refine wp_region_free (by kernel_rfl) [
      .val [] (fun _ => .string s),
      .val [] (fun _ => .pointer (some ⟨w.heap.size, 1, none⟩)),
      .val [] (fun _ => .int .i64 a),
      .val [] (fun _ => .pointer (some ⟨w.heap.size, 3, none⟩)),
      .val [] (fun _ => .string tx),
      .val [] (fun _ => .string p1),
      .val [] (fun _ => .pointer (some ⟨w.heap.size, 3, none⟩)),
      .val [] (fun _ => .string tx),
      .val [] (fun _ => .string p2),
      .val [] (fun _ => .tuple #[.string r, E]),
      .val [] (fun _ => .string r),
      .val [] (fun _ => E),
      .val [] (fun _ => .string r),
      .val [] (fun _ => E)] ?hp ?hfw ?deps ?oks ?steps ?tail
  case hp => kernel_rfl
  case hfw => kernel_rfl
  case deps => kernel_rfl
  case oks =>
    intro F hF
    simp only [List.mem_cons, List.not_mem_nil, or_false] at hF
    rcases hF with rfl | rfl | rfl | rfl | rfl | rfl | rfl | rfl | rfl | rfl | rfl | rfl | rfl | rfl
    all_goals trivial
  case steps =>
    refine Steps.cons ?_ ?_
    · refine FreeStep.val [] _ rfl rfl fun u β W hW hn fr hfr K hK => ?_
      simp only [frameL, putL, Act.put, List.setIfInBounds_toArray, List.set_cons_zero, List.set_cons_succ, Nat.zero_add, Nat.reduceAdd] at hfr
      subst hfr
      have HK := Lib.hid hK
      clear hK hn
      go_simp
      have h9 := HK.out
      revert h9
      clear HK
      go_simp
      try exact id
    refine Steps.cons ?_ ?_
    · refine FreeStep.val [] _ rfl rfl fun u β W hW hn fr hfr K hK => ?_
      simp only [frameL, putL, Act.put, List.setIfInBounds_toArray, List.set_cons_zero, List.set_cons_succ, Nat.zero_add, Nat.reduceAdd] at hfr
      subst hfr
      obtain ⟨e0, e1, e2, e3, el⟩ := id (Bx.all4 (HB.out.2.later hW))
      have HK := Lib.hid hK
      clear hK hn
      go_simp
      have h9 := HK.out
      revert h9
      clear HK
      go_simp
      try exact id
    refine Steps.cons ?_ ?_
    · refine FreeStep.val [] _ rfl rfl fun u β W hW hn fr hfr K hK => ?_
      simp only [frameL, putL, Act.put, List.setIfInBounds_toArray, List.set_cons_zero, List.set_cons_succ, Nat.zero_add, Nat.reduceAdd] at hfr
      subst hfr
      have e1 : u 1 = .pointer (some ⟨w.heap.size, 1, none⟩) := Have.get (k := 1) hn rfl
      simp only [e1] at hK
      obtain ⟨e0, e1, e2, e3, el⟩ := id (Bx.all4 (HB.out.2.later hW))
      have HK := Lib.hid hK
      clear hK hn
      go_simp
      have h9 := HK.out
      revert h9
      clear HK
      go_simp
      try exact id
    refine Steps.cons ?_ ?_
    · refine FreeStep.val [] _ rfl rfl fun u β W hW hn fr hfr K hK => ?_
      simp only [frameL, putL, Act.put, List.setIfInBounds_toArray, List.set_cons_zero, List.set_cons_succ, Nat.zero_add, Nat.reduceAdd] at hfr
      subst hfr
      obtain ⟨e0, e1, e2, e3, el⟩ := id (Bx.all4 (HB.out.2.later hW))
      have HK := Lib.hid hK
      clear hK hn
      go_simp
      have h9 := HK.out
      revert h9
      clear HK
      go_simp
      try exact id
    refine Steps.cons ?_ ?_
    · refine FreeStep.val [] _ rfl rfl fun u β W hW hn fr hfr K hK => ?_
      simp only [frameL, putL, Act.put, List.setIfInBounds_toArray, List.set_cons_zero, List.set_cons_succ, Nat.zero_add, Nat.reduceAdd] at hfr
      subst hfr
      have e3 : u 3 = .pointer (some ⟨w.heap.size, 3, none⟩) := Have.get (k := 3) hn rfl
      simp only [e3] at hK
      obtain ⟨e0, e1, e2, e3, el⟩ := id (Bx.all4 (HB.out.2.later hW))
      have HK := Lib.hid hK
      clear hK hn
      go_simp
      have h9 := HK.out
      revert h9
      clear HK
      go_simp
      try exact id
    refine Steps.cons ?_ ?_
    · refine FreeStep.val [] _ rfl rfl fun u β W hW hn fr hfr K hK => ?_
      simp only [frameL, putL, Act.put, List.setIfInBounds_toArray, List.set_cons_zero, List.set_cons_succ, Nat.zero_add, Nat.reduceAdd] at hfr
      subst hfr
      have e4 : u 4 = .string tx := Have.get (k := 4) hn rfl
      simp only [e4] at hK
      have HK := Lib.hid hK
      clear hK hn
      go_simp
      have h9 := HK.out
      revert h9
      clear HK
      go_simp
      try exact id
    refine Steps.cons ?_ ?_
    · refine FreeStep.val [] _ rfl rfl fun u β W hW hn fr hfr K hK => ?_
      simp only [frameL, putL, Act.put, List.setIfInBounds_toArray, List.set_cons_zero, List.set_cons_succ, Nat.zero_add, Nat.reduceAdd] at hfr
      subst hfr
      obtain ⟨e0, e1, e2, e3, el⟩ := id (Bx.all4 (HB.out.2.later hW))
      have HK := Lib.hid hK
      clear hK hn
      go_simp
      have h9 := HK.out
      revert h9
      clear HK
      go_simp
      try exact id
    refine Steps.cons ?_ ?_
    · refine FreeStep.val [] _ rfl rfl fun u β W hW hn fr hfr K hK => ?_
      simp only [frameL, putL, Act.put, List.setIfInBounds_toArray, List.set_cons_zero, List.set_cons_succ, Nat.zero_add, Nat.reduceAdd] at hfr
      subst hfr
      have e6 : u 6 = .pointer (some ⟨w.heap.size, 3, none⟩) := Have.get (k := 6) hn rfl
      simp only [e6] at hK
      obtain ⟨e0, e1, e2, e3, el⟩ := id (Bx.all4 (HB.out.2.later hW))
      have HK := Lib.hid hK
      clear hK hn
      go_simp
      have h9 := HK.out
      revert h9
      clear HK
      go_simp
      try exact id
    refine Steps.cons ?_ ?_
    · refine FreeStep.val [] _ rfl rfl fun u β W hW hn fr hfr K hK => ?_
      simp only [frameL, putL, Act.put, List.setIfInBounds_toArray, List.set_cons_zero, List.set_cons_succ, Nat.zero_add, Nat.reduceAdd] at hfr
      subst hfr
      have e7 : u 7 = .string tx := Have.get (k := 7) hn rfl
      simp only [e7] at hK
      have HK := Lib.hid hK
      clear hK hn
      go_simp
      have h9 := HK.out
      revert h9
      clear HK
      go_simp
      try exact id
    refine Steps.cons ?_ ?_
    · refine FreeStep.calm [] _ rfl rfl fun u β W hW hn fr hfr K hK => ?_
      simp only [frameL, putL, Act.put, List.setIfInBounds_toArray, List.set_cons_zero, List.set_cons_succ, Nat.zero_add, Nat.reduceAdd] at hfr
      subst hfr
      have e0 : u 0 = .string s := Have.get (k := 0) hn rfl
      have e2 : u 2 = .int .i64 a := Have.get (k := 2) hn rfl
      have e5 : u 5 = .string p1 := Have.get (k := 5) hn rfl
      have e8 : u 8 = .string p2 := Have.get (k := 8) hn rfl
      simp only [e0, e2, e5, e8] at hK
      have HK := Lib.hid hK
      clear hK hn
      go_simp
      refine (HP.out _).mono ?_
      rintro e w1 ⟨rfl, hb1⟩
      have h9 := HK.out _ hb1
      revert h9
      clear HK
      go_simp
      try exact id
    refine Steps.cons ?_ ?_
    · refine FreeStep.val [] _ rfl rfl fun u β W hW hn fr hfr K hK => ?_
      simp only [frameL, putL, Act.put, List.setIfInBounds_toArray, List.set_cons_zero, List.set_cons_succ, Nat.zero_add, Nat.reduceAdd] at hfr
      subst hfr
      have e9 : u 9 = .tuple #[.string r, E] := Have.get (k := 9) hn rfl
      simp only [e9] at hK
      have HK := Lib.hid hK
      clear hK hn
      go_simp
      have h9 := HK.out
      revert h9
      clear HK
      go_simp
      try exact id
    refine Steps.cons ?_ ?_
    · refine FreeStep.val [] _ rfl rfl fun u β W hW hn fr hfr K hK => ?_
      simp only [frameL, putL, Act.put, List.setIfInBounds_toArray, List.set_cons_zero, List.set_cons_succ, Nat.zero_add, Nat.reduceAdd] at hfr
      subst hfr
      have e9 : u 9 = .tuple #[.string r, E] := Have.get (k := 9) hn rfl
      simp only [e9] at hK
      have HK := Lib.hid hK
      clear hK hn
      go_simp
      have h9 := HK.out
      revert h9
      clear HK
      go_simp
      try exact id
    refine Steps.cons ?_ ?_
    · refine FreeStep.val [] _ rfl rfl fun u β W hW hn fr hfr K hK => ?_
      simp only [frameL, putL, Act.put, List.setIfInBounds_toArray, List.set_cons_zero, List.set_cons_succ, Nat.zero_add, Nat.reduceAdd] at hfr
      subst hfr
      have e10 : u 10 = .string r := Have.get (k := 10) hn rfl
      simp only [e10] at hK
      have HK := Lib.hid hK
      clear hK hn
      go_simp
      have h9 := HK.out
      revert h9
      clear HK
      go_simp
      try exact id
    refine Steps.cons ?_ ?_
    · refine FreeStep.val [] _ rfl rfl fun u β W hW hn fr hfr K hK => ?_
      simp only [frameL, putL, Act.put, List.setIfInBounds_toArray, List.set_cons_zero, List.set_cons_succ, Nat.zero_add, Nat.reduceAdd] at hfr
      subst hfr
      have e11 : u 11 = E := Have.get (k := 11) hn rfl
      simp only [e11] at hK
      have HK := Lib.hid hK
      clear hK hn
      go_simp
      have h9 := HK.out
      revert h9
      clear HK
      go_simp
      try exact id
    exact Steps.nil
  case tail =>
    intro u_ β W hW hn hdis hbnd
    have z0 : u_ 0 = .string s := Have.get (k := 0) hn rfl
    have z1 : u_ 1 = .pointer (some ⟨w.heap.size, 1, none⟩) := Have.get (k := 1) hn rfl
    have z2 : u_ 2 = .int .i64 a := Have.get (k := 2) hn rfl
    have z3 : u_ 3 = .pointer (some ⟨w.heap.size, 3, none⟩) := Have.get (k := 3) hn rfl
    have z4 : u_ 4 = .string tx := Have.get (k := 4) hn rfl
    have z5 : u_ 5 = .string p1 := Have.get (k := 5) hn rfl
    have z6 : u_ 6 = .pointer (some ⟨w.heap.size, 3, none⟩) := Have.get (k := 6) hn rfl
    have z7 : u_ 7 = .string tx := Have.get (k := 7) hn rfl
    have z8 : u_ 8 = .string p2 := Have.get (k := 8) hn rfl
    have z9 : u_ 9 = .tuple #[.string r, E] := Have.get (k := 9) hn rfl
    have z10 : u_ 10 = .string r := Have.get (k := 10) hn rfl
    have z11 : u_ 11 = E := Have.get (k := 11) hn rfl
    have z12 : u_ 12 = .string r := Have.get (k := 12) hn rfl
    have z13 : u_ 13 = E := Have.get (k := 13) hn rfl
    rw [← frameL_eq (by kernel_rfl)]
    clear hn hdis hbnd
    simp only [frameL, putL, Act.put, List.setIfInBounds_toArray, List.set_cons_zero, List.set_cons_succ, Nat.zero_add, Nat.reduceAdd, z0, z1, z2, z3, z4, z5, z6, z7, z8, z9, z10, z11, z12, z13]
    clear z0 z1 z2 z3 z4 z5 z6 z7 z8 z9 z10 z11 z12 z13
    have hwc := HB.out.1.trans (hW.mono HB.out.1.size)
    go_wp2
    go_ret2
    exact ⟨rfl, hwc⟩

set_option maxHeartbeats 6400000 in
set_option maxRecDepth 100000 in
theorem impl_wrap_range (a t : Nat) (s u : ByteArray) (w : World) (h60 : s.size ≤ 60) (h : t < a ∨ s.size < t) :
    Calls Tryz.prog 157 #[.agg (EdA 4 a t u), .string s] w (TupPost (.tuple #[.string ⟨#[]⟩, errV 2]) w) := by
  have hB := (Below.refl w.heap.size w).alloc (Nat.le_refl _) (.cells (EdA 4 (a : Int) (t : Int) u) 67)
  have hx := Bx.new w 67 (EdA 4 (a : Int) (t : Int) u)
  have HB := Lib.hid (And.intro hB hx)
  clear hB hx
  show Calls _ _ _ _ (TupPost (.tuple #[.string ⟨#[]⟩, .iface 70 (.agg #[.int .i64 2])]) w)
  by_cases h1 : t < a
  · have d1 : decide ((t : Int) < (a : Int)) = true := decide_eq_true (by omega)
    clear h
    go_enter Tryz.func157, Tryz.ntmps157
    go_wp2
    go_ret2
    exact ⟨rfl, HB.out.1⟩
  · have h2 : s.size < t := by omega
    have d1 : decide ((t : Int) < (a : Int)) = false := decide_eq_false (by omega)
    have d2 : decide ((s.size : Int) < (t : Int)) = true := decide_eq_true (by omega)
    clear h
    go_enter Tryz.func157, Tryz.ntmps157
    go_wp2
    go_ret2
    exact ⟨rfl, HB.out.1⟩

set_option maxHeartbeats 6400000 in
set_option maxRecDepth 100000 in
theorem impl_wrap_state (a t : Nat) (s u : ByteArray) (w : World) (hs : IsW s) (hu : u.size = 2) (ha : a ≤ t) (ht : t ≤ s.size) (hm : mB (s.extract a t).data.toList = false) :
    Calls Tryz.prog 157 #[.agg (EdA 4 a t u), .string s] w (TupPost (.tuple #[.string ⟨#[]⟩, errV 4]) w) := by
  have hB := (Below.refl w.heap.size w).alloc (Nat.le_refl _) (.cells (EdA 4 (a : Int) (t : Int) u) 67)
  have hx := Bx.new w 67 (EdA 4 (a : Int) (t : Int) u)
  have HB := Lib.hid (And.intro hB hx)
  clear hB hx
  have h60 := hs.1
  have hM := fun W => impl_IsMatched_yes (s.extract a t) W (isW_sub hs a t)
  simp only [← mB_size] at hM
  rw [hm] at hM
  have HM := Lib.hid hM
  have d1_ : decide ((t : Int) < (a : Int)) = false := decide_eq_false (by omega)
  have d2_ : decide ((s.size : Int) < (t : Int)) = false := decide_eq_false (by omega)
  have n1_ : ¬ (t < a) := by omega
  have n2_ : ¬ (s.size < t) := by omega
  have hsl := slice_ab s a t ha ht
  show Calls _ _ _ _ (TupPost (.tuple #[.string ⟨#[]⟩, .iface 70 (.agg #[.int .i64 4])]) w)
  generalize s.extract a t = b at *
  clear hs hM hm
  go_enter Tryz.func157, Tryz.ntmps157
  go_wp2_with fail
  refine (HM.out _).mono ?_
  rintro e w1 ⟨rfl, hb⟩
  have HX := Lib.hid (HB.out.2.later hb)
  have HB1 := Lib.hid (HB.out.1.trans (hb.mono HB.out.1.size))
  clear hb
  go_wp2
  go_ret2
  exact ⟨rfl, HB1.out⟩
set_option maxHeartbeats 6400000 in
set_option maxRecDepth 100000 in
theorem impl_wrap_yes (a t : Nat) (s u : ByteArray) (w : World) (hs : IsW s) (hu : u.size = 2) (ha : a ≤ t) (ht : t ≤ s.size) (hm : mB (s.extract a t).data.toList = true) (r : ByteArray) (c : Int) (hr : toldV (wrapW s u a t) = .tuple #[.string r, .int .i64 c]) :
    Calls Tryz.prog 157 #[.agg (EdA 4 a t u), .string s] w (TupPost (.tuple #[.string r, errV c]) w) := by
  have hB := (Below.refl w.heap.size w).alloc (Nat.le_refl _) (.cells (EdA 4 (a : Int) (t : Int) u) 67)
  have hx := Bx.new w 67 (EdA 4 (a : Int) (t : Int) u)
  have HB := Lib.hid (And.intro hB hx)
  clear hB hx
  have h60 := hs.1
  have hM := fun W => impl_IsMatched_yes (s.extract a t) W (isW_sub hs a t)
  simp only [← mB_size] at hM
  rw [hm] at hM
  have HM := Lib.hid hM
  have d1_ : decide ((t : Int) < (a : Int)) = false := decide_eq_false (by omega)
  have d2_ : decide ((s.size : Int) < (t : Int)) = false := decide_eq_false (by omega)
  have n1_ : ¬ (t < a) := by omega
  have n2_ : ¬ (s.size < t) := by omega
  have hsl := slice_ab s a t ha ht
  have hz : (wrapW s u a t).size ≤ 1048576 := by have q1 := ext_le s 0 a h60; have q2 := one_le u; have q3 := ext_le s a t h60; have q4 := rest_le u hu; have q5 := ext_le s t s.size h60; simp only [wrapW, ByteArray.size_append]; omega
  have hT := fun W => impl_told (wrapW s u a t) W hz
  rw [hr] at hT
  unfold wrapW at hT
  clear hr hz
  have HE := Lib.hid (fun W => impl_errorOf c W)
  generalize errV c = E at *
  have hk1 := slice_head s a (by omega)
  have hk2 := slice_one u (by omega)
  have hk3 := slice_rest u (by omega)
  have hk4 := slice_from s t ht
  have q1 := ext_le s 0 a h60
  have q2 := one_le u
  have q3 := ext_le s a t h60
  have q4 := rest_le u hu
  have q5 := ext_le s t s.size h60
  generalize s.extract 0 a = p1 at *
  generalize u.extract 0 1 = p2 at *
  generalize u.extract 1 u.size = p4 at *
  generalize s.extract t s.size = p5 at *
  generalize s.extract a t = p3 at *
  have HT := Lib.hid hT
  clear hT
  have n1 : (p1 ++ p2).size ≤ 61 := by rw [ByteArray.size_append]; omega
  have n2 : (p1 ++ p2 ++ p3).size ≤ 121 := by rw [ByteArray.size_append]; omega
  have n3 : (p1 ++ p2 ++ p3 ++ p4).size ≤ 122 := by rw [ByteArray.size_append]; omega
  clear hs hM hm
  go_enter Tryz.func157, Tryz.ntmps157
  go_wp2_with fail
  refine (HM.out _).mono ?_
  rintro e w1 ⟨rfl, hb⟩
  have HX := Lib.hid (HB.out.2.later hb)
  have HB1 := Lib.hid (HB.out.1.trans (hb.mono HB.out.1.size))
  clear hb
  obtain ⟨c0, c1, c2, c3, cl⟩ := id HX.out.all4
  go_wp2_with fail
  go_quiet ((go_at_call 146; exact Calls.quiet_of_same ((HT.out _).mono fun e w' h => ⟨h.1, h.2.symm⟩)))
  go_wp2_with fail
  refine (HE.out _).mono ?_
  rintro e w2 ⟨rfl, rfl⟩
  go_wp2
  go_ret2
  exact ⟨rfl, below_drewN HB1.out _⟩
end Go.Proofs.YtblgjedjljfmcaaGreatDoor
/- Marks: the numbers that a law writes into a value and finds there again. -/
namespace Go.Proofs.YtblgjedjljfmcaaGreatDoor
open Go.RowKit

def mkI (k : Nat) (xs : List Int) : List Int := (List.range xs.length).map fun i : Nat => ((k + i : Nat) : Int)
def mkB (k : Nat) (xs : List Bool) : List Bool := (List.range xs.length).map fun i : Nat => ((k : Int) + (i : Int)) % 3 == 0
def mkP (k : Nat) (xs : List (Int × Int)) : List (Int × Int) := (List.range xs.length).map fun i : Nat => (((k + 2 * i : Nat) : Int), ((k + 2 * i + 1 : Nat) : Int))
def szL {α : Type} (sz : α → Nat) (xs : List α) : Nat := (xs.map sz).sum
def mkL {α : Type} (mk : Nat → α → α) (sz : α → Nat) : Nat → List α → List α
  | _, [] => []
  | k, x :: xs => mk k x :: mkL mk sz (k + sz x) xs

section
variable {α : Type} {mk : Nat → α → α} {sz : α → Nat}
theorem szL_snoc (xs : List α) (x : α) : szL sz (xs ++ [x]) = szL sz xs + sz x := by simp [szL]
theorem szL_take_succ {xs : List α} {j : Nat} {x : α} (h : xs[j]? = some x) : szL sz (xs.take (j + 1)) = szL sz (xs.take j) + sz x := by
  rw [List.take_add_one, h]; exact szL_snoc _ _
theorem szL_take_le (xs : List α) (j : Nat) : szL sz (xs.take j) ≤ szL sz xs := by
  have h : szL sz xs = szL sz (xs.take j) + szL sz (xs.drop j) := by simp [szL, ← List.sum_append]
  omega
theorem mkL_len (xs : List α) : ∀ k, (mkL mk sz k xs).length = xs.length := by
  induction xs with
  | nil => intro k; rfl
  | cons x xs ih => intro k; simp [mkL, ih]
theorem mkL_snoc (xs : List α) (x : α) : ∀ k, mkL mk sz k (xs ++ [x]) = mkL mk sz k xs ++ [mk (k + szL sz xs) x] := by
  induction xs with
  | nil => intro k; simp [mkL, szL]
  | cons y xs ih =>
    intro k
    simp only [List.cons_append, mkL, ih, szL, List.map_cons, List.sum_cons]
    rw [Nat.add_assoc]
theorem mkL_szL (h : ∀ k x, sz (mk k x) = sz x) (xs : List α) : ∀ k, szL sz (mkL mk sz k xs) = szL sz xs := by
  induction xs with
  | nil => intro k; rfl
  | cons x xs ih =>
    intro k
    have := ih (k + sz x)
    simp only [szL, mkL, List.map_cons, List.sum_cons, h] at this ⊢
    rw [this]

/-- What is there when the first j values bear their marks. -/
def half (mk : Nat → α → α) (sz : α → Nat) (k : Nat) (xs : List α) (j : Nat) : List α := mkL mk sz k (xs.take j) ++ xs.drop j
theorem half_zero (k : Nat) (xs : List α) : half mk sz k xs 0 = xs := by simp [half, mkL]
theorem half_all (k : Nat) (xs : List α) : half mk sz k xs xs.length = mkL mk sz k xs := by simp [half]
theorem half_len (k : Nat) (xs : List α) (j : Nat) : (half mk sz k xs j).length = xs.length := by
  rw [half, List.length_append, mkL_len, List.length_take, List.length_drop]; omega
theorem half_at {k : Nat} {xs : List α} {j : Nat} {x : α} (h : xs[j]? = some x) : (half mk sz k xs j)[j]? = some x := by
  have hj := (List.getElem?_eq_some_iff.1 h).1
  rw [half, List.getElem?_append_right (by rw [mkL_len, List.length_take]; omega), mkL_len, List.length_take, List.getElem?_drop, show j + (j - min j xs.length) = j from by omega, h]
theorem half_set {k : Nat} {xs : List α} {j : Nat} {x : α} (h : xs[j]? = some x) : (half mk sz k xs j).set j (mk (k + szL sz (xs.take j)) x) = half mk sz k xs (j + 1) := by
  obtain ⟨hj, hx⟩ := List.getElem?_eq_some_iff.1 h
  have hl : (mkL mk sz k (xs.take j)).length = j := by rw [mkL_len, List.length_take]; omega
  rw [half, List.set_append_right _ _ (by omega), hl, Nat.sub_self, List.drop_eq_getElem_cons hj, List.set_cons_zero, half, List.take_add_one, h, Option.toList_some, mkL_snoc, List.append_assoc]
  rfl
theorem mkL_at {k : Nat} {xs : List α} {j : Nat} {x : α} (h : xs[j]? = some x) : (mkL mk sz k xs)[j]? = some (mk (k + szL sz (xs.take j)) x) := by
  have hj := (List.getElem?_eq_some_iff.1 h).1
  have e : xs = xs.take j ++ x :: xs.drop (j + 1) := by
    have := (List.getElem?_eq_some_iff.1 h).2
    rw [← this, ← List.drop_eq_getElem_cons hj, List.take_append_drop]
  have key : ∀ (ys zs : List α) k, (mkL mk sz k (ys ++ x :: zs))[ys.length]? = some (mk (k + szL sz ys) x) := by
    intro ys
    induction ys with
    | nil => intro zs k; simp [mkL, szL]
    | cons y ys ih =>
      intro zs k
      simp only [List.cons_append, mkL, List.length_cons, List.getElem?_cons_succ, ih, szL, List.map_cons, List.sum_cons]
      rw [Nat.add_assoc]
  have := key (xs.take j) (xs.drop (j + 1)) k
  rwa [← e, List.length_take, Nat.min_eq_left (by omega)] at this
end

theorem mkI_len (k : Nat) (xs : List Int) : (mkI k xs).length = xs.length := by simp [mkI]
theorem mkB_len (k : Nat) (xs : List Bool) : (mkB k xs).length = xs.length := by simp [mkB]
theorem mkP_len (k : Nat) (xs : List (Int × Int)) : (mkP k xs).length = xs.length := by simp [mkP]
theorem mkI_at (k : Nat) (xs : List Int) (j : Nat) (h : j < xs.length) : (mkI k xs)[j]? = some ((k + j : Nat) : Int) := by simp [mkI, h]
theorem mkB_at (k : Nat) (xs : List Bool) (j : Nat) (h : j < xs.length) : (mkB k xs)[j]? = some (((k : Int) + (j : Int)) % 3 == 0) := by simp [mkB, h]
theorem mkP_at (k : Nat) (xs : List (Int × Int)) (j : Nat) (h : j < xs.length) : (mkP k xs)[j]? = some (((k + 2 * j : Nat) : Int), ((k + 2 * j + 1 : Nat) : Int)) := by simp [mkP, h]

/-- Of a list of which the first j values are others. -/
def front {α : Type} (ys xs : List α) (j : Nat) : List α := ys.take j ++ xs.drop j
theorem front_zero {α : Type} (ys xs : List α) : front ys xs 0 = xs := by simp [front]
theorem front_all {α : Type} (ys xs : List α) (h : ys.length = xs.length) : front ys xs xs.length = ys := by
  rw [front, List.drop_length, List.append_nil, ← h, List.take_length]
theorem front_len {α : Type} (ys xs : List α) (h : ys.length = xs.length) (j : Nat) : (front ys xs j).length = xs.length := by
  rw [front, List.length_append, List.length_take, List.length_drop]; omega
theorem front_at {α : Type} (ys xs : List α) (h : ys.length = xs.length) {j : Nat} (hj : j < xs.length) : (front ys xs j)[j]? = xs[j]? := by
  rw [front, List.getElem?_append_right (by rw [List.length_take]; omega), List.length_take, List.getElem?_drop, show j + (j - min j ys.length) = j from by omega]
theorem front_set {α : Type} (ys xs : List α) (h : ys.length = xs.length) {j : Nat} {y : α} (hy : ys[j]? = some y) : (front ys xs j).set j y = front ys xs (j + 1) := by
  have hj := (List.getElem?_eq_some_iff.1 hy).1
  rw [front, List.set_append_right _ _ (by rw [List.length_take]; omega), List.length_take, show j - min j ys.length = 0 from by omega, List.drop_eq_getElem_cons (by omega), List.set_cons_zero, front, List.take_add_one, hy, Option.toList_some, List.append_assoc]
  rfl

/-- A row's cells. -/
theorem flat_at {α : Type} {enc : α → List Value} {size : Nat} (hs : ∀ x, (enc x).length = size) : ∀ (xs : List α) (j : Nat) (x : α) (i : Nat), xs[j]? = some x → i < size → (xs.flatMap enc)[j * size + i]? = (enc x)[i]? := by
  intro xs
  induction xs with
  | nil => intro j x i h; simp at h
  | cons y xs ih =>
    intro j x i h hi
    cases j with
    | zero =>
      simp at h
      subst h
      rw [List.flatMap_cons, Nat.zero_mul, Nat.zero_add, List.getElem?_append_left (by rw [hs]; exact hi)]
    | succ j =>
      rw [List.getElem?_cons_succ] at h
      rw [List.flatMap_cons, List.getElem?_append_right (by rw [hs, Nat.succ_mul]; omega), hs, ← ih j x i h hi, Nat.succ_mul]
      congr 1
      omega
theorem flat_set1 {α : Type} {f : α → Value} : ∀ (xs : List α) (j : Nat) (y : α), (xs.flatMap fun x => [f x]).set j (f y) = (xs.set j y).flatMap fun x => [f x] := by
  intro xs
  induction xs with
  | nil => intro j y; rfl
  | cons x xs ih =>
    intro j y
    cases j with
    | zero => rfl
    | succ j => simp only [List.flatMap_cons, List.set_cons_succ, List.singleton_append, ih]
theorem flat_set2 {α : Type} {f g : α → Value} : ∀ (xs : List α) (j : Nat) (y : α), ((xs.flatMap fun x => [f x, g x]).set (2 * j) (f y)).set (2 * j + 1) (g y) = (xs.set j y).flatMap fun x => [f x, g x] := by
  intro xs
  induction xs with
  | nil => intro j y; rfl
  | cons x xs ih =>
    intro j y
    cases j with
    | zero => rfl
    | succ j =>
      rw [show 2 * (j + 1) = 2 * j + 1 + 1 from by omega]
      simp only [List.flatMap_cons, List.set_cons_succ, List.cons_append, List.nil_append, ih]

/-- What a marking call leaves. -/
def MarkPost {α : Type} (E : EP α) (v : Value) (x : α) (bs : List Nat) (k : Nat) (w : World) (e : Ending) (w' : World) : Prop :=
  e = .returned (.int .i64 (k : Int)) ∧ E w' v x bs ∧ Turned bs w w'
/-- What a call that compares, or finds the marks, leaves. -/
def SeenPost (r : Value) (w : World) (e : Ending) (w' : World) : Prop := e = .returned r ∧ Below w.heap.size w w'
end Go.Proofs.YtblgjedjljfmcaaGreatDoor
