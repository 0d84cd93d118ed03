/- What an edit makes of a word, of the program: errors, errors.As, and the five kinds. -/
import Derived.Test.YtcdgfmaclgegnaaGreatDoorEdW
import Derived.Test.YtcdgfmaclgegnaaGreatDoorAs
namespace Go.Proofs.YtcdgfmaclgegnaaGreatDoor
open Go.RowKit
set_option linter.unusedVariables false

/-- The error of a code. -/
def errV (c : Int) : Value := if c = 0 then .nilIface else .iface 93 (.agg #[.int .i64 c])
theorem impl_errorOf (c : Int) (w : World) : Calls Tryz.prog 153 #[.int .i64 c] w fun e w' => e = .returned (errV c) ∧ w = w' := by
  by_cases h : c = 0
  · subst h
    show Calls _ _ _ _ fun e w' => e = .returned .nilIface ∧ w = w'
    go_enter Tryz.func153, Tryz.ntmps153
    go_wp2
    go_ret
    exact ⟨rfl, rfl⟩
  · rw [errV, if_neg h]
    have e5 : (c == 0) = false := by simpa using h
    have e6 : decide (c = 0) = false := decide_eq_false h
    go_enter Tryz.func153, Tryz.ntmps153
    go_wp2
    go_ret
    exact ⟨rfl, rfl⟩
theorem as_hit' (tb : Nat) (c : Int) (old : Value) (w : World) (hg : w.cell? ⟨0, 0, none⟩ = some (.iface 152 (.agg #[.pointer (some ⟨7, 59, none⟩)]))) (ht0 : w.cell? ⟨tb, 0, none⟩ = some old) (hf0 : w.frozen? ⟨tb, 0, none⟩ = false) :
    Calls Tryz.prog 53 #[.iface 93 (.agg #[.int .i64 c]), .iface 95 (.pointer (some ⟨tb, 0, none⟩))] w fun ev w' => ev = .returned (.bool true) ∧ w'.cell? ⟨tb, 0, none⟩ = some (.int .i64 c) ∧ Below tb w w' := by
  have htl : tb < w.heap.size := World.block_lt_of_cell? _ _ ht0
  refine (as_hit tb c old w hg ht0 hf0).mono ?_
  rintro ev w' ⟨rfl, rfl⟩
  refine ⟨rfl, World.cell?_setCell_same (u := old) _ _ _ ?_, ?_⟩
  · rw [World.cell?_alloc_lt _ _ ⟨tb, 0, none⟩ (by simp; omega), World.cell?_alloc_lt _ _ ⟨tb, 0, none⟩ (by simp; omega), World.cell?_alloc_lt _ _ ⟨tb, 0, none⟩ (by simp; omega), World.cell?_alloc_lt _ _ ⟨tb, 0, none⟩ htl]
    exact ht0
  · exact (((((Below.refl tb w).alloc (by omega) _).alloc (by simp; omega) _).alloc (by simp; omega) _).alloc (by simp; omega) _).setCell (p := ⟨tb, 0, none⟩) (Nat.le_refl _) _
set_option maxHeartbeats 3200000 in
theorem impl_codeOf (c : Int) (w : World) (hg : w.cell? ⟨0, 0, none⟩ = some (.iface 152 (.agg #[.pointer (some ⟨7, 59, none⟩)]))) : Calls Tryz.prog 32 #[errV c] w (TupPost (.int .i64 c) w) := by
  have hB := (Below.refl w.heap.size w).alloc (Nat.le_refl _) (.cells #[.int .i64 0] 93)
  by_cases h : c = 0
  · subst h
    have HB := Lib.hid hB
    show Calls _ _ #[.nilIface] _ _
    clear hB hg
    go_enter Tryz.func32, Tryz.ntmps32
    go_wp2_with fail
    refine (as_nil _ _).mono ?_
    rintro e w' ⟨rfl, rfl⟩
    go_wp2
    go_ret
    exact ⟨rfl, HB.out⟩
  · rw [errV, if_neg h]
    have H := as_hit' w.heap.size c (.int .i64 0) (w.alloc (.cells #[.int .i64 0] 93)) (by rw [World.cell?_alloc_lt _ _ ⟨0, 0, none⟩ (World.block_lt_of_cell? _ _ hg)]; exact hg) (by simp) (by simp)
    have HH := Lib.hid (And.intro H hB)
    clear H hB hg
    go_enter Tryz.func32, Tryz.ntmps32
    go_wp2_with fail
    refine HH.out.1.mono ?_
    rintro e w' ⟨rfl, hc, hb⟩
    have HB := Lib.hid (HH.out.2.trans hb)
    clear hb
    go_wp2
    go_ret
    exact ⟨rfl, HB.out⟩

set_option maxHeartbeats 6400000 in
set_option maxRecDepth 100000 in
theorem impl_renamed_bad (s x y : ByteArray) (i q c : Int) (w : World) (hc : c = 2 ∨ c = 4) (h : ∀ w, Calls Tryz.prog 161 #[.string s, .int .i64 i] w (TupPost (cloV q c) w)) :
    Calls Tryz.prog 164 #[.string s, .int .i64 i, .string x, .string y] w (TupPost (.tuple #[.string ⟨#[]⟩, errV c]) w) := by
  simp only [cloV] at h
  have H := Lib.hid h
  have HE := Lib.hid (fun W => impl_errorOf c W)
  generalize errV c = E at *
  clear h
  rcases hc with rfl | rfl
  all_goals
    go_enter Tryz.func164, Tryz.ntmps164
    go_wp2_with fail
    refine (H.out _).mono ?_
    rintro e w1 ⟨rfl, hb⟩
    go_wp2_with fail
    refine (HE.out _).mono ?_
    rintro e w2 ⟨rfl, rfl⟩
    go_wp2
    go_ret2
    exact ⟨rfl, hb⟩

set_option maxHeartbeats 6400000 in
set_option maxRecDepth 100000 in
theorem impl_renamed_yes (s x y : ByteArray) (k m : Nat) (w : World) (hkm : k < m) (hm : m < s.size) (h60 : s.size ≤ 60) (hx : x.size ≤ 1) (hy : y.size ≤ 1) (h : ∀ w, Calls Tryz.prog 161 #[.string s, .int .i64 (k : Int)] w (TupPost (cloV (m : Int) 0) w)) :
    Calls Tryz.prog 164 #[.string s, .int .i64 (k : Int), .string x, .string y] w (TupPost (.tuple #[.string (s.extract 0 k ++ x ++ s.extract (k + 1) m ++ y ++ s.extract (m + 1) s.size), .nilIface]) w) := by
  simp only [cloV] at h
  have H := Lib.hid h
  clear h
  have hl1 := slice_head s k (by omega)
  have hl2 := slice_mid s k m hkm (by omega)
  have hl3 := slice_tail s m hm
  have q1 := ext_le s 0 k h60
  have q2 := ext_le s (k + 1) m h60
  have q3 := ext_le s (m + 1) s.size h60
  generalize s.extract 0 k = p1 at *
  generalize s.extract (k + 1) m = p2 at *
  generalize s.extract (m + 1) s.size = p3 at *
  have n1 : (p1 ++ x).size ≤ 61 := by rw [ByteArray.size_append]; omega
  have n2 : (p1 ++ x ++ p2).size ≤ 121 := by rw [ByteArray.size_append]; omega
  have n3 : (p1 ++ x ++ p2 ++ y).size ≤ 122 := by rw [ByteArray.size_append]; omega
  go_enter Tryz.func164, Tryz.ntmps164
  go_wp2_with fail
  refine (H.out _).mono ?_
  rintro e w1 ⟨rfl, hb⟩
  go_wp2
  go_quiet (fail)
  go_wp2
  go_ret2
  exact ⟨rfl, below_drewN hb _⟩

set_option maxHeartbeats 6400000 in
set_option maxRecDepth 100000 in
theorem impl_put (a t : Int) (s u r : ByteArray) (c : Int) (w : World) (hP : ∀ w, Calls Tryz.prog 152 #[.string s, .int .i64 a, .string u] w (TupPost (.tuple #[.string r, .int .i64 c]) w)) :
    Calls Tryz.prog 150 #[.agg (EdA 1 a t u), .string s] w (TupPost (.tuple #[.string r, errV c]) w) := by
  have hB := (Below.refl w.heap.size w).alloc (Nat.le_refl _) (.cells (EdA 1 a t u) 87)
  have hx := Bx.new w 87 (EdA 1 a t u)
  have HB := Lib.hid (And.intro hB hx)
  clear hB hx
  have HP := Lib.hid hP
  have HE := Lib.hid (fun W => impl_errorOf c W)
  generalize errV c = E at *
  clear hP
  go_enter Tryz.func150, Tryz.ntmps150
  go_wp2_with fail
  refine (HP.out _).mono ?_
  rintro e w1 ⟨rfl, hb⟩
  have HB1 := Lib.hid (HB.out.1.trans (hb.mono HB.out.1.size))
  clear hb
  go_wp2_with fail
  refine (HE.out _).mono ?_
  rintro e w2 ⟨rfl, rfl⟩
  go_wp2
  go_ret2
  exact ⟨rfl, HB1.out⟩

set_option maxHeartbeats 6400000 in
set_option maxRecDepth 100000 in
theorem impl_cut (a t : Int) (s u r : ByteArray) (c : Int) (w : World) (hP : ∀ w, Calls Tryz.prog 160 #[.string s, .int .i64 a] w (TupPost (.tuple #[.string r, .int .i64 c]) w)) :
    Calls Tryz.prog 158 #[.agg (EdA 2 a t u), .string s] w (TupPost (.tuple #[.string r, errV c]) w) := by
  have hB := (Below.refl w.heap.size w).alloc (Nat.le_refl _) (.cells (EdA 2 a t u) 88)
  have hx := Bx.new w 88 (EdA 2 a t u)
  have HB := Lib.hid (And.intro hB hx)
  clear hB hx
  have HP := Lib.hid hP
  have HE := Lib.hid (fun W => impl_errorOf c W)
  generalize errV c = E at *
  clear hP
  go_enter Tryz.func158, Tryz.ntmps158
  go_wp2_with fail
  refine (HP.out _).mono ?_
  rintro e w1 ⟨rfl, hb⟩
  have HB1 := Lib.hid (HB.out.1.trans (hb.mono HB.out.1.size))
  clear hb
  go_wp2_with fail
  refine (HE.out _).mono ?_
  rintro e w2 ⟨rfl, rfl⟩
  go_wp2
  go_ret2
  exact ⟨rfl, HB1.out⟩

set_option maxHeartbeats 6400000 in
set_option maxRecDepth 100000 in
theorem impl_open (a t : Int) (s u r : ByteArray) (E : Value) (w : World) (hP : ∀ w, Calls Tryz.prog 164 #[.string s, .int .i64 a, .string ⟨#[]⟩, .string ⟨#[]⟩] w (TupPost (.tuple #[.string r, E]) w)) :
    Calls Tryz.prog 162 #[.agg (EdA 3 a t u), .string s] w (TupPost (.tuple #[.string r, E]) w) := by
  have hB := (Below.refl w.heap.size w).alloc (Nat.le_refl _) (.cells (EdA 3 a t u) 89)
  have hx := Bx.new w 89 (EdA 3 a t u)
  have HB := Lib.hid (And.intro hB hx)
  clear hB hx
  have HP := Lib.hid hP
  clear hP
  go_enter Tryz.func162, Tryz.ntmps162
  go_wp2_with fail
  refine (HP.out _).mono ?_
  rintro e w1 ⟨rfl, hb⟩
  have HB1 := Lib.hid (HB.out.1.trans (hb.mono HB.out.1.size))
  clear hb
  go_wp2
  go_ret2
  exact ⟨rfl, HB1.out⟩

set_option maxHeartbeats 6400000 in
set_option maxRecDepth 100000 in
theorem impl_name (a t : Int) (s tx r : ByteArray) (E : Value) (w : World) (hu : tx.size = 2) (hP : ∀ w, Calls Tryz.prog 164 #[.string s, .int .i64 a, .string (tx.extract 0 1), .string (tx.extract 1 tx.size)] w (TupPost (.tuple #[.string r, E]) w)) :
    Calls Tryz.prog 168 #[.agg (EdA 5 a t tx), .string s] w (TupPost (.tuple #[.string r, E]) w) := by
  have hB := (Below.refl w.heap.size w).alloc (Nat.le_refl _) (.cells (EdA 5 a t tx) 91)
  have hx := Bx.new w 91 (EdA 5 a t tx)
  have HB := Lib.hid (And.intro hB hx)
  clear hB hx
  have HP := Lib.hid hP
  have hk2 := slice_one tx (by omega)
  have hk3 := slice_rest tx (by omega)
  generalize tx.extract 0 1 = p1 at *
  generalize tx.extract 1 tx.size = p2 at *
  clear hP
  go_enter Tryz.func168, Tryz.ntmps168
  go_wp2_with fail
  go_upto_region 1 with fail
  refine wp_region_free (by kernel_rfl) [
      .val [] (fun _ => .string s),
      .val [] (fun _ => .pointer (some ⟨w.heap.size, 1, none⟩)),
      .val [] (fun _ => .int .i64 a),
      .val [] (fun _ => .pointer (some ⟨w.heap.size, 3, none⟩)),
      .val [] (fun _ => .string tx),
      .val [] (fun _ => .string p1),
      .val [] (fun _ => .pointer (some ⟨w.heap.size, 3, none⟩)),
      .val [] (fun _ => .string tx),
      .val [] (fun _ => .string p2),
      .val [] (fun _ => .tuple #[.string r, E]),
      .val [] (fun _ => .string r),
      .val [] (fun _ => E),
      .val [] (fun _ => .string r),
      .val [] (fun _ => E)] ?hp ?hfw ?deps ?oks ?steps ?tail
  case hp => kernel_rfl
  case hfw => kernel_rfl
  case deps => kernel_rfl
  case oks =>
    intro F hF
    simp only [List.mem_cons, List.not_mem_nil, or_false] at hF
    rcases hF with rfl | rfl | rfl | rfl | rfl | rfl | rfl | rfl | rfl | rfl | rfl | rfl | rfl | rfl
    all_goals trivial
  case steps =>
    refine Steps.cons ?_ ?_
    · refine FreeStep.val [] _ rfl rfl fun u β W hW hn fr hfr K hK => ?_
      simp only [frameL, putL, Act.put, List.setIfInBounds_toArray, List.set_cons_zero, List.set_cons_succ, Nat.zero_add, Nat.reduceAdd] at hfr
      subst hfr
      have HK := Lib.hid hK
      clear hK hn
      go_simp
      have h9 := HK.out
      revert h9
      clear HK
      go_simp
      try exact id
    refine Steps.cons ?_ ?_
    · refine FreeStep.val [] _ rfl rfl fun u β W hW hn fr hfr K hK => ?_
      simp only [frameL, putL, Act.put, List.setIfInBounds_toArray, List.set_cons_zero, List.set_cons_succ, Nat.zero_add, Nat.reduceAdd] at hfr
      subst hfr
      obtain ⟨e0, e1, e2, e3, el⟩ := id (Bx.all4 (HB.out.2.later hW))
      have HK := Lib.hid hK
      clear hK hn
      go_simp
      have h9 := HK.out
      revert h9
      clear HK
      go_simp
      try exact id
    refine Steps.cons ?_ ?_
    · refine FreeStep.val [] _ rfl rfl fun u β W hW hn fr hfr K hK => ?_
      simp only [frameL, putL, Act.put, List.setIfInBounds_toArray, List.set_cons_zero, List.set_cons_succ, Nat.zero_add, Nat.reduceAdd] at hfr
      subst hfr
      have e1 : u 1 = .pointer (some ⟨w.heap.size, 1, none⟩) := Have.get (k := 1) hn rfl
      simp only [e1] at hK
      obtain ⟨e0, e1, e2, e3, el⟩ := id (Bx.all4 (HB.out.2.later hW))
      have HK := Lib.hid hK
      clear hK hn
      go_simp
      have h9 := HK.out
      revert h9
      clear HK
      go_simp
      try exact id
    refine Steps.cons ?_ ?_
    · refine FreeStep.val [] _ rfl rfl fun u β W hW hn fr hfr K hK => ?_
      simp only [frameL, putL, Act.put, List.setIfInBounds_toArray, List.set_cons_zero, List.set_cons_succ, Nat.zero_add, Nat.reduceAdd] at hfr
      subst hfr
      obtain ⟨e0, e1, e2, e3, el⟩ := id (Bx.all4 (HB.out.2.later hW))
      have HK := Lib.hid hK
      clear hK hn
      go_simp
      have h9 := HK.out
      revert h9
      clear HK
      go_simp
      try exact id
    refine Steps.cons ?_ ?_
    · refine FreeStep.val [] _ rfl rfl fun u β W hW hn fr hfr K hK => ?_
      simp only [frameL, putL, Act.put, List.setIfInBounds_toArray, List.set_cons_zero, List.set_cons_succ, Nat.zero_add, Nat.reduceAdd] at hfr
      subst hfr
      have e3 : u 3 = .pointer (some ⟨w.heap.size, 3, none⟩) := Have.get (k := 3) hn rfl
      simp only [e3] at hK
      obtain ⟨e0, e1, e2, e3, el⟩ := id (Bx.all4 (HB.out.2.later hW))
      have HK := Lib.hid hK
      clear hK hn
      go_simp
      have h9 := HK.out
      revert h9
      clear HK
      go_simp
      try exact id
    refine Steps.cons ?_ ?_
    · refine FreeStep.val [] _ rfl rfl fun u β W hW hn fr hfr K hK => ?_
      simp only [frameL, putL, Act.put, List.setIfInBounds_toArray, List.set_cons_zero, List.set_cons_succ, Nat.zero_add, Nat.reduceAdd] at hfr
      subst hfr
      have e4 : u 4 = .string tx := Have.get (k := 4) hn rfl
      simp only [e4] at hK
      have HK := Lib.hid hK
      clear hK hn
      go_simp
      have h9 := HK.out
      revert h9
      clear HK
      go_simp
      try exact id
    refine Steps.cons ?_ ?_
    · refine FreeStep.val [] _ rfl rfl fun u β W hW hn fr hfr K hK => ?_
      simp only [frameL, putL, Act.put, List.setIfInBounds_toArray, List.set_cons_zero, List.set_cons_succ, Nat.zero_add, Nat.reduceAdd] at hfr
      subst hfr
      obtain ⟨e0, e1, e2, e3, el⟩ := id (Bx.all4 (HB.out.2.later hW))
      have HK := Lib.hid hK
      clear hK hn
      go_simp
      have h9 := HK.out
      revert h9
      clear HK
      go_simp
      try exact id
    refine Steps.cons ?_ ?_
    · refine FreeStep.val [] _ rfl rfl fun u β W hW hn fr hfr K hK => ?_
      simp only [frameL, putL, Act.put, List.setIfInBounds_toArray, List.set_cons_zero, List.set_cons_succ, Nat.zero_add, Nat.reduceAdd] at hfr
      subst hfr
      have e6 : u 6 = .pointer (some ⟨w.heap.size, 3, none⟩) := Have.get (k := 6) hn rfl
      simp only [e6] at hK
      obtain ⟨e0, e1, e2, e3, el⟩ := id (Bx.all4 (HB.out.2.later hW))
      have HK := Lib.hid hK
      clear hK hn
      go_simp
      have h9 := HK.out
      revert h9
      clear HK
      go_simp
      try exact id
    refine Steps.cons ?_ ?_
    · refine FreeStep.val [] _ rfl rfl fun u β W hW hn fr hfr K hK => ?_
      simp only [frameL, putL, Act.put, List.setIfInBounds_toArray, List.set_cons_zero, List.set_cons_succ, Nat.zero_add, Nat.reduceAdd] at hfr
      subst hfr
      have e7 : u 7 = .string tx := Have.get (k := 7) hn rfl
      simp only [e7] at hK
      have HK := Lib.hid hK
      clear hK hn
      go_simp
      have h9 := HK.out
      revert h9
      clear HK
      go_simp
      try exact id
    refine Steps.cons ?_ ?_
    · refine FreeStep.calm [] _ rfl rfl fun u β W hW hn fr hfr K hK => ?_
      simp only [frameL, putL, Act.put, List.setIfInBounds_toArray, List.set_cons_zero, List.set_cons_succ, Nat.zero_add, Nat.reduceAdd] at hfr
      subst hfr
      have e0 : u 0 = .string s := Have.get (k := 0) hn rfl
      have e2 : u 2 = .int .i64 a := Have.get (k := 2) hn rfl
      have e5 : u 5 = .string p1 := Have.get (k := 5) hn rfl
      have e8 : u 8 = .string p2 := Have.get (k := 8) hn rfl
      simp only [e0, e2, e5, e8] at hK
      have HK := Lib.hid hK
      clear hK hn
      go_simp
      refine (HP.out _).mono ?_
      rintro e w1 ⟨rfl, hb1⟩
      have h9 := HK.out _ hb1
      revert h9
      clear HK
      go_simp
      try exact id
    refine Steps.cons ?_ ?_
    · refine FreeStep.val [] _ rfl rfl fun u β W hW hn fr hfr K hK => ?_
      simp only [frameL, putL, Act.put, List.setIfInBounds_toArray, List.set_cons_zero, List.set_cons_succ, Nat.zero_add, Nat.reduceAdd] at hfr
      subst hfr
      have e9 : u 9 = .tuple #[.string r, E] := Have.get (k := 9) hn rfl
      simp only [e9] at hK
      have HK := Lib.hid hK
      clear hK hn
      go_simp
      have h9 := HK.out
      revert h9
      clear HK
      go_simp
      try exact id
    refine Steps.cons ?_ ?_
    · refine FreeStep.val [] _ rfl rfl fun u β W hW hn fr hfr K hK => ?_
      simp only [frameL, putL, Act.put, List.setIfInBounds_toArray, List.set_cons_zero, List.set_cons_succ, Nat.zero_add, Nat.reduceAdd] at hfr
      subst hfr
      have e9 : u 9 = .tuple #[.string r, E] := Have.get (k := 9) hn rfl
      simp only [e9] at hK
      have HK := Lib.hid hK
      clear hK hn
      go_simp
      have h9 := HK.out
      revert h9
      clear HK
      go_simp
      try exact id
    refine Steps.cons ?_ ?_
    · refine FreeStep.val [] _ rfl rfl fun u β W hW hn fr hfr K hK => ?_
      simp only [frameL, putL, Act.put, List.setIfInBounds_toArray, List.set_cons_zero, List.set_cons_succ, Nat.zero_add, Nat.reduceAdd] at hfr
      subst hfr
      have e10 : u 10 = .string r := Have.get (k := 10) hn rfl
      simp only [e10] at hK
      have HK := Lib.hid hK
      clear hK hn
      go_simp
      have h9 := HK.out
      revert h9
      clear HK
      go_simp
      try exact id
    refine Steps.cons ?_ ?_
    · refine FreeStep.val [] _ rfl rfl fun u β W hW hn fr hfr K hK => ?_
      simp only [frameL, putL, Act.put, List.setIfInBounds_toArray, List.set_cons_zero, List.set_cons_succ, Nat.zero_add, Nat.reduceAdd] at hfr
      subst hfr
      have e11 : u 11 = E := Have.get (k := 11) hn rfl
      simp only [e11] at hK
      have HK := Lib.hid hK
      clear hK hn
      go_simp
      have h9 := HK.out
      revert h9
      clear HK
      go_simp
      try exact id
    exact Steps.nil
  case tail =>
    intro u_ β W hW hn hdis hbnd
    have z0 : u_ 0 = .string s := Have.get (k := 0) hn rfl
    have z1 : u_ 1 = .pointer (some ⟨w.heap.size, 1, none⟩) := Have.get (k := 1) hn rfl
    have z2 : u_ 2 = .int .i64 a := Have.get (k := 2) hn rfl
    have z3 : u_ 3 = .pointer (some ⟨w.heap.size, 3, none⟩) := Have.get (k := 3) hn rfl
    have z4 : u_ 4 = .string tx := Have.get (k := 4) hn rfl
    have z5 : u_ 5 = .string p1 := Have.get (k := 5) hn rfl
    have z6 : u_ 6 = .pointer (some ⟨w.heap.size, 3, none⟩) := Have.get (k := 6) hn rfl
    have z7 : u_ 7 = .string tx := Have.get (k := 7) hn rfl
    have z8 : u_ 8 = .string p2 := Have.get (k := 8) hn rfl
    have z9 : u_ 9 = .tuple #[.string r, E] := Have.get (k := 9) hn rfl
    have z10 : u_ 10 = .string r := Have.get (k := 10) hn rfl
    have z11 : u_ 11 = E := Have.get (k := 11) hn rfl
    have z12 : u_ 12 = .string r := Have.get (k := 12) hn rfl
    have z13 : u_ 13 = E := Have.get (k := 13) hn rfl
    rw [← frameL_eq (by kernel_rfl)]
    clear hn hdis hbnd
    simp only [frameL, putL, Act.put, List.setIfInBounds_toArray, List.set_cons_zero, List.set_cons_succ, Nat.zero_add, Nat.reduceAdd, z0, z1, z2, z3, z4, z5, z6, z7, z8, z9, z10, z11, z12, z13]
    clear z0 z1 z2 z3 z4 z5 z6 z7 z8 z9 z10 z11 z12 z13
    have hwc := HB.out.1.trans (hW.mono HB.out.1.size)
    go_wp2
    go_ret2
    exact ⟨rfl, hwc⟩

set_option maxHeartbeats 6400000 in
set_option maxRecDepth 100000 in
theorem impl_wrap_range (a t : Nat) (s u : ByteArray) (w : World) (h60 : s.size ≤ 60) (h : t < a ∨ s.size < t) :
    Calls Tryz.prog 166 #[.agg (EdA 4 a t u), .string s] w (TupPost (.tuple #[.string ⟨#[]⟩, errV 2]) w) := by
  have hB := (Below.refl w.heap.size w).alloc (Nat.le_refl _) (.cells (EdA 4 (a : Int) (t : Int) u) 90)
  have hx := Bx.new w 90 (EdA 4 (a : Int) (t : Int) u)
  have HB := Lib.hid (And.intro hB hx)
  clear hB hx
  show Calls _ _ _ _ (TupPost (.tuple #[.string ⟨#[]⟩, .iface 93 (.agg #[.int .i64 2])]) w)
  by_cases h1 : t < a
  · have d1 : decide ((t : Int) < (a : Int)) = true := decide_eq_true (by omega)
    clear h
    go_enter Tryz.func166, Tryz.ntmps166
    go_wp2
    go_ret2
    exact ⟨rfl, HB.out.1⟩
  · have h2 : s.size < t := by omega
    have d1 : decide ((t : Int) < (a : Int)) = false := decide_eq_false (by omega)
    have d2 : decide ((s.size : Int) < (t : Int)) = true := decide_eq_true (by omega)
    clear h
    go_enter Tryz.func166, Tryz.ntmps166
    go_wp2
    go_ret2
    exact ⟨rfl, HB.out.1⟩

set_option maxHeartbeats 6400000 in
set_option maxRecDepth 100000 in
theorem impl_wrap_state (a t : Nat) (s u : ByteArray) (w : World) (hs : IsW s) (hu : u.size = 2) (ha : a ≤ t) (ht : t ≤ s.size) (hm : mB (s.extract a t).data.toList = false) :
    Calls Tryz.prog 166 #[.agg (EdA 4 a t u), .string s] w (TupPost (.tuple #[.string ⟨#[]⟩, errV 4]) w) := by
  have hB := (Below.refl w.heap.size w).alloc (Nat.le_refl _) (.cells (EdA 4 (a : Int) (t : Int) u) 90)
  have hx := Bx.new w 90 (EdA 4 (a : Int) (t : Int) u)
  have HB := Lib.hid (And.intro hB hx)
  clear hB hx
  have h60 := hs.1
  have hM := fun W => impl_IsMatched_yes (s.extract a t) W (isW_sub hs a t)
  simp only [← mB_size] at hM
  rw [hm] at hM
  have HM := Lib.hid hM
  have d1_ : decide ((t : Int) < (a : Int)) = false := decide_eq_false (by omega)
  have d2_ : decide ((s.size : Int) < (t : Int)) = false := decide_eq_false (by omega)
  have n1_ : ¬ (t < a) := by omega
  have n2_ : ¬ (s.size < t) := by omega
  have hsl := slice_ab s a t ha ht
  show Calls _ _ _ _ (TupPost (.tuple #[.string ⟨#[]⟩, .iface 93 (.agg #[.int .i64 4])]) w)
  generalize s.extract a t = b at *
  clear hs hM hm
  go_enter Tryz.func166, Tryz.ntmps166
  go_wp2_with fail
  refine (HM.out _).mono ?_
  rintro e w1 ⟨rfl, hb⟩
  have HX := Lib.hid (HB.out.2.later hb)
  have HB1 := Lib.hid (HB.out.1.trans (hb.mono HB.out.1.size))
  clear hb
  go_wp2
  go_ret2
  exact ⟨rfl, HB1.out⟩
set_option maxHeartbeats 6400000 in
set_option maxRecDepth 100000 in
theorem impl_wrap_yes (a t : Nat) (s u : ByteArray) (w : World) (hs : IsW s) (hu : u.size = 2) (ha : a ≤ t) (ht : t ≤ s.size) (hm : mB (s.extract a t).data.toList = true) (r : ByteArray) (c : Int) (hr : toldV (wrapW s u a t) = .tuple #[.string r, .int .i64 c]) :
    Calls Tryz.prog 166 #[.agg (EdA 4 a t u), .string s] w (TupPost (.tuple #[.string r, errV c]) w) := by
  have hB := (Below.refl w.heap.size w).alloc (Nat.le_refl _) (.cells (EdA 4 (a : Int) (t : Int) u) 90)
  have hx := Bx.new w 90 (EdA 4 (a : Int) (t : Int) u)
  have HB := Lib.hid (And.intro hB hx)
  clear hB hx
  have h60 := hs.1
  have hM := fun W => impl_IsMatched_yes (s.extract a t) W (isW_sub hs a t)
  simp only [← mB_size] at hM
  rw [hm] at hM
  have HM := Lib.hid hM
  have d1_ : decide ((t : Int) < (a : Int)) = false := decide_eq_false (by omega)
  have d2_ : decide ((s.size : Int) < (t : Int)) = false := decide_eq_false (by omega)
  have n1_ : ¬ (t < a) := by omega
  have n2_ : ¬ (s.size < t) := by omega
  have hsl := slice_ab s a t ha ht
  have hz : (wrapW s u a t).size ≤ 1048576 := by have q1 := ext_le s 0 a h60; have q2 := one_le u; have q3 := ext_le s a t h60; have q4 := rest_le u hu; have q5 := ext_le s t s.size h60; simp only [wrapW, ByteArray.size_append]; omega
  have hT := fun W => impl_told (wrapW s u a t) W hz
  rw [hr] at hT
  unfold wrapW at hT
  clear hr hz
  have HE := Lib.hid (fun W => impl_errorOf c W)
  generalize errV c = E at *
  have hk1 := slice_head s a (by omega)
  have hk2 := slice_one u (by omega)
  have hk3 := slice_rest u (by omega)
  have hk4 := slice_from s t ht
  have q1 := ext_le s 0 a h60
  have q2 := one_le u
  have q3 := ext_le s a t h60
  have q4 := rest_le u hu
  have q5 := ext_le s t s.size h60
  generalize s.extract 0 a = p1 at *
  generalize u.extract 0 1 = p2 at *
  generalize u.extract 1 u.size = p4 at *
  generalize s.extract t s.size = p5 at *
  generalize s.extract a t = p3 at *
  have HT := Lib.hid hT
  clear hT
  have n1 : (p1 ++ p2).size ≤ 61 := by rw [ByteArray.size_append]; omega
  have n2 : (p1 ++ p2 ++ p3).size ≤ 121 := by rw [ByteArray.size_append]; omega
  have n3 : (p1 ++ p2 ++ p3 ++ p4).size ≤ 122 := by rw [ByteArray.size_append]; omega
  clear hs hM hm
  go_enter Tryz.func166, Tryz.ntmps166
  go_wp2_with fail
  refine (HM.out _).mono ?_
  rintro e w1 ⟨rfl, hb⟩
  have HX := Lib.hid (HB.out.2.later hb)
  have HB1 := Lib.hid (HB.out.1.trans (hb.mono HB.out.1.size))
  clear hb
  obtain ⟨c0, c1, c2, c3, cl⟩ := id HX.out.all4
  go_wp2_with fail
  go_quiet ((go_at_call 155; exact Calls.quiet_of_same ((HT.out _).mono fun e w' h => ⟨h.1, h.2.symm⟩)))
  go_wp2_with fail
  refine (HE.out _).mono ?_
  rintro e w2 ⟨rfl, rfl⟩
  go_wp2
  go_ret2
  exact ⟨rfl, below_drewN HB1.out _⟩
end Go.Proofs.YtcdgfmaclgegnaaGreatDoor
