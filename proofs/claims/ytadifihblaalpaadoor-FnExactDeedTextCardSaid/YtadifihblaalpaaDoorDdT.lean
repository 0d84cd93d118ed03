/- The text of a deed, of the model. -/
import Derived.Test.YtadifihblaalpaaDoorDdI
import Derived.Test.YtadifihblaalpaaDoorRowT
namespace Go.Proofs.YtadifihblaalpaaDoor
open Go.RowKit
set_option linter.unusedVariables false

def kwD (k : Nat) : ByteArray := if k = 1 then ⟨#[115, 101, 110, 100]⟩ else if k = 2 then ⟨#[100, 101, 108, 105, 118, 101, 114]⟩ else if k = 3 then ⟨#[99, 111, 112, 121]⟩ else if k = 4 then ⟨#[100, 114, 111, 112]⟩ else if k = 5 then ⟨#[115, 97, 118, 101]⟩ else ⟨#[99, 114, 97, 115, 104]⟩
theorem kwD_size (k : Nat) : (kwD k).size ≤ 7 := by unfold kwD; (repeat' split) <;> decide
def ddWords : Array Value := #[.string ⟨#[]⟩, .string ⟨#[115, 101, 110, 100]⟩, .string ⟨#[100, 101, 108, 105, 118, 101, 114]⟩, .string ⟨#[99, 111, 112, 121]⟩, .string ⟨#[100, 114, 111, 112]⟩, .string ⟨#[115, 97, 118, 101]⟩, .string ⟨#[99, 114, 97, 115, 104]⟩]
def ddTold : Array Value := #[.int .i64 0, .int .i64 2, .int .i64 1, .int .i64 1, .int .i64 1, .int .i64 0, .int .i64 0]
theorem ddWords_at (k : Nat) (hk : 1 ≤ k ∧ k ≤ 6) : ddWords[k]? = some (.string (kwD k)) := by
  obtain rfl | rfl | rfl | rfl | rfl | rfl : k = 1 ∨ k = 2 ∨ k = 3 ∨ k = 4 ∨ k = 5 ∨ k = 6 := by omega
  all_goals rfl
theorem ddTold_at (k : Nat) (hk : 1 ≤ k ∧ k ≤ 6) : ddTold[k]? = some (.int .i64 (toldD k : Int)) := by
  obtain rfl | rfl | rfl | rfl | rfl | rfl : k = 1 ∨ k = 2 ∨ k = 3 ∨ k = 4 ∨ k = 5 ∨ k = 6 := by omega
  all_goals rfl
theorem forms_kw (k : Nat) (hk : 1 ≤ k ∧ k ≤ 6) : formsC[k * 2]? = some (.string (kwD k)) := by
  obtain rfl | rfl | rfl | rfl | rfl | rfl : k = 1 ∨ k = 2 ∨ k = 3 ∨ k = 4 ∨ k = 5 ∨ k = 6 := by omega
  all_goals rfl
/-- The text of a deed. -/
def deedT (k a b : Int) : ByteArray := if deedB k a b = true then rowT (kwD k.toNat) ([a, b].take (toldD k.toNat)) else ⟨#[]⟩
theorem deedB_big {k a b : Int} (h : deedB k a b = true) : (1 ≤ k ∧ k ≤ 6) ∧ (0 ≤ a ∧ a ≤ 999) ∧ (0 ≤ b ∧ b ≤ 999) := by
  unfold deedB at h
  have := of_decide_eq_true h
  exact ⟨this.1, this.2.1, this.2.2.1⟩
def sliceOf (v : Value) (n : Nat) : Value := match v with | .slice (some a) _ c => .slice (some a) n c | _ => .nilFunc
/-- A fresh box's pointer. -/
def PtrE (base : Nat) (T : TypeId) (cs : Array Value) : EP Unit := fun w v _ bs => ∃ b, v = .pointer (some ⟨b, 0, none⟩) ∧ Bx w b T cs ∧ bs = [b] ∧ base ≤ b
theorem ptre_ok (base : Nat) (T : TypeId) (cs : Array Value) : EP.Ok base (PtrE base T cs) where
  kept := by rintro w w' v x bs ⟨b, rfl, h, rfl, hb⟩ hs; exact ⟨b, rfl, h.same (hs b (by simp)), rfl, hb⟩
  lt := by
    rintro w v x bs ⟨b, rfl, h, rfl, hb⟩ c hc
    rw [List.mem_singleton.1 hc]
    exact ⟨hb, h.lt⟩
  nodup := by rintro w v x bs ⟨b, rfl, h, rfl, hb⟩; simp
theorem PtrE.new {base : Nat} (T : TypeId) (cs : Array Value) (w : World) (h : base ≤ w.heap.size) : PtrE base T cs (w.alloc (.cells cs T)) (.pointer (some ⟨w.heap.size, 0, none⟩)) () [w.heap.size] := ⟨w.heap.size, rfl, Bx.new _ _ _, rfl, h⟩
theorem told_le (k : Nat) : toldD k ≤ 2 := by unfold toldD; split <;> (try split) <;> omega
theorem two_take (a b : Int) (m : Nat) (hm : m ≤ 2) : ([a, b].take m).length = m := by rw [List.length_take]; simp; omega
theorem two_cells {w : World} {g : Nat} {a b : Int} {m : Nat} {T : TypeId} (hx : Bx w g T #[.int .i64 a, .int .i64 b]) : ∀ (j : Nat) x, ([a, b].take m)[j]? = some x → w.cell? ⟨g, 0 + j, none⟩ = some (.int .i64 x) := by
  intro j x hj
  rw [Nat.zero_add]
  rw [List.getElem?_take] at hj
  split at hj
  · match j, hj with
    | 0, hj => cases hj; exact hx.cell 0 _ rfl
    | 1, hj => cases hj; exact hx.cell 1 _ rfl
  · cases hj
theorem big_take {a b : Int} {m : Nat} (ha : 0 ≤ a ∧ a ≤ 999) (hb : 0 ≤ b ∧ b ≤ 999) : Big ([a, b].take m) := by
  intro x hx
  have := List.mem_of_mem_take hx
  simp only [List.mem_cons, List.not_mem_nil, or_false] at this
  rcases this with rfl | rfl <;> omega
set_option maxHeartbeats 6400000 in
set_option maxRecDepth 100000 in
theorem spec_DeedText (k a b : Int) (w : World) :
    Calls Tryd.prog 5 #[.agg #[.int .i64 k, .int .i64 a, .int .i64 b]] w (TupPost (.string (deedT k a b)) w) := by
  have hx := Bx.new w 25 #[.int .i64 k, .int .i64 a, .int .i64 b]
  have hB := (Below.refl w.heap.size w).alloc (Nat.le_refl _) (.cells #[.int .i64 k, .int .i64 a, .int .i64 b] 25)
  obtain ⟨c0, c1, c2, cl⟩ := id hx.all3
  have HV := Lib.hid fun W => spec_deed k a b W
  unfold deedT
  cases hd : deedB k a b with
  | false =>
    rw [hd] at HV
    rw [if_neg (by simp)]
    have HX := Lib.hid (And.intro hx hB)
    clear hx hB hd
    go_enter Tryd.func5, Tryd.ntmps5
    go_wp2_with fail
    refine (HV.out _).mono ?_
    rintro e w1 ⟨rfl, hb1⟩
    go_wp2
    go_ret
    exact ⟨rfl, HX.out.2.trans (hb1.mono HX.out.2.size)⟩
  | true =>
    rw [hd] at HV
    rw [if_pos rfl]
    obtain ⟨hk, ha, hb⟩ := deedB_big hd
    obtain ⟨n, rfl⟩ : ∃ n : Nat, k = (n : Int) := ⟨k.toNat, by omega⟩
    have hn : 1 ≤ n ∧ n ≤ 6 := by omega
    rw [Int.toNat_natCast]
    have HW := Lib.hid (And.intro (ddWords_at n hn) (ddTold_at n hn))
    have hm := told_le n
    have hkw := kwD_size n
    generalize toldD n = m at *
    generalize kwD n = kw at *
    have HR := Lib.hid (fun (W : World) (g c : Nat) (hg : Bx W g 2 #[.int .i64 a, .int .i64 b]) => spec_row kw g 0 m c ([a, b].take m) W (by omega) (two_take a b m hm) (by omega) (big_take ha hb) hg.lt (two_cells hg))
    generalize rowT kw ([a, b].take m) = R at *
    have HX := Lib.hid (And.intro hx hB)
    have hn7 : n < 7 := by omega
    have hn0 : (0 : Int) ≤ (n : Int) := by omega
    have hn8 : (n : Int) < 7 := by omega
    have hm2 : (m : Int) ≤ 2 := by omega
    have hm0 : (0 : Int) ≤ (m : Int) := by omega
    clear hx hB hd hk ha hb
    go_enter Tryd.func5, Tryd.ntmps5
    go_wp2_with fail
    refine (HV.out _).mono ?_
    rintro e w1 ⟨rfl, hb1⟩
    have x1 := HX.out.1.later hb1
    have hB1 := HX.out.2.trans (hb1.mono HX.out.2.size)
    clear c0 c1 c2 cl hb1
    go_wp2_with fail
    refine (l08Words_run _).mono ?_
    rintro e w2 ⟨rfl, rfl⟩
    obtain ⟨W2, hW2⟩ : ∃ W2, W2 = (w1.alloc (.cells #[.string ⟨#[]⟩, .string ⟨#[115, 101, 110, 100]⟩, .string ⟨#[100, 101, 108, 105, 118, 101, 114]⟩, .string ⟨#[99, 111, 112, 121]⟩, .string ⟨#[100, 114, 111, 112]⟩, .string ⟨#[115, 97, 118, 101]⟩, .string ⟨#[99, 114, 97, 115, 104]⟩] 9)).alloc (.cells #[.int .i64 0, .int .i64 2, .int .i64 1, .int .i64 1, .int .i64 1, .int .i64 0, .int .i64 0] 3) := ⟨_, rfl⟩
    have y1 : Bx W2 w.heap.size 25 #[.int .i64 (n : Int), .int .i64 a, .int .i64 b] := by rw [hW2]; exact (x1.alloc _).alloc _
    have y2 : Bx W2 w1.heap.size 9 ddWords := by rw [hW2]; exact (Bx.new w1 _ _).alloc _
    have y3 : Bx W2 (w1.heap.size + 1) 3 ddTold := by
      rw [hW2]
      have t := Bx.new (w1.alloc (.cells #[.string ⟨#[]⟩, .string ⟨#[115, 101, 110, 100]⟩, .string ⟨#[100, 101, 108, 105, 118, 101, 114]⟩, .string ⟨#[99, 111, 112, 121]⟩, .string ⟨#[100, 114, 111, 112]⟩, .string ⟨#[115, 97, 118, 101]⟩, .string ⟨#[99, 114, 97, 115, 104]⟩] 9)) 3 ddTold
      rw [World.size_alloc] at t
      exact t
    have hB2 : Below w.heap.size w W2 := by rw [hW2]; exact (hB1.alloc hB1.size _).alloc (by rw [World.size_alloc]; have := hB1.size; omega) _
    have HY := Lib.hid (And.intro y1 (And.intro y2 (And.intro y3 hB2)))
    obtain ⟨wb, hwb⟩ : ∃ b, b = w1.heap.size := ⟨_, rfl⟩
    obtain ⟨tb, htb⟩ : ∃ b, b = w1.heap.size + 1 := ⟨_, rfl⟩
    go_upto_region 4 with fail
    rw [← hW2, ← htb, ← hwb]
    rw [← htb, ← hwb] at HY
    clear hW2 htb hwb y1 y2 y3 hB2 x1 hB1
    refine wp_region_free (by kernel_rfl) [
        .val [] (fun _ => .slice (some ⟨wb, 0, none⟩) 7 7),
        .val [] (fun _ => .pointer (some ⟨w.heap.size, 0, none⟩)),
        .val [] (fun _ => .int .i64 (n : Int)),
        .val [] (fun _ => .pointer (some ⟨wb, n, none⟩)),
        .val [] (fun _ => .string kw),
        .val [] (fun _ => .pointer (some ⟨w.heap.size, 1, none⟩)),
        .val [] (fun _ => .int .i64 a),
        .val [] (fun _ => .pointer (some ⟨w.heap.size, 2, none⟩)),
        .val [] (fun _ => .int .i64 b),
        .own (LitF W2.heap.size 2 #[.int .i64 a, .int .i64 b] 2) (),
        .val [] (fun _ => .slice (some ⟨tb, 0, none⟩) 7 7),
        .val [] (fun _ => .pointer (some ⟨w.heap.size, 0, none⟩)),
        .val [] (fun _ => .int .i64 (n : Int)),
        .val [] (fun _ => .pointer (some ⟨tb, n, none⟩)),
        .val [] (fun _ => .int .i64 (m : Int)),
        .val [9] (fun u => sliceOf (u 9) m),
        .val [] (fun _ => .string R),
        .val [] (fun _ => .string R)] ?hp ?hfw ?deps ?oks ?steps ?tail
    case hp => kernel_rfl
    case hfw => kernel_rfl
    case deps => kernel_rfl
    case oks =>
      intro F hF
      simp only [List.mem_cons, List.not_mem_nil, or_false] at hF
      rcases hF with rfl | rfl | rfl | rfl | rfl | rfl | rfl | rfl | rfl | rfl | rfl | rfl | rfl | rfl | rfl | rfl | rfl | rfl
      · trivial
      · trivial
      · trivial
      · trivial
      · trivial
      · trivial
      · trivial
      · trivial
      · trivial
      · exact ⟨_, litf_ok _ _ _ _⟩
      · trivial
      · trivial
      · trivial
      · trivial
      · trivial
      · trivial
      · trivial
      · trivial
    case steps =>
      refine Steps.cons ?_ ?_
      · refine FreeStep.val [] _ rfl rfl fun u β W hW hn fr hfr K hK => ?_
        simp only [frameL, putL, Act.put, List.setIfInBounds_toArray, List.set_cons_zero, List.set_cons_succ, Nat.zero_add, Nat.reduceAdd] at hfr
        subst hfr
        have HK := Lib.hid hK
        clear hK hn
        go_simp
        have h9 := HK.out
        revert h9
        clear HK
        go_simp
        try exact id
      refine Steps.cons ?_ ?_
      · refine FreeStep.val [] _ rfl rfl fun u β W hW hn fr hfr K hK => ?_
        simp only [frameL, putL, Act.put, List.setIfInBounds_toArray, List.set_cons_zero, List.set_cons_succ, Nat.zero_add, Nat.reduceAdd] at hfr
        subst hfr
        have HK := Lib.hid hK
        clear hK hn
        go_simp
        have h9 := HK.out
        revert h9
        clear HK
        go_simp
        try exact id
      refine Steps.cons ?_ ?_
      · refine FreeStep.val [] _ rfl rfl fun u β W hW hn fr hfr K hK => ?_
        simp only [frameL, putL, Act.put, List.setIfInBounds_toArray, List.set_cons_zero, List.set_cons_succ, Nat.zero_add, Nat.reduceAdd] at hfr
        subst hfr
        have e1 : u 1 = .pointer (some ⟨w.heap.size, 0, none⟩) := Have.get (k := 1) hn rfl
        simp only [e1] at hK
        obtain ⟨d0, d1, d2, dl⟩ := id (HY.out.1.later hW).all3
        have HK := Lib.hid hK
        clear hK hn
        go_simp
        have h9 := HK.out
        revert h9
        clear HK
        go_simp
        try exact id
      refine Steps.cons ?_ ?_
      · refine FreeStep.val [] _ rfl rfl fun u β W hW hn fr hfr K hK => ?_
        simp only [frameL, putL, Act.put, List.setIfInBounds_toArray, List.set_cons_zero, List.set_cons_succ, Nat.zero_add, Nat.reduceAdd] at hfr
        subst hfr
        have e0 : u 0 = .slice (some ⟨wb, 0, none⟩) 7 7 := Have.get (k := 0) hn rfl
        have e2 : u 2 = .int .i64 (n : Int) := Have.get (k := 2) hn rfl
        simp only [e0, e2] at hK
        have HK := Lib.hid hK
        clear hK hn
        go_simp
        have h9 := HK.out
        revert h9
        clear HK
        go_simp
        try exact id
      refine Steps.cons ?_ ?_
      · refine FreeStep.val [] _ rfl rfl fun u β W hW hn fr hfr K hK => ?_
        simp only [frameL, putL, Act.put, List.setIfInBounds_toArray, List.set_cons_zero, List.set_cons_succ, Nat.zero_add, Nat.reduceAdd] at hfr
        subst hfr
        have e3 : u 3 = .pointer (some ⟨wb, n, none⟩) := Have.get (k := 3) hn rfl
        simp only [e3] at hK
        have c9 := (HY.out.2.1.later hW).cell n _ HW.out.1
        have HK := Lib.hid hK
        clear hK hn
        go_simp
        have h9 := HK.out
        revert h9
        clear HK
        go_simp
        try exact id
      refine Steps.cons ?_ ?_
      · refine FreeStep.val [] _ rfl rfl fun u β W hW hn fr hfr K hK => ?_
        simp only [frameL, putL, Act.put, List.setIfInBounds_toArray, List.set_cons_zero, List.set_cons_succ, Nat.zero_add, Nat.reduceAdd] at hfr
        subst hfr
        have HK := Lib.hid hK
        clear hK hn
        go_simp
        have h9 := HK.out
        revert h9
        clear HK
        go_simp
        try exact id
      refine Steps.cons ?_ ?_
      · refine FreeStep.val [] _ rfl rfl fun u β W hW hn fr hfr K hK => ?_
        simp only [frameL, putL, Act.put, List.setIfInBounds_toArray, List.set_cons_zero, List.set_cons_succ, Nat.zero_add, Nat.reduceAdd] at hfr
        subst hfr
        have e5 : u 5 = .pointer (some ⟨w.heap.size, 1, none⟩) := Have.get (k := 5) hn rfl
        simp only [e5] at hK
        obtain ⟨d0, d1, d2, dl⟩ := id (HY.out.1.later hW).all3
        have HK := Lib.hid hK
        clear hK hn
        go_simp
        have h9 := HK.out
        revert h9
        clear HK
        go_simp
        try exact id
      refine Steps.cons ?_ ?_
      · refine FreeStep.val [] _ rfl rfl fun u β W hW hn fr hfr K hK => ?_
        simp only [frameL, putL, Act.put, List.setIfInBounds_toArray, List.set_cons_zero, List.set_cons_succ, Nat.zero_add, Nat.reduceAdd] at hfr
        subst hfr
        have HK := Lib.hid hK
        clear hK hn
        go_simp
        have h9 := HK.out
        revert h9
        clear HK
        go_simp
        try exact id
      refine Steps.cons ?_ ?_
      · refine FreeStep.val [] _ rfl rfl fun u β W hW hn fr hfr K hK => ?_
        simp only [frameL, putL, Act.put, List.setIfInBounds_toArray, List.set_cons_zero, List.set_cons_succ, Nat.zero_add, Nat.reduceAdd] at hfr
        subst hfr
        have e7 : u 7 = .pointer (some ⟨w.heap.size, 2, none⟩) := Have.get (k := 7) hn rfl
        simp only [e7] at hK
        obtain ⟨d0, d1, d2, dl⟩ := id (HY.out.1.later hW).all3
        have HK := Lib.hid hK
        clear hK hn
        go_simp
        have h9 := HK.out
        revert h9
        clear HK
        go_simp
        try exact id
      refine Steps.cons ?_ ?_
      · refine FreeStep.own (base := W2.heap.size) rfl (litf_ok _ _ _ _) fun u β W hW hn fr hfr K hK => ?_
        simp only [frameL, putL, Act.put, List.setIfInBounds_toArray, List.set_cons_zero, List.set_cons_succ, Nat.zero_add, Nat.reduceAdd] at hfr
        subst hfr
        have e6 : u 6 = .int .i64 a := Have.get (k := 6) hn rfl
        have e8 : u 8 = .int .i64 b := Have.get (k := 8) hn rfl
        simp only [e6, e8] at hK
        have hsz := hW.size
        have HK := Lib.hid hK
        clear hK hn
        go_simp
        exact HK.out _ [W.heap.size] _ ((Below.refl _ _).alloc (Nat.le_refl _) _) (LitF.new _ _ _ W hsz) (fun b hb => by rw [List.mem_singleton.1 hb]; exact Nat.le_refl _)
      refine Steps.cons ?_ ?_
      · refine FreeStep.val [] _ rfl rfl fun u β W hW hn fr hfr K hK => ?_
        simp only [frameL, putL, Act.put, List.setIfInBounds_toArray, List.set_cons_zero, List.set_cons_succ, Nat.zero_add, Nat.reduceAdd] at hfr
        subst hfr
        have HK := Lib.hid hK
        clear hK hn
        go_simp
        have h9 := HK.out
        revert h9
        clear HK
        go_simp
        try exact id
      refine Steps.cons ?_ ?_
      · refine FreeStep.val [] _ rfl rfl fun u β W hW hn fr hfr K hK => ?_
        simp only [frameL, putL, Act.put, List.setIfInBounds_toArray, List.set_cons_zero, List.set_cons_succ, Nat.zero_add, Nat.reduceAdd] at hfr
        subst hfr
        have HK := Lib.hid hK
        clear hK hn
        go_simp
        have h9 := HK.out
        revert h9
        clear HK
        go_simp
        try exact id
      refine Steps.cons ?_ ?_
      · refine FreeStep.val [] _ rfl rfl fun u β W hW hn fr hfr K hK => ?_
        simp only [frameL, putL, Act.put, List.setIfInBounds_toArray, List.set_cons_zero, List.set_cons_succ, Nat.zero_add, Nat.reduceAdd] at hfr
        subst hfr
        have e11 : u 11 = .pointer (some ⟨w.heap.size, 0, none⟩) := Have.get (k := 11) hn rfl
        simp only [e11] at hK
        obtain ⟨d0, d1, d2, dl⟩ := id (HY.out.1.later hW).all3
        have HK := Lib.hid hK
        clear hK hn
        go_simp
        have h9 := HK.out
        revert h9
        clear HK
        go_simp
        try exact id
      refine Steps.cons ?_ ?_
      · refine FreeStep.val [] _ rfl rfl fun u β W hW hn fr hfr K hK => ?_
        simp only [frameL, putL, Act.put, List.setIfInBounds_toArray, List.set_cons_zero, List.set_cons_succ, Nat.zero_add, Nat.reduceAdd] at hfr
        subst hfr
        have e10 : u 10 = .slice (some ⟨tb, 0, none⟩) 7 7 := Have.get (k := 10) hn rfl
        have e12 : u 12 = .int .i64 (n : Int) := Have.get (k := 12) hn rfl
        simp only [e10, e12] at hK
        have HK := Lib.hid hK
        clear hK hn
        go_simp
        have h9 := HK.out
        revert h9
        clear HK
        go_simp
        try exact id
      refine Steps.cons ?_ ?_
      · refine FreeStep.val [] _ rfl rfl fun u β W hW hn fr hfr K hK => ?_
        simp only [frameL, putL, Act.put, List.setIfInBounds_toArray, List.set_cons_zero, List.set_cons_succ, Nat.zero_add, Nat.reduceAdd] at hfr
        subst hfr
        have e13 : u 13 = .pointer (some ⟨tb, n, none⟩) := Have.get (k := 13) hn rfl
        simp only [e13] at hK
        have c9 := (HY.out.2.2.1.later hW).cell n _ HW.out.2
        have HK := Lib.hid hK
        clear hK hn
        go_simp
        have h9 := HK.out
        revert h9
        clear HK
        go_simp
        try exact id
      refine Steps.cons ?_ ?_
      · refine FreeStep.val [9] _ rfl rfl fun u β W hW hn fr hfr K hK => ?_
        simp only [frameL, putL, Act.put, List.setIfInBounds_toArray, List.set_cons_zero, List.set_cons_succ, Nat.zero_add, Nat.reduceAdd] at hfr
        subst hfr
        have f9 : (LitF W2.heap.size 2 #[.int .i64 a, .int .i64 b] 2) W (u 9) () (β 9) := Have.get (k := 9) hn rfl
        have e14 : u 14 = .int .i64 (m : Int) := Have.get (k := 14) hn rfl
        obtain ⟨b9, e9, x9, _, _⟩ := f9
        have e9b : sliceOf (u 9) m = .slice (some ⟨b9, 0, none⟩) m 2 := by rw [e9]; rfl
        have hon9 : only [9] u 9 = u 9 := rfl
        simp only [hon9, e14, e9b] at hK
        have HK := Lib.hid hK
        clear hK hn hon9 e9b
        go_simp
        have h9 := HK.out
        revert h9
        clear HK
        go_simp
        try exact id
      refine Steps.cons ?_ ?_
      · refine FreeStep.calm [] _ rfl rfl fun u β W hW hn fr hfr K hK => ?_
        simp only [frameL, putL, Act.put, List.setIfInBounds_toArray, List.set_cons_zero, List.set_cons_succ, Nat.zero_add, Nat.reduceAdd] at hfr
        subst hfr
        have e4 : u 4 = .string kw := Have.get (k := 4) hn rfl
        have e15 := Have.get (k := 15) hn rfl
        have e15_ : u 15 = sliceOf (u 9) m := e15
        clear e15
        have f9 : (LitF W2.heap.size 2 #[.int .i64 a, .int .i64 b] 2) W (u 9) () (β 9) := Have.get (k := 9) hn rfl
        obtain ⟨b9, e9, x9, _, _⟩ := f9
        have e9b : sliceOf (u 9) m = .slice (some ⟨b9, 0, none⟩) m 2 := by rw [e9]; rfl
        rw [e9b] at e15_
        simp only [e4, e15_] at hK
        have HK := Lib.hid hK
        clear hK hn e9b
        go_simp
        refine (HR.out _ _ _ x9).mono ?_
        rintro e wn ⟨rfl, hbn⟩
        have h9 := HK.out _ hbn
        revert h9
        clear HK
        go_simp
        try exact id
      refine Steps.cons ?_ ?_
      · refine FreeStep.val [] _ rfl rfl fun u β W hW hn fr hfr K hK => ?_
        simp only [frameL, putL, Act.put, List.setIfInBounds_toArray, List.set_cons_zero, List.set_cons_succ, Nat.zero_add, Nat.reduceAdd] at hfr
        subst hfr
        have e16 : u 16 = .string R := Have.get (k := 16) hn rfl
        simp only [e16] at hK
        have HK := Lib.hid hK
        clear hK hn
        go_simp
        have h9 := HK.out
        revert h9
        clear HK
        go_simp
        try exact id
      exact Steps.nil
    case tail =>
      intro u_ β_ W hW hn hdis hbnd
      have z0 : u_ 0 = .slice (some ⟨wb, 0, none⟩) 7 7 := Have.get (k := 0) hn rfl
      have z1 : u_ 1 = .pointer (some ⟨w.heap.size, 0, none⟩) := Have.get (k := 1) hn rfl
      have z2 : u_ 2 = .int .i64 (n : Int) := Have.get (k := 2) hn rfl
      have z3 : u_ 3 = .pointer (some ⟨wb, n, none⟩) := Have.get (k := 3) hn rfl
      have z4 : u_ 4 = .string kw := Have.get (k := 4) hn rfl
      have z5 : u_ 5 = .pointer (some ⟨w.heap.size, 1, none⟩) := Have.get (k := 5) hn rfl
      have z6 : u_ 6 = .int .i64 a := Have.get (k := 6) hn rfl
      have z7 : u_ 7 = .pointer (some ⟨w.heap.size, 2, none⟩) := Have.get (k := 7) hn rfl
      have z8 : u_ 8 = .int .i64 b := Have.get (k := 8) hn rfl
      have g9 : (LitF W2.heap.size 2 #[.int .i64 a, .int .i64 b] 2) W (u_ 9) () (β_ 9) := Have.get (k := 9) hn rfl
      have z10 : u_ 10 = .slice (some ⟨tb, 0, none⟩) 7 7 := Have.get (k := 10) hn rfl
      have z11 : u_ 11 = .pointer (some ⟨w.heap.size, 0, none⟩) := Have.get (k := 11) hn rfl
      have z12 : u_ 12 = .int .i64 (n : Int) := Have.get (k := 12) hn rfl
      have z13 : u_ 13 = .pointer (some ⟨tb, n, none⟩) := Have.get (k := 13) hn rfl
      have z14 : u_ 14 = .int .i64 (m : Int) := Have.get (k := 14) hn rfl
      have z15 : u_ 15 = sliceOf (u_ 9) m := Have.get (k := 15) hn rfl
      have z16 : u_ 16 = .string R := Have.get (k := 16) hn rfl
      have z17 : u_ 17 = .string R := Have.get (k := 17) hn rfl
      rw [← frameL_eq (by kernel_rfl)]
      clear hn hdis hbnd
      simp only [frameL, putL, Act.put, List.setIfInBounds_toArray, List.set_cons_zero, List.set_cons_succ, Nat.zero_add, Nat.reduceAdd, z0, z1, z2, z3, z4, z5, z6, z7, z8, z10, z11, z12, z13, z14, z15, z16, z17]
      clear z0 z1 z2 z3 z4 z5 z6 z7 z8 z10 z11 z12 z13 z14 z15 z16 z17
      go_wp2
      go_ret
      exact ⟨rfl, HY.out.2.2.2.trans (hW.mono HY.out.2.2.2.size)⟩
end Go.Proofs.YtadifihblaalpaaDoor
