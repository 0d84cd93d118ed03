/- Deeds: what a valid one is, of the program. -/
import Derived.Test.YtadifihblaalpaaDoorDd
import Derived.Test.YtadifihblaalpaaDoorLitF
import Derived.Test.YtadifihblaalpaaDoorFree
namespace Go.Proofs.YtadifihblaalpaaDoor
open Go.RowKit
set_option linter.unusedVariables false

theorem dd_below (n m : Int) (w : World) : Calls Tryd.prog 28 #[.int .i64 n, .int .i64 m] w fun e w' => e = .returned (.bool (decide (0 ≤ n ∧ n < m))) ∧ w = w' := by
  by_cases h1 : 0 ≤ n
  · by_cases h2 : n < m
    · rw [decide_eq_true ⟨h1, h2⟩]
      go_enter Tryd.func28, Tryd.ntmps28
      go_wp2
      go_ret
      exact ⟨by simp <;> omega, rfl⟩
    · rw [decide_eq_false (fun h => h2 h.2)]
      go_enter Tryd.func28, Tryd.ntmps28
      go_wp2
      go_ret
      exact ⟨by simp <;> omega, rfl⟩
  · rw [decide_eq_false (fun h => h1 h.1)]
    have h3 : n < 0 := by omega
    clear h1
    go_enter Tryd.func28, Tryd.ntmps28
    go_wp2
    go_ret
    exact ⟨rfl, rfl⟩
def ddB (n m : Int) : Bool := decide (0 ≤ n ∧ n < m)
def ddA (xs : List Int) (m : Int) : Bool := xs.all fun x => ddB x m
/-- All of a slice that lies anywhere. -/
theorem dd_all (g o n c : Nat) (xs : List Int) (m : Int) (w : World) (hn : xs.length = n) (hn2 : n ≤ 1048576) (hc : ∀ (j : Nat) x, xs[j]? = some x → w.cell? ⟨g, o + j, none⟩ = some (.int .i64 x)) :
    Calls Tryd.prog 22 #[.slice (some ⟨g, o, none⟩) n c, .int .i64 m] w fun e w' => e = .returned (.bool (ddA xs m)) ∧ w = w' := by
  have Hn := Lib.hid hn
  have Hc := Lib.hid hc
  clear hn hc
  go_enter Tryd.func22, Tryd.ntmps22
  go_wp2
  go_loop [9] (fun i => ∃ k : Nat, k ≤ n ∧ i = .int .i64 k ∧ Hid (ddA (xs.take k) m = true)) (fun i => n - (intOf i).toNat)
  case atStart => exact ⟨0, Nat.zero_le _, rfl, rfl⟩
  case round =>
    obtain ⟨k, hk, rfl, hA⟩ := hrel
    by_cases hlt : k < n
    · have hkx : k < xs.length := by rw [Hn.out]; exact hlt
      obtain ⟨x, hx⟩ : ∃ x, xs[k]? = some x := ⟨_, List.getElem?_eq_getElem hkx⟩
      have hc := Hc.out k x hx
      have HB := Lib.hid fun W => dd_below x m W
      rw [show (decide (0 ≤ x ∧ x < m)) = ddB x m from rfl] at HB
      cases hb : ddB x m with
      | true =>
        have hnx : Hid (ddA (xs.take (k + 1)) m = true) := by
          have h0 := hA.out
          show _ = _
          unfold ddA at h0 ⊢
          rw [List.take_add_one, hx, Option.toList_some, List.all_append, h0, List.all_cons, hb]; rfl
        rw [hb] at HB
        clear hkx hx hb
        go_wp2_with (go_at_call 28; refine (HB.out _).mono ?_; rintro e w' ⟨rfl, rfl⟩)
        go_round
        case rel => exact ⟨k + 1, by omega, by go_num, hnx⟩
        case measure => simp [intOf]; omega
      | false =>
        have hno : Hid (ddA xs m = false) := by
          show _ = _
          unfold ddA
          rw [List.all_eq_false]
          exact ⟨x, List.mem_of_getElem? hx, by simp [hb]⟩
        rw [hb] at HB
        clear hkx hx hb
        go_wp2_with (go_at_call 28; refine (HB.out _).mono ?_; rintro e w' ⟨rfl, rfl⟩)
        go_ret
        exact ⟨by rw [hno.out]; rfl, rfl⟩
    · have e : k = n := by omega
      subst e
      have hall : Hid (ddA xs m = true) := by
        have h1 := hA.out
        rwa [← Hn.out, List.take_length] at h1
      clear hA
      go_wp2
      go_ret
      exact ⟨by rw [hall.out]; rfl, rfl⟩

def formsC : Array Value := #[.string ⟨#[]⟩, .int .i64 0, .string ⟨#[115, 101, 110, 100]⟩, .int .i64 2, .string ⟨#[100, 101, 108, 105, 118, 101, 114]⟩, .int .i64 1, .string ⟨#[99, 111, 112, 121]⟩, .int .i64 1, .string ⟨#[100, 114, 111, 112]⟩, .int .i64 1, .string ⟨#[115, 97, 118, 101]⟩, .int .i64 0, .string ⟨#[99, 114, 97, 115, 104]⟩, .int .i64 0]
def FormsPost (w : World) (e : Ending) (w' : World) : Prop := e = .returned (.slice (some ⟨w.heap.size, 0, none⟩) 7 7) ∧ w' = w.alloc (.cells formsC 40)
theorem impl_forms (w : World) : Calls Tryd.prog 15 #[] w (FormsPost w) := by
  go_enter Tryd.func15, Tryd.ntmps15
  go_wp2
  go_ret
  exact ⟨rfl, rfl⟩
def toldD (k : Nat) : Nat := if k = 1 then 2 else if k ≤ 4 then 1 else 0
theorem forms_at (k : Nat) (hk : 1 ≤ k ∧ k ≤ 6) : formsC[k * 2 + 1]? = some (.int .i64 (toldD k : Int)) := by
  obtain rfl | rfl | rfl | rfl | rfl | rfl : k = 1 ∨ k = 2 ∨ k = 3 ∨ k = 4 ∨ k = 5 ∨ k = 6 := by omega
  all_goals rfl
theorem deed_told {k : Nat} (a b : Int) (hk : 1 ≤ k ∧ k ≤ 6) : deedB k a b = (ddA ([a, b].take (toldD k)) 1000 && ddA ([a, b].drop (toldD k)) 1) := by
  obtain rfl | rfl | rfl | rfl | rfl | rfl : k = 1 ∨ k = 2 ∨ k = 3 ∨ k = 4 ∨ k = 5 ∨ k = 6 := by omega
  all_goals
    rw [Bool.eq_iff_iff]
    simp [deedB, toldD, ddB, ddA]
    try omega
def ptrOf (v : Value) (o : Nat) : Value := match v with | .slice (some a) _ _ => .pointer (some ⟨a.block, o, none⟩) | _ => .nilFunc
set_option maxHeartbeats 6400000 in
set_option maxRecDepth 100000 in
theorem impl_ValidDeed (k a b : Int) (w : World) :
    Calls Tryd.prog 14 #[.agg #[.int .i64 k, .int .i64 a, .int .i64 b]] w (TupPost (.bool (deedB k a b)) w) := by
  have hx := Bx.new w 25 #[.int .i64 k, .int .i64 a, .int .i64 b]
  have hB := (Below.refl w.heap.size w).alloc (Nat.le_refl _) (.cells #[.int .i64 k, .int .i64 a, .int .i64 b] 25)
  obtain ⟨c0, c1, c2, cl⟩ := id hx.all3
  by_cases h1 : k < 1
  case pos =>
    have e : deedB k a b = false := decide_eq_false (fun h => by omega)
    rw [e]
    clear e
    have HB := Lib.hid hB
    clear hB hx
    go_enter Tryd.func14, Tryd.ntmps14
    go_wp2
    go_ret
    exact ⟨rfl, HB.out⟩
  by_cases h6 : 6 < k
  case pos =>
    have e : deedB k a b = false := decide_eq_false (fun h => by omega)
    rw [e]
    clear e
    have HB := Lib.hid hB
    clear hB hx
    go_enter Tryd.func14, Tryd.ntmps14
    go_wp2
    go_ret
    exact ⟨rfl, HB.out⟩
  obtain ⟨n, rfl⟩ : ∃ n : Nat, k = (n : Int) := ⟨k.toNat, by omega⟩
  have hn : 1 ≤ n ∧ n ≤ 6 := by omega
  rw [deed_told a b hn]
  have Hf := Lib.hid (forms_at n hn)
  have hm : toldD n ≤ 2 := by unfold toldD; split <;> (try split) <;> omega
  have hL : ([a, b].take (toldD n)).length = toldD n := by rw [List.length_take]; simp; omega
  have hD : ([a, b].drop (toldD n)).length = 2 - toldD n := by rw [List.length_drop]; rfl
  generalize toldD n = m at *
  have HX := Lib.hid (And.intro hx hB)
  have HL := Lib.hid (And.intro hL hD)
  have hn7 : n < 7 := by omega
  have hn0 : (0 : Int) ≤ (n : Int) := by omega
  have hn8 : (n : Int) < 7 := by omega
  clear hx hB hL hD h1 h6
  go_enter Tryd.func14, Tryd.ntmps14
  go_upto_region 3 with fail
  refine wp_region_free (by kernel_rfl) [
      .val [] (fun _ => .pointer (some ⟨w.heap.size, 1, none⟩)),
      .val [] (fun _ => .int .i64 a),
      .val [] (fun _ => .pointer (some ⟨w.heap.size, 2, none⟩)),
      .val [] (fun _ => .int .i64 b),
      .own (LitF w.heap.size 2 #[.int .i64 a, .int .i64 b] 2) (),
      .own (LitF w.heap.size 40 formsC 7) (),
      .val [] (fun _ => .pointer (some ⟨w.heap.size, 0, none⟩)),
      .val [] (fun _ => .int .i64 (n : Int)),
      .val [5] (fun u => ptrOf (u 5) (n * 2)),
      .val [5] (fun u => ptrOf (u 5) (n * 2 + 1)),
      .val [] (fun _ => .int .i64 (m : Int)),
      .val [4] (fun u => u 4),
      .val [] (fun _ => .int .i64 (m : Int))] ?hp ?hfw ?deps ?oks ?steps ?tail
  case hp => kernel_rfl
  case hfw => kernel_rfl
  case deps => kernel_rfl
  case oks =>
    intro F hF
    simp only [List.mem_cons, List.not_mem_nil, or_false] at hF
    rcases hF with rfl | rfl | rfl | rfl | rfl | rfl | rfl | rfl | rfl | rfl | rfl | rfl | rfl
    · trivial
    · trivial
    · trivial
    · trivial
    · exact ⟨_, litf_ok _ _ _ _⟩
    · exact ⟨_, litf_ok _ _ _ _⟩
    · trivial
    · trivial
    · trivial
    · trivial
    · trivial
    · trivial
    · trivial
  case steps =>
    refine Steps.cons ?_ ?_
    · refine FreeStep.val [] _ rfl rfl fun u β W hW hn fr hfr K hK => ?_
      simp only [frameL, putL, Act.put, List.setIfInBounds_toArray, List.set_cons_zero, List.set_cons_succ, Nat.zero_add, Nat.reduceAdd] at hfr
      subst hfr
      have HK := Lib.hid hK
      clear hK hn
      go_simp
      have h9 := HK.out
      revert h9
      clear HK
      go_simp
      try exact id
    refine Steps.cons ?_ ?_
    · refine FreeStep.val [] _ rfl rfl fun u β W hW hn fr hfr K hK => ?_
      simp only [frameL, putL, Act.put, List.setIfInBounds_toArray, List.set_cons_zero, List.set_cons_succ, Nat.zero_add, Nat.reduceAdd] at hfr
      subst hfr
      have e0 : u 0 = .pointer (some ⟨w.heap.size, 1, none⟩) := Have.get (k := 0) hn rfl
      simp only [e0] at hK
      obtain ⟨d0, d1, d2, dl⟩ := id (HX.out.1.later hW).all3
      have HK := Lib.hid hK
      clear hK hn
      go_simp
      have h9 := HK.out
      revert h9
      clear HK
      go_simp
      try exact id
    refine Steps.cons ?_ ?_
    · refine FreeStep.val [] _ rfl rfl fun u β W hW hn fr hfr K hK => ?_
      simp only [frameL, putL, Act.put, List.setIfInBounds_toArray, List.set_cons_zero, List.set_cons_succ, Nat.zero_add, Nat.reduceAdd] at hfr
      subst hfr
      have HK := Lib.hid hK
      clear hK hn
      go_simp
      have h9 := HK.out
      revert h9
      clear HK
      go_simp
      try exact id
    refine Steps.cons ?_ ?_
    · refine FreeStep.val [] _ rfl rfl fun u β W hW hn fr hfr K hK => ?_
      simp only [frameL, putL, Act.put, List.setIfInBounds_toArray, List.set_cons_zero, List.set_cons_succ, Nat.zero_add, Nat.reduceAdd] at hfr
      subst hfr
      have e2 : u 2 = .pointer (some ⟨w.heap.size, 2, none⟩) := Have.get (k := 2) hn rfl
      simp only [e2] at hK
      obtain ⟨d0, d1, d2, dl⟩ := id (HX.out.1.later hW).all3
      have HK := Lib.hid hK
      clear hK hn
      go_simp
      have h9 := HK.out
      revert h9
      clear HK
      go_simp
      try exact id
    refine Steps.cons ?_ ?_
    · refine FreeStep.own (base := w.heap.size) rfl (litf_ok _ _ _ _) fun u β W hW hn fr hfr K hK => ?_
      simp only [frameL, putL, Act.put, List.setIfInBounds_toArray, List.set_cons_zero, List.set_cons_succ, Nat.zero_add, Nat.reduceAdd] at hfr
      subst hfr
      have e1 : u 1 = .int .i64 a := Have.get (k := 1) hn rfl
      have e3 : u 3 = .int .i64 b := Have.get (k := 3) hn rfl
      simp only [e1, e3] at hK
      have hsz := hW.size
      have hsz2 : w.heap.size ≤ W.heap.size := by have := hW.size; simp at this; omega
      have HK := Lib.hid hK
      clear hK hn
      go_simp
      exact HK.out _ [W.heap.size] _ ((Below.refl _ _).alloc (Nat.le_refl _) _) (LitF.new _ _ _ W hsz2) (fun b hb => by rw [List.mem_singleton.1 hb]; exact Nat.le_refl _)
    refine Steps.cons ?_ ?_
    · refine FreeStep.own (base := w.heap.size) rfl (litf_ok _ _ _ _) fun u β W hW hn fr hfr K hK => ?_
      simp only [frameL, putL, Act.put, List.setIfInBounds_toArray, List.set_cons_zero, List.set_cons_succ, Nat.zero_add, Nat.reduceAdd] at hfr
      subst hfr
      have hsz := hW.size
      have hsz2 : w.heap.size ≤ W.heap.size := by have := hW.size; simp at this; omega
      have HK := Lib.hid hK
      clear hK hn
      go_simp
      refine (impl_forms _).mono ?_
      rintro e wn ⟨rfl, rfl⟩
      exact HK.out _ [W.heap.size] _ ((Below.refl _ _).alloc (Nat.le_refl _) _) (LitF.new _ _ _ W hsz2) (fun b hb => by rw [List.mem_singleton.1 hb]; exact Nat.le_refl _)
    refine Steps.cons ?_ ?_
    · refine FreeStep.val [] _ rfl rfl fun u β W hW hn fr hfr K hK => ?_
      simp only [frameL, putL, Act.put, List.setIfInBounds_toArray, List.set_cons_zero, List.set_cons_succ, Nat.zero_add, Nat.reduceAdd] at hfr
      subst hfr
      have HK := Lib.hid hK
      clear hK hn
      go_simp
      have h9 := HK.out
      revert h9
      clear HK
      go_simp
      try exact id
    refine Steps.cons ?_ ?_
    · refine FreeStep.val [] _ rfl rfl fun u β W hW hn fr hfr K hK => ?_
      simp only [frameL, putL, Act.put, List.setIfInBounds_toArray, List.set_cons_zero, List.set_cons_succ, Nat.zero_add, Nat.reduceAdd] at hfr
      subst hfr
      have e6 : u 6 = .pointer (some ⟨w.heap.size, 0, none⟩) := Have.get (k := 6) hn rfl
      simp only [e6] at hK
      obtain ⟨d0, d1, d2, dl⟩ := id (HX.out.1.later hW).all3
      have HK := Lib.hid hK
      clear hK hn
      go_simp
      have h9 := HK.out
      revert h9
      clear HK
      go_simp
      try exact id
    refine Steps.cons ?_ ?_
    · refine FreeStep.val [5] _ rfl rfl fun u β W hW hn fr hfr K hK => ?_
      simp only [frameL, putL, Act.put, List.setIfInBounds_toArray, List.set_cons_zero, List.set_cons_succ, Nat.zero_add, Nat.reduceAdd] at hfr
      subst hfr
      have f5 : (LitF w.heap.size 40 formsC 7) W (u 5) () (β 5) := Have.get (k := 5) hn rfl
      have e7 : u 7 = .int .i64 (n : Int) := Have.get (k := 7) hn rfl
      obtain ⟨b5, e5, x5, _, _⟩ := f5
      have e5b : ptrOf (u 5) (n * 2) = .pointer (some ⟨b5, n * 2, none⟩) := by rw [e5]; rfl
      have hon5 : only [5] u 5 = u 5 := rfl
      simp only [hon5, e7, e5b] at hK
      have HK := Lib.hid hK
      clear hK hn hon5 e5b
      go_simp
      have h9 := HK.out
      revert h9
      clear HK
      go_simp
      try exact id
    refine Steps.cons ?_ ?_
    · refine FreeStep.val [5] _ rfl rfl fun u β W hW hn fr hfr K hK => ?_
      simp only [frameL, putL, Act.put, List.setIfInBounds_toArray, List.set_cons_zero, List.set_cons_succ, Nat.zero_add, Nat.reduceAdd] at hfr
      subst hfr
      have e8 := Have.get (k := 8) hn rfl
      have e8_ : u 8 = ptrOf (u 5) (n * 2) := e8
      clear e8
      have f5 : (LitF w.heap.size 40 formsC 7) W (u 5) () (β 5) := Have.get (k := 5) hn rfl
      obtain ⟨b5, e5, x5, _, _⟩ := f5
      have e5b : ptrOf (u 5) (n * 2) = .pointer (some ⟨b5, n * 2, none⟩) := by rw [e5]; rfl
      have e5c : ptrOf (u 5) (n * 2 + 1) = .pointer (some ⟨b5, n * 2 + 1, none⟩) := by rw [e5]; rfl
      rw [e5b] at e8_
      have hon5 : only [5] u 5 = u 5 := rfl
      simp only [hon5, e8_, e5c] at hK
      have HK := Lib.hid hK
      clear hK hn hon5 e5b e5c
      go_simp
      have h9 := HK.out
      revert h9
      clear HK
      go_simp
      try exact id
    refine Steps.cons ?_ ?_
    · refine FreeStep.val [] _ rfl rfl fun u β W hW hn fr hfr K hK => ?_
      simp only [frameL, putL, Act.put, List.setIfInBounds_toArray, List.set_cons_zero, List.set_cons_succ, Nat.zero_add, Nat.reduceAdd] at hfr
      subst hfr
      have e9 := Have.get (k := 9) hn rfl
      have e9_ : u 9 = ptrOf (u 5) (n * 2 + 1) := e9
      clear e9
      have f5 : (LitF w.heap.size 40 formsC 7) W (u 5) () (β 5) := Have.get (k := 5) hn rfl
      obtain ⟨b5, e5, x5, _, _⟩ := f5
      have e5c : ptrOf (u 5) (n * 2 + 1) = .pointer (some ⟨b5, n * 2 + 1, none⟩) := by rw [e5]; rfl
      rw [e5c] at e9_
      have c5 := x5.cell (n * 2 + 1) _ Hf.out
      simp only [e9_] at hK
      have HK := Lib.hid hK
      clear hK hn e5c
      go_simp
      have h9 := HK.out
      revert h9
      clear HK
      go_simp
      try exact id
    refine Steps.cons ?_ ?_
    · refine FreeStep.val [4] _ rfl rfl fun u β W hW hn fr hfr K hK => ?_
      simp only [frameL, putL, Act.put, List.setIfInBounds_toArray, List.set_cons_zero, List.set_cons_succ, Nat.zero_add, Nat.reduceAdd] at hfr
      subst hfr
      have f4 : (LitF w.heap.size 2 #[.int .i64 a, .int .i64 b] 2) W (u 4) () (β 4) := Have.get (k := 4) hn rfl
      have hon4 : only [4] u 4 = u 4 := rfl
      simp only [hon4] at hK
      have HK := Lib.hid hK
      clear hK hn hon4
      go_simp
      have h9 := HK.out
      revert h9
      clear HK
      go_simp
      try exact id
    refine Steps.cons ?_ ?_
    · refine FreeStep.val [] _ rfl rfl fun u β W hW hn fr hfr K hK => ?_
      simp only [frameL, putL, Act.put, List.setIfInBounds_toArray, List.set_cons_zero, List.set_cons_succ, Nat.zero_add, Nat.reduceAdd] at hfr
      subst hfr
      have e10 : u 10 = .int .i64 (m : Int) := Have.get (k := 10) hn rfl
      simp only [e10] at hK
      have HK := Lib.hid hK
      clear hK hn
      go_simp
      have h9 := HK.out
      revert h9
      clear HK
      go_simp
      try exact id
    exact Steps.nil
  case tail =>
    intro u_ β_ W hW hn hdis hbnd
    have z0 : u_ 0 = .pointer (some ⟨w.heap.size, 1, none⟩) := Have.get (k := 0) hn rfl
    have z1 : u_ 1 = .int .i64 a := Have.get (k := 1) hn rfl
    have z2 : u_ 2 = .pointer (some ⟨w.heap.size, 2, none⟩) := Have.get (k := 2) hn rfl
    have z3 : u_ 3 = .int .i64 b := Have.get (k := 3) hn rfl
    have g4 : (LitF w.heap.size 2 #[.int .i64 a, .int .i64 b] 2) W (u_ 4) () (β_ 4) := Have.get (k := 4) hn rfl
    have g5 : (LitF w.heap.size 40 formsC 7) W (u_ 5) () (β_ 5) := Have.get (k := 5) hn rfl
    have z6 : u_ 6 = .pointer (some ⟨w.heap.size, 0, none⟩) := Have.get (k := 6) hn rfl
    have z7 : u_ 7 = .int .i64 (n : Int) := Have.get (k := 7) hn rfl
    have z8 : u_ 8 = ptrOf (u_ 5) (n * 2) := Have.get (k := 8) hn rfl
    have z9 : u_ 9 = ptrOf (u_ 5) (n * 2 + 1) := Have.get (k := 9) hn rfl
    have z10 : u_ 10 = .int .i64 (m : Int) := Have.get (k := 10) hn rfl
    have z11 : u_ 11 = u_ 4 := Have.get (k := 11) hn rfl
    have z12 : u_ 12 = .int .i64 (m : Int) := Have.get (k := 12) hn rfl
    rw [← frameL_eq (by kernel_rfl)]
    clear hn hdis hbnd
    simp only [frameL, putL, Act.put, List.setIfInBounds_toArray, List.set_cons_zero, List.set_cons_succ, Nat.zero_add, Nat.reduceAdd, z0, z1, z2, z3, z6, z7, z8, z9, z10, z11, z12]
    clear z0 z1 z2 z3 z6 z7 z8 z9 z10 z11 z12
    obtain ⟨gn, e4, hbn, _, _⟩ := g4
    obtain ⟨g5b, e5, hb5, _, _⟩ := g5
    simp only [e4, e5, ptrOf]
    clear e4 e5 hb5
    have hwc : Below w.heap.size w W := HX.out.2.trans (hW.mono HX.out.2.size)
    have HBN := Lib.hid hbn
    have HWC := Lib.hid hwc
    have hm2 : (m : Int) ≤ 2 := by omega
    have hm0 : (0 : Int) ≤ (m : Int) := by omega
    clear hbn hwc c0 c1 c2 cl hW
    have hcells : ∀ (j : Nat) x, ([a, b] : List Int)[j]? = some x → W.cell? ⟨gn, j, none⟩ = some (.int .i64 x) := by
      intro j x hj
      match j, hj with
      | 0, hj => cases hj; exact HBN.out.cell 0 _ rfl
      | 1, hj => cases hj; exact HBN.out.cell 1 _ rfl
    have HFst := Lib.hid (fun (c : Nat) => dd_all gn 0 m c ([a, b].take m) 1000 W HL.out.1 (by omega) (fun j x hj => by
      rw [Nat.zero_add]
      exact hcells j x (by rw [List.getElem?_take] at hj; split at hj <;> first | exact hj | cases hj)))
    have HSnd := Lib.hid (fun (o c : Nat) (ho : o = m ∨ m = 2) => dd_all gn o (2 - m) c ([a, b].drop m) 1 W HL.out.2 (by omega) (fun j x hj => by
      rw [List.getElem?_drop] at hj
      rcases ho with rfl | rfl
      · exact hcells _ x hj
      · rw [List.getElem?_eq_none (by simp)] at hj; cases hj))
    generalize ddA ([a, b].take m) 1000 = R1 at *
    generalize ddA ([a, b].drop m) 1 = R2 at *
    clear hcells
    cases R1 with
    | false =>
      go_wp2_with fail
      refine (HFst.out _).mono ?_
      rintro e w1 ⟨rfl, rfl⟩
      go_wp2
      go_ret
      exact ⟨rfl, HWC.out⟩
    | true =>
      go_wp2_with fail
      refine (HFst.out _).mono ?_
      rintro e w1 ⟨rfl, rfl⟩
      by_cases hmm : m = 2
      · subst hmm
        go_wp2_with fail
        refine (HSnd.out _ _ (by simp)).mono ?_
        rintro e w1 ⟨rfl, rfl⟩
        go_wp2
        go_ret
        exact ⟨by first | rfl | simp, HWC.out⟩
      · have hms : ¬ (2 : Int) = (m : Int) := by omega
        have hms2 : ¬ 2 = m := by omega
        go_wp2_with fail
        refine (HSnd.out _ _ (by simp)).mono ?_
        rintro e w1 ⟨rfl, rfl⟩
        go_wp2
        go_ret
        exact ⟨by first | rfl | simp, HWC.out⟩
end Go.Proofs.YtadifihblaalpaaDoor
