/- Pairs of checkers, of the program. -/
import Derived.Test.YtfaiifiohomdmaaProd
import Derived.Test.YtfaiifiohomdmaaBelow
import Derived.IntWalk
namespace Go.Proofs.Ytfaiifiohomdmaa
open Go.RowKit
set_option linter.unusedVariables false

theorem mul_small {a b : Int} (ha : 0 ≤ a ∧ a ≤ 1000) (hb : 0 ≤ b ∧ b ≤ 1000) : 0 ≤ a * b ∧ a * b ≤ 1000000 := by
  obtain ⟨x, rfl⟩ := Int.eq_ofNat_of_zero_le ha.1
  obtain ⟨y, rfl⟩ := Int.eq_ofNat_of_zero_le hb.1
  have h : x * y ≤ 1000 * 1000 := Nat.mul_le_mul (by omega) (by omega)
  constructor
  · exact Int.mul_nonneg (by omega) (by omega)
  · have : ((x * y : Nat) : Int) ≤ 1000000 := by omega
    simpa using this
/-- A number that is small. -/
def Sm (a : Int) : Prop := 0 ≤ a ∧ a ≤ 1000
theorem wrap_mul {a b : Int} (ha : Sm a) (hb : Sm b) : IntKind.i64.wrap (a * b) = a * b := by have := mul_small ha hb; exact IntWalk.i64_in _ (by omega)
theorem wrap_mad {a b c : Int} (ha : Sm a) (hb : Sm b) (hc : Sm c) : IntKind.i64.wrap (a * b + c) = a * b + c := by have := mul_small ha hb; unfold Sm at hc; exact IntWalk.i64_in _ (by omega)

set_option maxHeartbeats 1600000 in
theorem pair_state (n : Nat) (m a b : Int) (w : World) (hn : n ≤ 1000) (ha : Sm a) (hb : Sm b) :
    Calls Try.prog 190 #[.agg #[.int .i64 (n : Int), .int .i64 m], .int .i64 a, .int .i64 b] w (TupPost (.int .i64 (pairS n a b)) w) := by
  have e1 := wrap_mul ha (show Sm (n : Int) from ⟨by omega, by omega⟩)
  have e2 := wrap_mad ha (show Sm (n : Int) from ⟨by omega, by omega⟩) hb
  have hB := (Below.refl w.heap.size w).alloc (Nat.le_refl _) (.cells #[.int .i64 (n : Int), .int .i64 m] 214)
  clear ha hb
  go_enter Try.func190, Try.ntmps190
  go_wp2
  go_ret
  exact ⟨rfl, hB⟩
theorem pair_last {base : Nat} {v : Value} {xs : List Int} {bs : List Nat} (w : World) (hn : 1 ≤ xs.length ∧ xs.length ≤ 1000) (h : IntsE base w v xs bs) :
    Calls Try.prog 231 #[v] w (fun e w' => e = .returned (.int .i64 (xs.getLastD 0)) ∧ w = w') := by
  obtain ⟨A, k, rfl⟩ := RowE.slice h
  obtain ⟨g, rfl, hg, _⟩ := RowE.head h (j := 0) (by omega)
  obtain ⟨x, hx⟩ : ∃ x, xs[xs.length - 1]? = some x := ⟨_, List.getElem?_eq_getElem (by omega)⟩
  have hc := IntsE.cell' h hx
  have hl : xs.getLastD 0 = x := by
    rw [List.getLastD_eq_getLast?, List.getLast?_eq_getElem?, hx]; rfl
  rw [hl]
  obtain ⟨n, hn'⟩ : ∃ n, n = xs.length := ⟨_, rfl⟩
  rw [← hn'] at hn hc ⊢
  have e1 : IntKind.i64.wrap ((n : Int) - 1) = ((n - 1 : Nat) : Int) := by rw [IntWalk.i64_in _ (by omega)]; omega
  clear h hx hl hn'
  go_enter Try.func231, Try.ntmps231
  go_wp2
  go_ret
  exact ⟨rfl, rfl⟩
/-- A row without its last element. -/
theorem ints_drop {base : Nat} {g n k : Nat} {xs : List Int} {bs : List Nat} {w : World} (h : IntsE base w (.slice (some ⟨g, 0, none⟩) n k) xs bs) (hn : xs.length = n) (h0 : 0 < n) : IntsE base w (.slice (some ⟨g, 0, none⟩) (n - 1) k) xs.dropLast bs := by
  refine ⟨?_, h.2⟩
  have h1 := h.1
  rw [hn] at h1
  have hl := h1.1
  have hd : xs.dropLast.length = n - 1 := by rw [List.length_dropLast, hn]
  rw [hd]
  have hf : (xs.dropLast.flatMap fun x => [Value.int .i64 x]) = (xs.flatMap fun x => [Value.int .i64 x]).take (n - 1) := by
    have e : ∀ ys : List Int, (ys.flatMap fun x => [Value.int .i64 x]) = ys.map fun x => Value.int .i64 x := fun ys => by
      induction ys with
      | nil => rfl
      | cons y ys ih => rw [List.flatMap_cons, ih]; rfl
    rw [e, e, List.dropLast_eq_take, List.map_take, hn]
  refine ⟨by rw [hf, List.length_take, hl]; omega, ?_⟩
  rcases h1.2 with ⟨h2, _⟩ | ⟨g', cap, cur, hv, hb, hg, hnc, hcm, hcs, htk⟩
  · cases h2
  · simp only [Value.slice.injEq, Option.some.injEq, Addr.mk.injEq, and_true, true_and] at hv
    obtain ⟨rfl, rfl⟩ := hv
    refine .inr ⟨g, k, cur, rfl, hb, hg, by omega, hcm, hcs, ?_⟩
    rw [hf, ← htk, List.take_take]
    congr 1
    omega
theorem own_cap {w : World} {base g n k : Nat} {e : TypeId} {size : Nat} {xs : List Value} (h : w.ownsRow base e size (.slice (some ⟨g, 0, none⟩) n k) n xs) : n ≤ k := by
  rcases h.2 with ⟨h2, _⟩ | ⟨g', cap, cur, hv, _, _, hnc, _⟩
  · cases h2
  · simp only [Value.slice.injEq, Option.some.injEq, Addr.mk.injEq, and_true, true_and] at hv
    obtain ⟨rfl, rfl⟩ := hv
    exact hnc
/-- The elements are small. -/
def SmL (xs : List Int) : Prop := ∀ x ∈ xs, Sm x
def SmP (xs : List (Int × Int)) : Prop := ∀ x ∈ xs, Sm x.1 ∧ Sm x.2
theorem fm_cf (f : FuncId) (fn : Func) (c : Code) (hf : Try.prog.funcs[f]? = some fn) (hname : (fn.name == "runtime.NumGoroutine") = false) (hb : fn.body = some c) (args : Array Value) (w : World) : (callFunc f args).run Try.prog w = .ok (.enter f args) w := by
  have h1 : fn.name ≠ "runtime.NumGoroutine" := by simpa using hname
  simp [callFunc, hf, h1, hb]
theorem sml_last {xs : List Int} (h : SmL xs) (hn : 1 ≤ xs.length) : Sm (xs.getLastD 0) := by
  rw [List.getLastD_eq_getLast?, List.getLast?_eq_getElem?, List.getElem?_eq_getElem (by omega)]
  exact h _ (List.getElem_mem _)

set_option maxHeartbeats 6400000 in
set_option maxRecDepth 100000 in
theorem pair_push (n : Nat) (m : Int) (x y : Int × Int) (w : World) (hn : n ≤ 1000) (hm : Sm m) (hx : Sm x.1 ∧ Sm x.2) (hy : Sm y.1 ∧ Sm y.2) :
    Calls Try.prog 220 #[.agg #[.int .i64 (n : Int), .int .i64 m], .agg #[.int .i64 x.1, .int .i64 x.2], .agg #[.int .i64 y.1, .int .i64 y.2]] w (TupPost (.agg #[.int .i64 (pairP n m x y).1, .int .i64 (pairP n m x y).2]) w) := by
  have e1 := wrap_mul hx.2 hm
  have e2 := wrap_mad hx.2 hm hy.2
  have QS := Lib.hid (fun W => pair_state n m x.1 y.1 W hn hx.1 hy.1)
  have hr : pairP n m x y = (pairS n x.1 y.1, x.2 * m + y.2) := rfl
  rw [hr]
  dsimp only
  generalize pairS n x.1 y.1 = z at *
  obtain ⟨x0, x1⟩ := x
  obtain ⟨y0, y1⟩ := y
  dsimp only at *
  clear hx hy hr hm hn
  have hb1 := (Below.refl w.heap.size w).alloc (Nat.le_refl _) (.cells #[.int .i64 (n : Int), .int .i64 m] 214)
  have t1 := (((Bx.new w 214 #[.int .i64 (n : Int), .int .i64 m]).alloc (.cells #[.int .i64 x0, .int .i64 x1] 115)).alloc (.cells #[.int .i64 y0, .int .i64 y1] 115)).alloc (.cells #[.int .i64 0, .int .i64 0] 115)
  have t2 := ((Bx.new (w.alloc (.cells #[.int .i64 (n : Int), .int .i64 m] 214)) 115 #[.int .i64 x0, .int .i64 x1]).alloc (.cells #[.int .i64 y0, .int .i64 y1] 115)).alloc (.cells #[.int .i64 0, .int .i64 0] 115)
  have t3 := (Bx.new ((w.alloc (.cells #[.int .i64 (n : Int), .int .i64 m] 214)).alloc (.cells #[.int .i64 x0, .int .i64 x1] 115)) 115 #[.int .i64 y0, .int .i64 y1]).alloc (.cells #[.int .i64 0, .int .i64 0] 115)
  have t4 := Bx.new (((w.alloc (.cells #[.int .i64 (n : Int), .int .i64 m] 214)).alloc (.cells #[.int .i64 x0, .int .i64 x1] 115)).alloc (.cells #[.int .i64 y0, .int .i64 y1] 115)) 115 #[.int .i64 0, .int .i64 0]
  have hB := ((hb1.alloc hb1.size (.cells #[.int .i64 x0, .int .i64 x1] 115)).alloc (by simp; omega) (.cells #[.int .i64 y0, .int .i64 y1] 115)).alloc (by simp; omega) (.cells #[.int .i64 0, .int .i64 0] 115)
  simp only [World.size_alloc] at t2 t3 t4
  go_enter Try.func220, Try.ntmps220
  go_upto_region 1 with fail
  obtain ⟨W0, hW0⟩ : ∃ W0, W0 = (((w.alloc (.cells #[.int .i64 (n : Int), .int .i64 m] 214)).alloc (.cells #[.int .i64 x0, .int .i64 x1] 115)).alloc (.cells #[.int .i64 y0, .int .i64 y1] 115)).alloc (.cells #[.int .i64 0, .int .i64 0] 115) := ⟨_, rfl⟩
  rw [← hW0] at t1 t2 t3 t4 hB ⊢
  clear hW0 hb1
  refine wp_region_free_last (by kernel_rfl) [
      .val [] (fun _ => .agg #[.int .i64 (n : Int), .int .i64 m]),
      .val [] (fun _ => .pointer (some ⟨w.heap.size + 1, 0, none⟩)),
      .val [] (fun _ => .int .i64 x0),
      .val [] (fun _ => .pointer (some ⟨w.heap.size + 1 + 1, 0, none⟩)),
      .val [] (fun _ => .int .i64 y0),
      .val [] (fun _ => .int .i64 z),
      .val [] (fun _ => .pointer (some ⟨w.heap.size + 1, 1, none⟩)),
      .val [] (fun _ => .int .i64 x1),
      .val [] (fun _ => .pointer (some ⟨w.heap.size, 1, none⟩)),
      .val [] (fun _ => .int .i64 m),
      .val [] (fun _ => .int .i64 (x1 * m)),
      .val [] (fun _ => .pointer (some ⟨w.heap.size + 1 + 1, 1, none⟩)),
      .val [] (fun _ => .int .i64 y1),
      .val [] (fun _ => .int .i64 (x1 * m + y1)),
      .val [] (fun _ => .agg #[.int .i64 z, .int .i64 (x1 * m + y1)])] ?hp ?hfw ?deps ?oks ?hl ?hpos ?steps
  case hp => kernel_rfl
  case hfw => kernel_rfl
  case deps => kernel_rfl
  case hl => kernel_rfl
  case hpos => kernel_rfl
  case oks =>
    intro F hF
    simp only [List.mem_cons, List.not_mem_nil, or_false] at hF
    rcases hF with rfl | rfl | rfl | rfl | rfl | rfl | rfl | rfl | rfl | rfl | rfl | rfl | rfl | rfl | rfl
    · trivial
    · trivial
    · trivial
    · trivial
    · trivial
    · trivial
    · trivial
    · trivial
    · trivial
    · trivial
    · trivial
    · trivial
    · trivial
    · trivial
    · trivial
  case steps =>
    refine StepsL.cons ?_ ?_
    · refine FreeStep.val [] _ rfl rfl fun u β W hW hn fr hfr K hK => ?_
      simp only [frameL, putL, Act.put, List.setIfInBounds_toArray, List.set_cons_zero, List.set_cons_succ, Nat.zero_add, Nat.reduceAdd] at hfr
      subst hfr
      have c0 := cellL (t1.cell 0 _ rfl) hW
      have c1 := cellL (t1.cell 1 _ rfl) hW
      have HK := Lib.hid hK
      clear hK hn
      go_simp
      have h9 := HK.out
      revert h9
      clear HK
      go_simp
      try exact id
    refine StepsL.cons ?_ ?_
    · refine FreeStep.val [] _ rfl rfl fun u β W hW hn fr hfr K hK => ?_
      simp only [frameL, putL, Act.put, List.setIfInBounds_toArray, List.set_cons_zero, List.set_cons_succ, Nat.zero_add, Nat.reduceAdd] at hfr
      subst hfr
      have HK := Lib.hid hK
      clear hK hn
      go_simp
      have h9 := HK.out
      revert h9
      clear HK
      go_simp
      try exact id
    refine StepsL.cons ?_ ?_
    · refine FreeStep.val [] _ rfl rfl fun u β W hW hn fr hfr K hK => ?_
      simp only [frameL, putL, Act.put, List.setIfInBounds_toArray, List.set_cons_zero, List.set_cons_succ, Nat.zero_add, Nat.reduceAdd] at hfr
      subst hfr
      have e1 : u 1 = .pointer (some ⟨w.heap.size + 1, 0, none⟩) := Have.get (k := 1) hn rfl
      simp only [e1] at hK
      have c0 := cellL (t2.cell 0 _ rfl) hW
      have HK := Lib.hid hK
      clear hK hn
      go_simp
      have h9 := HK.out
      revert h9
      clear HK
      go_simp
      try exact id
    refine StepsL.cons ?_ ?_
    · refine FreeStep.val [] _ rfl rfl fun u β W hW hn fr hfr K hK => ?_
      simp only [frameL, putL, Act.put, List.setIfInBounds_toArray, List.set_cons_zero, List.set_cons_succ, Nat.zero_add, Nat.reduceAdd] at hfr
      subst hfr
      have HK := Lib.hid hK
      clear hK hn
      go_simp
      have h9 := HK.out
      revert h9
      clear HK
      go_simp
      try exact id
    refine StepsL.cons ?_ ?_
    · refine FreeStep.val [] _ rfl rfl fun u β W hW hn fr hfr K hK => ?_
      simp only [frameL, putL, Act.put, List.setIfInBounds_toArray, List.set_cons_zero, List.set_cons_succ, Nat.zero_add, Nat.reduceAdd] at hfr
      subst hfr
      have e3 : u 3 = .pointer (some ⟨w.heap.size + 1 + 1, 0, none⟩) := Have.get (k := 3) hn rfl
      simp only [e3] at hK
      have c0 := cellL (t3.cell 0 _ rfl) hW
      have HK := Lib.hid hK
      clear hK hn
      go_simp
      have h9 := HK.out
      revert h9
      clear HK
      go_simp
      try exact id
    refine StepsL.cons ?_ ?_
    · refine FreeStep.calm [] _ rfl rfl fun u β W hW hn fr hfr K hK => ?_
      simp only [frameL, putL, Act.put, List.setIfInBounds_toArray, List.set_cons_zero, List.set_cons_succ, Nat.zero_add, Nat.reduceAdd] at hfr
      subst hfr
      have e0 : u 0 = .agg #[.int .i64 (n : Int), .int .i64 m] := Have.get (k := 0) hn rfl
      have e2 : u 2 = .int .i64 x0 := Have.get (k := 2) hn rfl
      have e4 : u 4 = .int .i64 y0 := Have.get (k := 4) hn rfl
      simp only [e0, e2, e4] at hK
      have Q := Lib.hid (QS.out W)
      have HK := Lib.hid hK
      clear hK hn
      go_simp
      refine Q.out.mono ?_
      rintro e w9 ⟨rfl, hb9⟩
      exact HK.out w9 hb9
    refine StepsL.cons ?_ ?_
    · refine FreeStep.val [] _ rfl rfl fun u β W hW hn fr hfr K hK => ?_
      simp only [frameL, putL, Act.put, List.setIfInBounds_toArray, List.set_cons_zero, List.set_cons_succ, Nat.zero_add, Nat.reduceAdd] at hfr
      subst hfr
      have HK := Lib.hid hK
      clear hK hn
      go_simp
      have h9 := HK.out
      revert h9
      clear HK
      go_simp
      try exact id
    refine StepsL.cons ?_ ?_
    · refine FreeStep.val [] _ rfl rfl fun u β W hW hn fr hfr K hK => ?_
      simp only [frameL, putL, Act.put, List.setIfInBounds_toArray, List.set_cons_zero, List.set_cons_succ, Nat.zero_add, Nat.reduceAdd] at hfr
      subst hfr
      have e6 : u 6 = .pointer (some ⟨w.heap.size + 1, 1, none⟩) := Have.get (k := 6) hn rfl
      simp only [e6] at hK
      have c0 := cellL (t2.cell 1 _ rfl) hW
      have HK := Lib.hid hK
      clear hK hn
      go_simp
      have h9 := HK.out
      revert h9
      clear HK
      go_simp
      try exact id
    refine StepsL.cons ?_ ?_
    · refine FreeStep.val [] _ rfl rfl fun u β W hW hn fr hfr K hK => ?_
      simp only [frameL, putL, Act.put, List.setIfInBounds_toArray, List.set_cons_zero, List.set_cons_succ, Nat.zero_add, Nat.reduceAdd] at hfr
      subst hfr
      have HK := Lib.hid hK
      clear hK hn
      go_simp
      have h9 := HK.out
      revert h9
      clear HK
      go_simp
      try exact id
    refine StepsL.cons ?_ ?_
    · refine FreeStep.val [] _ rfl rfl fun u β W hW hn fr hfr K hK => ?_
      simp only [frameL, putL, Act.put, List.setIfInBounds_toArray, List.set_cons_zero, List.set_cons_succ, Nat.zero_add, Nat.reduceAdd] at hfr
      subst hfr
      have e8 : u 8 = .pointer (some ⟨w.heap.size, 1, none⟩) := Have.get (k := 8) hn rfl
      simp only [e8] at hK
      have c0 := cellL (t1.cell 1 _ rfl) hW
      have HK := Lib.hid hK
      clear hK hn
      go_simp
      have h9 := HK.out
      revert h9
      clear HK
      go_simp
      try exact id
    refine StepsL.cons ?_ ?_
    · refine FreeStep.val [] _ rfl rfl fun u β W hW hn fr hfr K hK => ?_
      simp only [frameL, putL, Act.put, List.setIfInBounds_toArray, List.set_cons_zero, List.set_cons_succ, Nat.zero_add, Nat.reduceAdd] at hfr
      subst hfr
      have e7 : u 7 = .int .i64 x1 := Have.get (k := 7) hn rfl
      have e9 : u 9 = .int .i64 m := Have.get (k := 9) hn rfl
      simp only [e7, e9] at hK
      have HK := Lib.hid hK
      clear hK hn
      go_simp
      have h9 := HK.out
      revert h9
      clear HK
      go_simp
      try exact id
    refine StepsL.cons ?_ ?_
    · refine FreeStep.val [] _ rfl rfl fun u β W hW hn fr hfr K hK => ?_
      simp only [frameL, putL, Act.put, List.setIfInBounds_toArray, List.set_cons_zero, List.set_cons_succ, Nat.zero_add, Nat.reduceAdd] at hfr
      subst hfr
      have HK := Lib.hid hK
      clear hK hn
      go_simp
      have h9 := HK.out
      revert h9
      clear HK
      go_simp
      try exact id
    refine StepsL.cons ?_ ?_
    · refine FreeStep.val [] _ rfl rfl fun u β W hW hn fr hfr K hK => ?_
      simp only [frameL, putL, Act.put, List.setIfInBounds_toArray, List.set_cons_zero, List.set_cons_succ, Nat.zero_add, Nat.reduceAdd] at hfr
      subst hfr
      have e11 : u 11 = .pointer (some ⟨w.heap.size + 1 + 1, 1, none⟩) := Have.get (k := 11) hn rfl
      simp only [e11] at hK
      have c0 := cellL (t3.cell 1 _ rfl) hW
      have HK := Lib.hid hK
      clear hK hn
      go_simp
      have h9 := HK.out
      revert h9
      clear HK
      go_simp
      try exact id
    refine StepsL.cons ?_ ?_
    · refine FreeStep.val [] _ rfl rfl fun u β W hW hn fr hfr K hK => ?_
      simp only [frameL, putL, Act.put, List.setIfInBounds_toArray, List.set_cons_zero, List.set_cons_succ, Nat.zero_add, Nat.reduceAdd] at hfr
      subst hfr
      have e10 : u 10 = .int .i64 (x1 * m) := Have.get (k := 10) hn rfl
      have e12 : u 12 = .int .i64 y1 := Have.get (k := 12) hn rfl
      simp only [e10, e12] at hK
      have HK := Lib.hid hK
      clear hK hn
      go_simp
      have h9 := HK.out
      revert h9
      clear HK
      go_simp
      try exact id
    refine StepsL.cons ?_ ?_
    · refine FreeStep.val [] _ rfl rfl fun u β W hW hn fr hfr K hK => ?_
      simp only [frameL, putL, Act.put, List.setIfInBounds_toArray, List.set_cons_zero, List.set_cons_succ, Nat.zero_add, Nat.reduceAdd] at hfr
      subst hfr
      have e5 : u 5 = .int .i64 z := Have.get (k := 5) hn rfl
      have e13 : u 13 = .int .i64 (x1 * m + y1) := Have.get (k := 13) hn rfl
      simp only [e5, e13] at hK
      have HK := Lib.hid hK
      clear hK hn
      go_simp
      have h9 := HK.out
      revert h9
      clear HK
      go_simp
      try exact id
    intro u β W hW hn hdis hbnd fr hfr K hK
    simp only [frameL, putL, Act.put, List.setIfInBounds_toArray, List.set_cons_zero, List.set_cons_succ, Nat.zero_add, Nat.reduceAdd] at hfr
    subst hfr
    have z0 : u 0 = .agg #[.int .i64 (n : Int), .int .i64 m] := Have.get (k := 0) hn rfl
    have z1 : u 1 = .pointer (some ⟨w.heap.size + 1, 0, none⟩) := Have.get (k := 1) hn rfl
    have z2 : u 2 = .int .i64 x0 := Have.get (k := 2) hn rfl
    have z3 : u 3 = .pointer (some ⟨w.heap.size + 1 + 1, 0, none⟩) := Have.get (k := 3) hn rfl
    have z4 : u 4 = .int .i64 y0 := Have.get (k := 4) hn rfl
    have z5 : u 5 = .int .i64 z := Have.get (k := 5) hn rfl
    have z6 : u 6 = .pointer (some ⟨w.heap.size + 1, 1, none⟩) := Have.get (k := 6) hn rfl
    have z7 : u 7 = .int .i64 x1 := Have.get (k := 7) hn rfl
    have z8 : u 8 = .pointer (some ⟨w.heap.size, 1, none⟩) := Have.get (k := 8) hn rfl
    have z9 : u 9 = .int .i64 m := Have.get (k := 9) hn rfl
    have z10 : u 10 = .int .i64 (x1 * m) := Have.get (k := 10) hn rfl
    have z11 : u 11 = .pointer (some ⟨w.heap.size + 1 + 1, 1, none⟩) := Have.get (k := 11) hn rfl
    have z12 : u 12 = .int .i64 y1 := Have.get (k := 12) hn rfl
    have z13 : u 13 = .int .i64 (x1 * m + y1) := Have.get (k := 13) hn rfl
    have z14 : u 14 = .agg #[.int .i64 z, .int .i64 (x1 * m + y1)] := Have.get (k := 14) hn rfl
    simp only [z0, z1, z2, z3, z4, z5, z6, z7, z8, z9, z10, z11, z12, z13, z14]
    have c0 := cellL (t4.cell 0 _ rfl) hW
    have c1 := cellL (t4.cell 1 _ rfl) hW
    have d0 := (t4.later hW).frozen 0
    have d1 := (t4.later hW).frozen 1
    have HK := Lib.hid hK
    clear hK hn hdis hbnd z0 z1 z2 z3 z4 z5 z6 z7 z8 z9 z10 z11 z12 z13 z14
    go_simp
    refine HK.out _ _ ?_
    clear HK
    have hs := hW.size
    have hBW := hB.trans (hW.mono hB.size)
    have hp3 : w.heap.size ≤ w.heap.size + 1 + 1 + 1 := by omega
    have x5 := ((t4.later hW).set 0 (.int .i64 z)).set 1 (.int .i64 (x1 * m + y1))
    obtain ⟨y0', y1', yl⟩ := id x5.all2
    have HB := Lib.hid ((hBW.setCell (p := ⟨w.heap.size + 1 + 1 + 1, 0, none⟩) hp3 (.int .i64 z)).setCell (p := ⟨w.heap.size + 1 + 1 + 1, 1, none⟩) hp3 (.int .i64 (x1 * m + y1)))
    go_wp2
    exact bodyPost_ret (v := .agg #[.int .i64 z, .int .i64 (x1 * m + y1)]) (by simp [results, Try.results220, go_sem, y0', y1']) rfl ⟨rfl, HB.out⟩
set_option maxHeartbeats 3200000 in
set_option maxRecDepth 100000 in
theorem pair_inner {base base' : Nat} {v v' : Value} {xs ys : List Int} {bs bs' : List Nat} (n : Nat) (m : Int) (w : World) (hn : n ≤ 1000) (hx : xs.length ≤ 1000) (hxy : xs.length = ys.length) (hsx : SmL xs) (hsy : SmL ys) (h : IntsE base w v xs bs) (h' : IntsE base' w v' ys bs') :
    Calls Try.prog 197 #[.agg #[.int .i64 (n : Int), .int .i64 m], v, v'] w (NewPost IntsE (List.zipWith (pairS n) xs ys) w) := by
  have hB := (Below.refl w.heap.size w).alloc (Nat.le_refl _) (.cells #[.int .i64 (n : Int), .int .i64 m] 214)
  have Q := Lib.hid (side_int (w.alloc (.cells #[.int .i64 (n : Int), .int .i64 m] 214)) (pairS n) 190 #[.agg #[.int .i64 (n : Int), .int .i64 m]] (fm_cf 190 Try.f190 _ (by kernel_rfl) (by kernel_rfl) rfl) hx hxy ((ints_ok _).later h hB) ((ints_ok _).later h' hB) (fun x hx y hy W _ => pair_state n m x y W hn (hsx x hx) (hsy y hy)))
  obtain ⟨A, ka, rfl⟩ := RowE.slice h
  obtain ⟨A', ka', rfl⟩ := RowE.slice h'
  generalize List.zipWith (pairS n) xs ys = zs at *
  generalize xs.length = l1 at *
  generalize ys.length = l2 at *
  clear h h' hsx hsy hxy hx
  go_enter Try.func197, Try.ntmps197
  go_wp2_with fail
  refine Q.out.mono ?_
  rintro e w1 ⟨v1, cs1, rfl, hE, hb1⟩
  have HE := Lib.hid (And.intro hE hb1)
  clear hE hb1
  go_wp2
  go_ret
  exact ⟨_, _, rfl, ints_base hB.size _ _ _ _ HE.out.1, hB.trans (HE.out.2.mono hB.size)⟩
set_option maxHeartbeats 3200000 in
set_option maxRecDepth 100000 in
theorem pair_calls {base base' : Nat} {v v' : Value} {xs ys : List (Int × Int)} {bs bs' : List Nat} (n : Nat) (m : Int) (w : World) (hn : n ≤ 1000) (hm : Sm m) (hx : xs.length ≤ 1000) (hxy : xs.length = ys.length) (hsx : SmP xs) (hsy : SmP ys) (h : PushE base w v xs bs) (h' : PushE base' w v' ys bs') :
    Calls Try.prog 193 #[.agg #[.int .i64 (n : Int), .int .i64 m], v, v'] w (NewPost PushE (List.zipWith (pairP n m) xs ys) w) := by
  have hB := (Below.refl w.heap.size w).alloc (Nat.le_refl _) (.cells #[.int .i64 (n : Int), .int .i64 m] 214)
  have Q := Lib.hid (side_push (w.alloc (.cells #[.int .i64 (n : Int), .int .i64 m] 214)) (pairP n m) 220 #[.agg #[.int .i64 (n : Int), .int .i64 m]] (fm_cf 220 Try.f220 _ (by kernel_rfl) (by kernel_rfl) rfl) hx hxy ((push_ok _).later h hB) ((push_ok _).later h' hB) (fun x hx y hy W _ => pair_push n m x y W hn hm (hsx x hx) (hsy y hy)))
  obtain ⟨A, ka, rfl⟩ := RowE.slice h
  obtain ⟨A', ka', rfl⟩ := RowE.slice h'
  generalize List.zipWith (pairP n m) xs ys = zs at *
  generalize xs.length = l1 at *
  generalize ys.length = l2 at *
  clear h h' hsx hsy hxy hx
  go_enter Try.func193, Try.ntmps193
  go_wp2_with fail
  refine Q.out.mono ?_
  rintro e w1 ⟨v1, cs1, rfl, hE, hb1⟩
  have HE := Lib.hid (And.intro hE hb1)
  clear hE hb1
  go_wp2
  go_ret
  exact ⟨_, _, rfl, pushes_base hB.size _ _ _ _ HE.out.1, hB.trans (HE.out.2.mono hB.size)⟩

set_option maxHeartbeats 6400000 in
set_option maxRecDepth 100000 in
theorem pair_pop {base base' : Nat} {v v' : Value} {xs ys : List Int} {bs bs' : List Nat} (n : Nat) (m : Int) (w : World) (hn : n ≤ 1000) (hx : 1 ≤ xs.length ∧ xs.length ≤ 1000) (hy : 1 ≤ ys.length ∧ ys.length ≤ 1000) (hsx : SmL xs) (hsy : SmL ys) (h : IntsE base w v xs bs) (h' : IntsE base' w v' ys bs') :
    Calls Try.prog 222 #[.agg #[.int .i64 (n : Int), .int .i64 m], v, v'] w (NewPost IntsE (pairR n xs ys) w) := by
  obtain ⟨i0, hi, hz0, hz1, hz2⟩ := info_parts toInfo_i64
  obtain ⟨A, ka, rfl⟩ := RowE.slice h
  obtain ⟨A', ka', rfl⟩ := RowE.slice h'
  obtain ⟨g, rfl, hg, _⟩ := RowE.head h (j := 0) (by omega)
  obtain ⟨g', rfl, hg', _⟩ := RowE.head h' (j := 0) (by omega)
  have hB := (Below.refl w.heap.size w).alloc (Nat.le_refl _) (.cells #[.int .i64 (n : Int), .int .i64 m] 214)
  have hbx := Bx.new w 214 #[.int .i64 (n : Int), .int .i64 m]
  have hd := ints_drop h rfl (by omega)
  have hd' := ints_drop h' rfl (by omega)
  have hcap : xs.length ≤ ka := own_cap h.1
  have hcap' : ys.length ≤ ka' := own_cap h'.1
  have hlx : xs.dropLast.length = xs.length - 1 := List.length_dropLast
  have hly : ys.dropLast.length = ys.length - 1 := List.length_dropLast
  have hmd : ∀ {zs : List Int}, SmL zs → SmL zs.dropLast := fun hz z hm => hz z (List.dropLast_subset _ hm)
  have QP := Lib.hid (fun (W : World) (hW : Below w.heap.size w W) => prod_int W (pairS n) 190 #[.agg #[.int .i64 (n : Int), .int .i64 m]] (fm_cf 190 Try.f190 _ (by kernel_rfl) (by kernel_rfl) rfl) (by omega) (by omega) ((ints_ok _).later hd hW) ((ints_ok _).later hd' hW) (fun x hx y hy W _ => pair_state n m x y W hn (hmd hsx x hx) (hmd hsy y hy)))
  have QX := Lib.hid (fun (W : World) (hW : Below w.heap.size w W) => pair_last W hx ((ints_ok _).later h hW))
  have QY := Lib.hid (fun (W : World) (hW : Below w.heap.size w W) => pair_last W hy ((ints_ok _).later h' hW))
  have QS := Lib.hid (fun W => pair_state n m (xs.getLastD 0) (ys.getLastD 0) W hn (sml_last hsx hx.1) (sml_last hsy hy.1))
  have hpl : (prodL (pairS n) xs.dropLast ys.dropLast).length ≤ 1000000 := by
    rw [prodL_len]
    have h1 : xs.dropLast.length ≤ 1000 := by omega
    have h2 : ys.dropLast.length ≤ 1000 := by omega
    exact Nat.mul_le_mul h1 h2
  have hR : pairR n xs ys = prodL (pairS n) xs.dropLast ys.dropLast ++ [pairS n (xs.getLastD 0) (ys.getLastD 0)] := rfl
  rw [hR]
  generalize pairS n (xs.getLastD 0) (ys.getLastD 0) = z at *
  generalize xs.getLastD 0 = zx at *
  generalize ys.getLastD 0 = zy at *
  generalize prodL (pairS n) xs.dropLast ys.dropLast = P at *
  obtain ⟨l1, hl1⟩ : ∃ l, l = xs.length := ⟨_, rfl⟩
  obtain ⟨l2, hl2⟩ : ∃ l, l = ys.length := ⟨_, rfl⟩
  rw [← hl1] at hx QP QX hcap ⊢
  rw [← hl2] at hy QP QY hcap' ⊢
  have e1 : IntKind.i64.wrap ((l1 : Int) - 1) = ((l1 - 1 : Nat) : Int) := by rw [IntWalk.i64_in _ (by omega)]; omega
  have e2 : IntKind.i64.wrap ((l2 : Int) - 1) = ((l2 - 1 : Nat) : Int) := by rw [IntWalk.i64_in _ (by omega)]; omega
  obtain ⟨p1, hp1⟩ : ∃ p, p = l1 - 1 := ⟨_, rfl⟩
  obtain ⟨p2, hp2⟩ : ∃ p, p = l2 - 1 := ⟨_, rfl⟩
  rw [← hp1] at e1 QP
  rw [← hp2] at e2 QP
  have g1 : (p1 : Int) ≤ ka := by omega
  have g2 : (p2 : Int) ≤ ka' := by omega
  have g1n : p1 ≤ ka := by omega
  have g2n : p2 ≤ ka' := by omega
  clear h h' hd hd' hsx hsy hR hl1 hl2 hp1 hp2 hlx hly hmd hcap hcap'
  go_enter Try.func222, Try.ntmps222
  go_upto_region 2 with fail
  obtain ⟨W0, hW0⟩ : ∃ W0, W0 = w.alloc (.cells #[.int .i64 (n : Int), .int .i64 m] 214) := ⟨_, rfl⟩
  rw [← hW0] at hB hbx ⊢
  have HB := Lib.hid hB
  clear hW0
  refine wp_region_free (by kernel_rfl) [
      .val [] (fun _ => .slice (some ⟨g, 0, none⟩) l1 ka),
      .val [] (fun _ => .slice (some ⟨g, 0, none⟩) l1 ka),
      .val [] (fun _ => .int .i64 (l1 : Int)),
      .val [] (fun _ => .int .i64 (p1 : Int)),
      .val [] (fun _ => .slice (some ⟨g, 0, none⟩) p1 ka),
      .val [] (fun _ => .slice (some ⟨g', 0, none⟩) l2 ka'),
      .val [] (fun _ => .slice (some ⟨g', 0, none⟩) l2 ka'),
      .val [] (fun _ => .int .i64 (l2 : Int)),
      .val [] (fun _ => .int .i64 (p2 : Int)),
      .val [] (fun _ => .slice (some ⟨g', 0, none⟩) p2 ka'),
      .val [] (fun _ => .agg #[.int .i64 (n : Int), .int .i64 m]),
      .val [] (fun _ => .func (.func 190) #[.agg #[.int .i64 (n : Int), .int .i64 m]] #[]),
      .own (IntsE W0.heap.size) P,
      .val [12] (fun u => u 12)] ?hp ?hfw ?deps ?oks ?steps ?tail
  case hp => kernel_rfl
  case hfw => kernel_rfl
  case deps => kernel_rfl
  case oks =>
    intro F hF
    simp only [List.mem_cons, List.not_mem_nil, or_false] at hF
    rcases hF with rfl | rfl | rfl | rfl | rfl | rfl | rfl | rfl | rfl | rfl | rfl | rfl | rfl | rfl
    · trivial
    · trivial
    · trivial
    · trivial
    · trivial
    · trivial
    · trivial
    · trivial
    · trivial
    · trivial
    · trivial
    · trivial
    · exact ⟨_, ints_ok _⟩
    · trivial
  case steps =>
    refine Steps.cons ?_ ?_
    · refine FreeStep.val [] _ rfl rfl fun u β W hW hn fr hfr K hK => ?_
      simp only [frameL, putL, Act.put, List.setIfInBounds_toArray, List.set_cons_zero, List.set_cons_succ, Nat.zero_add, Nat.reduceAdd] at hfr
      subst hfr
      have HK := Lib.hid hK
      clear hK hn
      go_simp
      have h9 := HK.out
      revert h9
      clear HK
      go_simp
      try exact id
    refine Steps.cons ?_ ?_
    · refine FreeStep.val [] _ rfl rfl fun u β W hW hn fr hfr K hK => ?_
      simp only [frameL, putL, Act.put, List.setIfInBounds_toArray, List.set_cons_zero, List.set_cons_succ, Nat.zero_add, Nat.reduceAdd] at hfr
      subst hfr
      have HK := Lib.hid hK
      clear hK hn
      go_simp
      have h9 := HK.out
      revert h9
      clear HK
      go_simp
      try exact id
    refine Steps.cons ?_ ?_
    · refine FreeStep.val [] _ rfl rfl fun u β W hW hn fr hfr K hK => ?_
      simp only [frameL, putL, Act.put, List.setIfInBounds_toArray, List.set_cons_zero, List.set_cons_succ, Nat.zero_add, Nat.reduceAdd] at hfr
      subst hfr
      have e1 : u 1 = .slice (some ⟨g, 0, none⟩) l1 ka := Have.get (k := 1) hn rfl
      simp only [e1] at hK
      have HK := Lib.hid hK
      clear hK hn
      go_simp
      have h9 := HK.out
      revert h9
      clear HK
      go_simp
      try exact id
    refine Steps.cons ?_ ?_
    · refine FreeStep.val [] _ rfl rfl fun u β W hW hn fr hfr K hK => ?_
      simp only [frameL, putL, Act.put, List.setIfInBounds_toArray, List.set_cons_zero, List.set_cons_succ, Nat.zero_add, Nat.reduceAdd] at hfr
      subst hfr
      have e2 : u 2 = .int .i64 (l1 : Int) := Have.get (k := 2) hn rfl
      simp only [e2] at hK
      have HK := Lib.hid hK
      clear hK hn
      go_simp
      have h9 := HK.out
      revert h9
      clear HK
      go_simp
      try exact id
    refine Steps.cons ?_ ?_
    · refine FreeStep.val [] _ rfl rfl fun u β W hW hn fr hfr K hK => ?_
      simp only [frameL, putL, Act.put, List.setIfInBounds_toArray, List.set_cons_zero, List.set_cons_succ, Nat.zero_add, Nat.reduceAdd] at hfr
      subst hfr
      have e0 : u 0 = .slice (some ⟨g, 0, none⟩) l1 ka := Have.get (k := 0) hn rfl
      have e3 : u 3 = .int .i64 (p1 : Int) := Have.get (k := 3) hn rfl
      simp only [e0, e3] at hK
      have HK := Lib.hid hK
      clear hK hn
      go_simp
      have h9 := HK.out
      revert h9
      clear HK
      go_simp
      try exact id
    refine Steps.cons ?_ ?_
    · refine FreeStep.val [] _ rfl rfl fun u β W hW hn fr hfr K hK => ?_
      simp only [frameL, putL, Act.put, List.setIfInBounds_toArray, List.set_cons_zero, List.set_cons_succ, Nat.zero_add, Nat.reduceAdd] at hfr
      subst hfr
      have HK := Lib.hid hK
      clear hK hn
      go_simp
      have h9 := HK.out
      revert h9
      clear HK
      go_simp
      try exact id
    refine Steps.cons ?_ ?_
    · refine FreeStep.val [] _ rfl rfl fun u β W hW hn fr hfr K hK => ?_
      simp only [frameL, putL, Act.put, List.setIfInBounds_toArray, List.set_cons_zero, List.set_cons_succ, Nat.zero_add, Nat.reduceAdd] at hfr
      subst hfr
      have HK := Lib.hid hK
      clear hK hn
      go_simp
      have h9 := HK.out
      revert h9
      clear HK
      go_simp
      try exact id
    refine Steps.cons ?_ ?_
    · refine FreeStep.val [] _ rfl rfl fun u β W hW hn fr hfr K hK => ?_
      simp only [frameL, putL, Act.put, List.setIfInBounds_toArray, List.set_cons_zero, List.set_cons_succ, Nat.zero_add, Nat.reduceAdd] at hfr
      subst hfr
      have e6 : u 6 = .slice (some ⟨g', 0, none⟩) l2 ka' := Have.get (k := 6) hn rfl
      simp only [e6] at hK
      have HK := Lib.hid hK
      clear hK hn
      go_simp
      have h9 := HK.out
      revert h9
      clear HK
      go_simp
      try exact id
    refine Steps.cons ?_ ?_
    · refine FreeStep.val [] _ rfl rfl fun u β W hW hn fr hfr K hK => ?_
      simp only [frameL, putL, Act.put, List.setIfInBounds_toArray, List.set_cons_zero, List.set_cons_succ, Nat.zero_add, Nat.reduceAdd] at hfr
      subst hfr
      have e7 : u 7 = .int .i64 (l2 : Int) := Have.get (k := 7) hn rfl
      simp only [e7] at hK
      have HK := Lib.hid hK
      clear hK hn
      go_simp
      have h9 := HK.out
      revert h9
      clear HK
      go_simp
      try exact id
    refine Steps.cons ?_ ?_
    · refine FreeStep.val [] _ rfl rfl fun u β W hW hn fr hfr K hK => ?_
      simp only [frameL, putL, Act.put, List.setIfInBounds_toArray, List.set_cons_zero, List.set_cons_succ, Nat.zero_add, Nat.reduceAdd] at hfr
      subst hfr
      have e5 : u 5 = .slice (some ⟨g', 0, none⟩) l2 ka' := Have.get (k := 5) hn rfl
      have e8 : u 8 = .int .i64 (p2 : Int) := Have.get (k := 8) hn rfl
      simp only [e5, e8] at hK
      have HK := Lib.hid hK
      clear hK hn
      go_simp
      have h9 := HK.out
      revert h9
      clear HK
      go_simp
      try exact id
    refine Steps.cons ?_ ?_
    · refine FreeStep.val [] _ rfl rfl fun u β W hW hn fr hfr K hK => ?_
      simp only [frameL, putL, Act.put, List.setIfInBounds_toArray, List.set_cons_zero, List.set_cons_succ, Nat.zero_add, Nat.reduceAdd] at hfr
      subst hfr
      have c0 := cellL (hbx.cell 0 _ rfl) hW
      have c1 := cellL (hbx.cell 1 _ rfl) hW
      have HK := Lib.hid hK
      clear hK hn
      go_simp
      have h9 := HK.out
      revert h9
      clear HK
      go_simp
      try exact id
    refine Steps.cons ?_ ?_
    · refine FreeStep.val [] _ rfl rfl fun u β W hW hn fr hfr K hK => ?_
      simp only [frameL, putL, Act.put, List.setIfInBounds_toArray, List.set_cons_zero, List.set_cons_succ, Nat.zero_add, Nat.reduceAdd] at hfr
      subst hfr
      have e10 : u 10 = .agg #[.int .i64 (n : Int), .int .i64 m] := Have.get (k := 10) hn rfl
      simp only [e10] at hK
      have HK := Lib.hid hK
      clear hK hn
      go_simp
      have h9 := HK.out
      revert h9
      clear HK
      go_simp
      try exact id
    refine Steps.cons ?_ ?_
    · refine FreeStep.own (base := W0.heap.size) rfl (ints_ok _) fun u β W hW hn fr hfr K hK => ?_
      simp only [frameL, putL, Act.put, List.setIfInBounds_toArray, List.set_cons_zero, List.set_cons_succ, Nat.zero_add, Nat.reduceAdd] at hfr
      subst hfr
      have e4 : u 4 = .slice (some ⟨g, 0, none⟩) p1 ka := Have.get (k := 4) hn rfl
      have e9 : u 9 = .slice (some ⟨g', 0, none⟩) p2 ka' := Have.get (k := 9) hn rfl
      have e11 : u 11 = .func (.func 190) #[.agg #[.int .i64 (n : Int), .int .i64 m]] #[] := Have.get (k := 11) hn rfl
      simp only [e4, e9, e11] at hK
      have hsz := hW.size
      have Q := Lib.hid (QP.out W (HB.out.trans (hW.mono HB.out.size)))
      have HK := Lib.hid hK
      clear hK hn
      go_simp
      refine Q.out.mono ?_
      rintro e w9 ⟨v9, cs9, rfl, h9, hb9⟩
      exact HK.out v9 cs9 w9 hb9 (ints_base hsz _ _ _ _ h9) (fun b hb => ((ints_ok _).lt h9 b hb).1)
    refine Steps.cons ?_ ?_
    · refine FreeStep.val [12] _ rfl rfl fun u β W hW hn fr hfr K hK => ?_
      simp only [frameL, putL, Act.put, List.setIfInBounds_toArray, List.set_cons_zero, List.set_cons_succ, Nat.zero_add, Nat.reduceAdd] at hfr
      subst hfr
      have f12 : (IntsE W0.heap.size) W (u 12) P (β 12) := Have.get (k := 12) hn rfl
      have H12 := Lib.hid f12
      have hon12 : only [12] u 12 = u 12 := rfl
      simp only [hon12] at hK
      have HK := Lib.hid hK
      clear hK hn hon12
      go_simp
      have h9 := HK.out
      revert h9
      clear HK
      go_simp
      try exact id
    exact Steps.nil
  case tail =>
    intro u_ β_ W hW hn hdis hbnd
    have z0 : u_ 0 = .slice (some ⟨g, 0, none⟩) l1 ka := Have.get (k := 0) hn rfl
    have z1 : u_ 1 = .slice (some ⟨g, 0, none⟩) l1 ka := Have.get (k := 1) hn rfl
    have z2 : u_ 2 = .int .i64 (l1 : Int) := Have.get (k := 2) hn rfl
    have z3 : u_ 3 = .int .i64 (p1 : Int) := Have.get (k := 3) hn rfl
    have z4 : u_ 4 = .slice (some ⟨g, 0, none⟩) p1 ka := Have.get (k := 4) hn rfl
    have z5 : u_ 5 = .slice (some ⟨g', 0, none⟩) l2 ka' := Have.get (k := 5) hn rfl
    have z6 : u_ 6 = .slice (some ⟨g', 0, none⟩) l2 ka' := Have.get (k := 6) hn rfl
    have z7 : u_ 7 = .int .i64 (l2 : Int) := Have.get (k := 7) hn rfl
    have z8 : u_ 8 = .int .i64 (p2 : Int) := Have.get (k := 8) hn rfl
    have z9 : u_ 9 = .slice (some ⟨g', 0, none⟩) p2 ka' := Have.get (k := 9) hn rfl
    have z10 : u_ 10 = .agg #[.int .i64 (n : Int), .int .i64 m] := Have.get (k := 10) hn rfl
    have z11 : u_ 11 = .func (.func 190) #[.agg #[.int .i64 (n : Int), .int .i64 m]] #[] := Have.get (k := 11) hn rfl
    have g12 : (IntsE W0.heap.size) W (u_ 12) P (β_ 12) := Have.get (k := 12) hn rfl
    have z13 : u_ 13 = u_ 12 := Have.get (k := 13) hn rfl
    rw [← frameL_eq (by kernel_rfl)]
    clear hn hdis hbnd
    simp only [frameL, putL, Act.put, List.setIfInBounds_toArray, List.set_cons_zero, List.set_cons_succ, Nat.zero_add, Nat.reduceAdd, z0, z1, z2, z3, z4, z5, z6, z7, z8, z9, z10, z11, z13]
    clear z0 z1 z2 z3 z4 z5 z6 z7 z8 z9 z10 z11 z13
    obtain ⟨AP, kP, gP⟩ := RowE.slice g12
    rw [gP] at g12 ⊢
    have HP := Lib.hid g12
    have HBW := Lib.hid (HB.out.trans (hW.mono HB.out.size))
    have hbx := hbx.later hW
    have hsz := hW.size
    have hwz := HB.out.size
    clear g12 gP HB QP hB
    obtain ⟨lP, hlP⟩ : ∃ l, l = P.length := ⟨_, rfl⟩
    rw [← hlP] at HP hpl ⊢
    have HlP := Lib.hid hlP
    clear hlP
    obtain ⟨W1, rfl⟩ : ∃ W1, W1 = W := ⟨_, rfl⟩
    go_upto_region 3 with fail
    refine wp_region_free_seq (by kernel_rfl) [
        .val [] (fun _ => .slice AP lP kP),
        .val [] (fun _ => .agg #[.int .i64 (n : Int), .int .i64 m]),
        .val [] (fun _ => .slice (some ⟨g, 0, none⟩) l1 ka),
        .val [] (fun _ => .int .i64 zx),
        .val [] (fun _ => .slice (some ⟨g', 0, none⟩) l2 ka'),
        .val [] (fun _ => .int .i64 zy),
        .val [] (fun _ => .int .i64 z),
        .own (LitE W1.heap.size 2 #[.int .i64 z] 1) ()] 8 ?hp ?hfw ?deps ?oks ?hforced ?hf ?steps ?tail
    case hforced => kernel_rfl
    case hf => kernel_rfl
    case hp => kernel_rfl
    case hfw => kernel_rfl
    case deps => kernel_rfl
    case oks =>
      intro F hF
      simp only [List.mem_cons, List.not_mem_nil, or_false] at hF
      rcases hF with rfl | rfl | rfl | rfl | rfl | rfl | rfl | rfl
      · trivial
      · trivial
      · trivial
      · trivial
      · trivial
      · trivial
      · trivial
      · exact ⟨_, lit_ok _ _ _ _⟩
    case steps =>
      refine Steps.cons ?_ ?_
      · intro _; refine FreeStep.val [] _ rfl rfl fun u β W hW hn fr hfr K hK => ?_
        simp only [frameL, putL, Act.put, List.setIfInBounds_toArray, List.set_cons_zero, List.set_cons_succ, Nat.zero_add, Nat.reduceAdd] at hfr
        subst hfr
        have HK := Lib.hid hK
        clear hK hn
        go_simp
        have h9 := HK.out
        revert h9
        clear HK
        go_simp
        try exact id
      refine Steps.cons ?_ ?_
      · intro _; refine FreeStep.val [] _ rfl rfl fun u β W hW hn fr hfr K hK => ?_
        simp only [frameL, putL, Act.put, List.setIfInBounds_toArray, List.set_cons_zero, List.set_cons_succ, Nat.zero_add, Nat.reduceAdd] at hfr
        subst hfr
        have c0 := cellL (hbx.cell 0 _ rfl) hW
        have c1 := cellL (hbx.cell 1 _ rfl) hW
        have HK := Lib.hid hK
        clear hK hn
        go_simp
        have h9 := HK.out
        revert h9
        clear HK
        go_simp
        try exact id
      refine Steps.cons ?_ ?_
      · intro _; refine FreeStep.val [] _ rfl rfl fun u β W hW hn fr hfr K hK => ?_
        simp only [frameL, putL, Act.put, List.setIfInBounds_toArray, List.set_cons_zero, List.set_cons_succ, Nat.zero_add, Nat.reduceAdd] at hfr
        subst hfr
        have HK := Lib.hid hK
        clear hK hn
        go_simp
        have h9 := HK.out
        revert h9
        clear HK
        go_simp
        try exact id
      refine Steps.cons ?_ ?_
      · intro _; refine FreeStep.calm [] _ rfl rfl fun u β W hW hn fr hfr K hK => ?_
        simp only [frameL, putL, Act.put, List.setIfInBounds_toArray, List.set_cons_zero, List.set_cons_succ, Nat.zero_add, Nat.reduceAdd] at hfr
        subst hfr
        have e2 : u 2 = .slice (some ⟨g, 0, none⟩) l1 ka := Have.get (k := 2) hn rfl
        simp only [e2] at hK
        have Q := Lib.hid (QX.out W (HBW.out.trans (hW.mono HBW.out.size)))
        have HK := Lib.hid hK
        clear hK hn
        go_simp
        refine Q.out.mono ?_
        rintro e w9 ⟨rfl, rfl⟩
        exact HK.out _ (Below.refl _ _)
      refine Steps.cons ?_ ?_
      · intro _; refine FreeStep.val [] _ rfl rfl fun u β W hW hn fr hfr K hK => ?_
        simp only [frameL, putL, Act.put, List.setIfInBounds_toArray, List.set_cons_zero, List.set_cons_succ, Nat.zero_add, Nat.reduceAdd] at hfr
        subst hfr
        have HK := Lib.hid hK
        clear hK hn
        go_simp
        have h9 := HK.out
        revert h9
        clear HK
        go_simp
        try exact id
      refine Steps.cons ?_ ?_
      · intro _; refine FreeStep.calm [] _ rfl rfl fun u β W hW hn fr hfr K hK => ?_
        simp only [frameL, putL, Act.put, List.setIfInBounds_toArray, List.set_cons_zero, List.set_cons_succ, Nat.zero_add, Nat.reduceAdd] at hfr
        subst hfr
        have e4 : u 4 = .slice (some ⟨g', 0, none⟩) l2 ka' := Have.get (k := 4) hn rfl
        simp only [e4] at hK
        have Q := Lib.hid (QY.out W (HBW.out.trans (hW.mono HBW.out.size)))
        have HK := Lib.hid hK
        clear hK hn
        go_simp
        refine Q.out.mono ?_
        rintro e w9 ⟨rfl, rfl⟩
        exact HK.out _ (Below.refl _ _)
      refine Steps.cons ?_ ?_
      · intro _; refine FreeStep.calm [] _ rfl rfl fun u β W hW hn fr hfr K hK => ?_
        simp only [frameL, putL, Act.put, List.setIfInBounds_toArray, List.set_cons_zero, List.set_cons_succ, Nat.zero_add, Nat.reduceAdd] at hfr
        subst hfr
        have e1 : u 1 = .agg #[.int .i64 (n : Int), .int .i64 m] := Have.get (k := 1) hn rfl
        have e3 : u 3 = .int .i64 zx := Have.get (k := 3) hn rfl
        have e5 : u 5 = .int .i64 zy := Have.get (k := 5) hn rfl
        simp only [e1, e3, e5] at hK
        have Q := Lib.hid (QS.out W)
        have HK := Lib.hid hK
        clear hK hn
        go_simp
        refine Q.out.mono ?_
        rintro e w9 ⟨rfl, hb9⟩
        exact HK.out w9 hb9
      refine Steps.cons ?_ ?_
      · intro _; refine FreeStep.own (base := W1.heap.size) rfl (lit_ok _ _ _ _) fun u β W hW hn fr hfr K hK => ?_
        simp only [frameL, putL, Act.put, List.setIfInBounds_toArray, List.set_cons_zero, List.set_cons_succ, Nat.zero_add, Nat.reduceAdd] at hfr
        subst hfr
        have e6 : u 6 = .int .i64 z := Have.get (k := 6) hn rfl
        simp only [e6] at hK
        have hsz := hW.size
        have HK := Lib.hid hK
        clear hK hn
        go_simp
        exact HK.out _ [W.heap.size] _ ((Below.refl _ _).alloc (Nat.le_refl _) _) (LitE.new _ _ _ W hsz) (fun b hb => by rw [List.mem_singleton.1 hb]; exact Nat.le_refl _)
      refine Steps.cons ?_ ?_
      · exact fun h => absurd h (by decide)
      refine Steps.cons ?_ ?_
      · exact fun h => absurd h (by decide)
      exact Steps.nil
    case tail =>
      intro u β W hW hn hdis hbnd fr hfr
      simp only [frameL, putL, Act.put, List.setIfInBounds_toArray, List.set_cons_zero, List.set_cons_succ, Nat.zero_add, Nat.reduceAdd] at hfr
      subst hfr
      have z0 : u 0 = .slice AP lP kP := Have.get (k := 0) hn rfl
      have z1 : u 1 = .agg #[.int .i64 (n : Int), .int .i64 m] := Have.get (k := 1) hn rfl
      have z2 : u 2 = .slice (some ⟨g, 0, none⟩) l1 ka := Have.get (k := 2) hn rfl
      have z3 : u 3 = .int .i64 zx := Have.get (k := 3) hn rfl
      have z4 : u 4 = .slice (some ⟨g', 0, none⟩) l2 ka' := Have.get (k := 4) hn rfl
      have z5 : u 5 = .int .i64 zy := Have.get (k := 5) hn rfl
      have z6 : u 6 = .int .i64 z := Have.get (k := 6) hn rfl
      have f7 : (LitE W1.heap.size 2 #[.int .i64 z] 1) W (u 7) () (β 7) := Have.get (k := 7) hn rfl
      clear hn hdis hbnd
      show wpOps _ _ _ [8, 9] _ _
      obtain ⟨bo, go, hbo, _, hlo⟩ := f7
      have hS1 := (ints_ok _).later HP.out hW
      have hB1 := HBW.out.trans (hW.mono HBW.out.size)
      have hrow := hS1.1
      rw [← HlP.out] at hrow
      have hsW := hW.size
      have hrow2 := row_base (base' := w.heap.size) hrow (by omega)
      have Hb := Lib.hid (And.intro hS1 (And.intro hB1 hrow2))
      clear hS1 hB1 hrow hrow2
      rw [wpOps_cons]
      refine wpOp_step rfl (fun K hK => ?_)
      refine step_append_lies _ rfl _ _ 38 rfl w.heap.size 2 i0 (.int .i64 0) 1 8 Try.underlying38 hi hz0 hz1 hz2 rfl (by decide) _ lP _ z0 Hb.out.2.2 ⟨bo, 0, none⟩ 1 1 [.int .i64 z] go rfl (World.news_of_block hbo) (one_sing rfl) (by decide) ?c1 ?c2 ?c3 _ rfl ?_
      case c1 => unfold maxLen; omega
      case c2 => omega
      case c3 => omega
      intro g1 cap1 w5 hown hg5 hat hltg
      refine hK _ _ ?_
      have hB6 : Below w.heap.size w w5 := Hb.out.2.1.grown hg5 (by omega) (fun k hk => by have := ((ints_ok _).lt Hb.out.1 k (by rw [Hb.out.1.2, hk]; simp)).1; omega)
      have hS6 : IntsE w.heap.size w5 (.slice (some ⟨g1, 0, none⟩) (lP + 1) cap1) (P ++ [z]) [g1] := by
        refine ⟨?_, rfl⟩
        rw [List.length_append, ← HlP.out, List.flatMap_append]
        exact hown
      clear hK hown hg5 hat
      rw [wpOps_cons]
      refine wpOp_step rfl (fun K2 hK => ?_)
      go_simp
      refine hK _ _ ?_
      clear hK
      unfold wpOps
      go_wp2
      go_ret
      exact ⟨_, _, rfl, hS6, hB6⟩
set_option maxHeartbeats 3200000 in
set_option maxRecDepth 100000 in
theorem pair_returns {base base' : Nat} {v v' : Value} {xs ys : List (List Int)} {bs bs' : List Nat} (n : Nat) (m : Int) (w : World) (hn : n ≤ 1000) (hx : xs.length ≤ 1000) (hxy : xs.length = ys.length) (hsx : ∀ x ∈ xs, (1 ≤ x.length ∧ x.length ≤ 1000) ∧ SmL x) (hsy : ∀ x ∈ ys, (1 ≤ x.length ∧ x.length ≤ 1000) ∧ SmL x) (h : Ints2E base w v xs bs) (h' : Ints2E base' w v' ys bs') :
    Calls Try.prog 195 #[.agg #[.int .i64 (n : Int), .int .i64 m], v, v'] w (NewPost Ints2E (List.zipWith (pairR n) xs ys) w) := by
  have hB := (Below.refl w.heap.size w).alloc (Nat.le_refl _) (.cells #[.int .i64 (n : Int), .int .i64 m] 214)
  have Q := Lib.hid (side_ints (w.alloc (.cells #[.int .i64 (n : Int), .int .i64 m] 214)) (pairR n) 222 #[.agg #[.int .i64 (n : Int), .int .i64 m]] (fm_cf 222 Try.f222 _ (by kernel_rfl) (by kernel_rfl) rfl) hx hxy ((ints2_ok _).later h hB) ((ints2_ok _).later h' hB) (fun x hx y hy W u u' b b' c c' _ hu hu' => pair_pop n m W hn (hsx x hx).1 (hsy y hy).1 (hsx x hx).2 (hsy y hy).2 hu hu'))
  obtain ⟨A, ka, rfl⟩ := ManyE.slice h
  obtain ⟨A', ka', rfl⟩ := ManyE.slice h'
  generalize List.zipWith (pairR n) xs ys = zs at *
  generalize xs.length = l1 at *
  generalize ys.length = l2 at *
  clear h h' hsx hsy hxy hx
  go_enter Try.func195, Try.ntmps195
  go_wp2_with fail
  refine Q.out.mono ?_
  rintro e w1 ⟨v1, cs1, rfl, hE, hb1⟩
  have HE := Lib.hid (And.intro hE hb1)
  clear hE hb1
  go_wp2
  go_ret
  exact ⟨_, _, rfl, ints2_base hB.size _ _ _ _ HE.out.1, hB.trans (HE.out.2.mono hB.size)⟩

end Go.Proofs.Ytfaiifiohomdmaa
