/- The text of a deed, of the program. -/
import Derived.Test.YtadifihblaalpaaDoorDdT
import Derived.Test.YtadifihblaalpaaDoorRowI
namespace Go.Proofs.YtadifihblaalpaaDoor
open Go.RowKit
set_option linter.unusedVariables false

set_option maxHeartbeats 6400000 in
set_option maxRecDepth 100000 in
theorem impl_DeedText (k a b : Int) (w : World) (hp : Pow10 w) :
    Calls Tryd.prog 7 #[.agg #[.int .i64 k, .int .i64 a, .int .i64 b]] w (TupPost (.string (deedT k a b)) w) := by
  have hx := Bx.new w 25 #[.int .i64 k, .int .i64 a, .int .i64 b]
  have hB := (Below.refl w.heap.size w).alloc (Nat.le_refl _) (.cells #[.int .i64 k, .int .i64 a, .int .i64 b] 25)
  obtain ⟨c0, c1, c2, cl⟩ := id hx.all3
  have HV := Lib.hid fun W => impl_ValidDeed k a b W
  unfold deedT
  cases hd : deedB k a b with
  | false =>
    rw [hd] at HV
    rw [if_neg (by simp)]
    have HX := Lib.hid (And.intro hx hB)
    clear hx hB hd
    go_enter Tryd.func7, Tryd.ntmps7
    go_wp2_with fail
    refine (HV.out _).mono ?_
    rintro e w1 ⟨rfl, hb1⟩
    go_wp2
    go_ret
    exact ⟨rfl, HX.out.2.trans (hb1.mono HX.out.2.size)⟩
  | true =>
    rw [hd] at HV
    rw [if_pos rfl]
    obtain ⟨hk, ha, hb⟩ := deedB_big hd
    obtain ⟨n, rfl⟩ : ∃ n : Nat, k = (n : Int) := ⟨k.toNat, by omega⟩
    have hn : 1 ≤ n ∧ n ≤ 6 := by omega
    rw [Int.toNat_natCast]
    have HW := Lib.hid (And.intro (forms_kw n hn) (forms_at n hn))
    have Hp := Lib.hid hp
    clear hp
    have hm := told_le n
    have hkw := kwD_size n
    generalize toldD n = m at *
    generalize kwD n = kw at *
    have HR := Lib.hid (fun (W : World) (g c : Nat) (hw : Below w.heap.size w W) (hg : Bx W g 2 #[.int .i64 a, .int .i64 b]) => impl_row kw g 0 m c ([a, b].take m) W (by omega) (two_take a b m hm) (by omega) (big_take ha hb) hg.lt (Hp.out.later hw) (two_cells hg))
    generalize rowT kw ([a, b].take m) = R at *
    have HX := Lib.hid (And.intro hx hB)
    have hn7 : n < 7 := by omega
    have hn0 : (0 : Int) ≤ (n : Int) := by omega
    have hn8 : (n : Int) < 7 := by omega
    have hm2 : (m : Int) ≤ 2 := by omega
    have hm0 : (0 : Int) ≤ (m : Int) := by omega
    clear hx hB hd hk ha hb
    go_enter Tryd.func7, Tryd.ntmps7
    go_wp2_with fail
    refine (HV.out _).mono ?_
    rintro e w1 ⟨rfl, hb1⟩
    have x1 := HX.out.1.later hb1
    have hB1 := HX.out.2.trans (hb1.mono HX.out.2.size)
    clear c0 c1 c2 cl hb1
    have HY := Lib.hid (And.intro x1 hB1)
    clear x1 hB1
    go_upto_region 3 with fail
    refine wp_region_free_last (by kernel_rfl) [
        .own (LitF w1.heap.size 40 formsC 7) (),
        .val [] (fun _ => .pointer (some ⟨w.heap.size, 0, none⟩)),
        .val [] (fun _ => .int .i64 (n : Int)),
        .val [0] (fun u => ptrOf (u 0) (n * 2)),
        .val [] (fun _ => .agg #[.string kw, .int .i64 (m : Int)]),
        .own (PtrE w1.heap.size 40 #[.string ⟨#[]⟩, .int .i64 0]) ()] ?hp ?hfw ?deps ?oks ?hl ?hpos ?steps
    case hp => kernel_rfl
    case hfw => kernel_rfl
    case deps => kernel_rfl
    case hl => kernel_rfl
    case hpos => kernel_rfl
    case oks =>
      intro F hF
      simp only [List.mem_cons, List.not_mem_nil, or_false] at hF
      rcases hF with rfl | rfl | rfl | rfl | rfl | rfl
      · exact ⟨_, litf_ok _ _ _ _⟩
      · trivial
      · trivial
      · trivial
      · trivial
      · exact ⟨_, ptre_ok _ _ _⟩
    case steps =>
      refine StepsL.cons ?_ ?_
      · refine FreeStep.own (base := w1.heap.size) rfl (litf_ok _ _ _ _) fun u β W hW hn fr hfr K hK => ?_
        simp only [frameL, putL, Act.put, List.setIfInBounds_toArray, List.set_cons_zero, List.set_cons_succ, Nat.zero_add, Nat.reduceAdd] at hfr
        subst hfr
        have hsz := hW.size
        have HK := Lib.hid hK
        clear hK hn
        go_simp
        refine (impl_forms _).mono ?_
        rintro e wn ⟨rfl, rfl⟩
        exact HK.out _ [W.heap.size] _ ((Below.refl _ _).alloc (Nat.le_refl _) _) (LitF.new _ _ _ W hsz) (fun b hb => by rw [List.mem_singleton.1 hb]; exact Nat.le_refl _)
      refine StepsL.cons ?_ ?_
      · refine FreeStep.val [] _ rfl rfl fun u β W hW hn fr hfr K hK => ?_
        simp only [frameL, putL, Act.put, List.setIfInBounds_toArray, List.set_cons_zero, List.set_cons_succ, Nat.zero_add, Nat.reduceAdd] at hfr
        subst hfr
        have HK := Lib.hid hK
        clear hK hn
        go_simp
        have h9 := HK.out
        revert h9
        clear HK
        go_simp
        try exact id
      refine StepsL.cons ?_ ?_
      · refine FreeStep.val [] _ rfl rfl fun u β W hW hn fr hfr K hK => ?_
        simp only [frameL, putL, Act.put, List.setIfInBounds_toArray, List.set_cons_zero, List.set_cons_succ, Nat.zero_add, Nat.reduceAdd] at hfr
        subst hfr
        have e1 : u 1 = .pointer (some ⟨w.heap.size, 0, none⟩) := Have.get (k := 1) hn rfl
        simp only [e1] at hK
        obtain ⟨d0, d1, d2, dl⟩ := id (HY.out.1.later hW).all3
        have HK := Lib.hid hK
        clear hK hn
        go_simp
        have h9 := HK.out
        revert h9
        clear HK
        go_simp
        try exact id
      refine StepsL.cons ?_ ?_
      · refine FreeStep.val [0] _ rfl rfl fun u β W hW hn fr hfr K hK => ?_
        simp only [frameL, putL, Act.put, List.setIfInBounds_toArray, List.set_cons_zero, List.set_cons_succ, Nat.zero_add, Nat.reduceAdd] at hfr
        subst hfr
        have f0 : (LitF w1.heap.size 40 formsC 7) W (u 0) () (β 0) := Have.get (k := 0) hn rfl
        have e2 : u 2 = .int .i64 (n : Int) := Have.get (k := 2) hn rfl
        obtain ⟨b0, e0, x0, _, _⟩ := f0
        have e0b : ptrOf (u 0) (n * 2) = .pointer (some ⟨b0, n * 2, none⟩) := by rw [e0]; rfl
        have hon0 : only [0] u 0 = u 0 := rfl
        simp only [hon0, e2, e0b] at hK
        have HK := Lib.hid hK
        clear hK hn hon0 e0b
        go_simp
        have h9 := HK.out
        revert h9
        clear HK
        go_simp
        try exact id
      refine StepsL.cons ?_ ?_
      · refine FreeStep.val [] _ rfl rfl fun u β W hW hn fr hfr K hK => ?_
        simp only [frameL, putL, Act.put, List.setIfInBounds_toArray, List.set_cons_zero, List.set_cons_succ, Nat.zero_add, Nat.reduceAdd] at hfr
        subst hfr
        have e3 := Have.get (k := 3) hn rfl
        have e3_ : u 3 = ptrOf (u 0) (n * 2) := e3
        clear e3
        have f0 : (LitF w1.heap.size 40 formsC 7) W (u 0) () (β 0) := Have.get (k := 0) hn rfl
        obtain ⟨b0, e0, x0, _, _⟩ := f0
        have e0b : ptrOf (u 0) (n * 2) = .pointer (some ⟨b0, n * 2, none⟩) := by rw [e0]; rfl
        rw [e0b] at e3_
        have c8 := x0.cell (n * 2) _ HW.out.1
        have c9 := x0.cell (n * 2 + 1) _ HW.out.2
        simp only [e3_] at hK
        have HK := Lib.hid hK
        clear hK hn e0b
        go_simp
        have h9 := HK.out
        revert h9
        clear HK
        go_simp
        try exact id
      refine StepsL.cons ?_ ?_
      · refine FreeStep.own (base := w1.heap.size) rfl (ptre_ok _ _ _) fun u β W hW hn fr hfr K hK => ?_
        simp only [frameL, putL, Act.put, List.setIfInBounds_toArray, List.set_cons_zero, List.set_cons_succ, Nat.zero_add, Nat.reduceAdd] at hfr
        subst hfr
        have hsz := hW.size
        have HK := Lib.hid hK
        clear hK hn
        go_simp
        exact HK.out _ [W.heap.size] _ ((Below.refl _ _).alloc (Nat.le_refl _) _) (PtrE.new _ _ W hsz) (fun b hb => by rw [List.mem_singleton.1 hb]; exact Nat.le_refl _)
      intro u β W hW hn hdis hbnd fr hfr K hK
      simp only [frameL, putL, Act.put, List.setIfInBounds_toArray, List.set_cons_zero, List.set_cons_succ, Nat.zero_add, Nat.reduceAdd] at hfr
      subst hfr
      have f0 : (LitF w1.heap.size 40 formsC 7) W (u 0) () (β 0) := Have.get (k := 0) hn rfl
      have z1 : u 1 = .pointer (some ⟨w.heap.size, 0, none⟩) := Have.get (k := 1) hn rfl
      have z2 : u 2 = .int .i64 (n : Int) := Have.get (k := 2) hn rfl
      have z3 : u 3 = ptrOf (u 0) (n * 2) := Have.get (k := 3) hn rfl
      have z4 : u 4 = .agg #[.string kw, .int .i64 (m : Int)] := Have.get (k := 4) hn rfl
      have f5 : (PtrE w1.heap.size 40 #[.string ⟨#[]⟩, .int .i64 0]) W (u 5) () (β 5) := Have.get (k := 5) hn rfl
      obtain ⟨fb, e5, x5, hb5, hb5b⟩ := f5
      obtain ⟨b0, e0, x0, _, _⟩ := f0
      clear x0
      simp only [z1, z2, z3, z4, e5]
      have r0 := x5.frozen 0
      have r1 := x5.frozen 1
      obtain ⟨p0, p1, pl⟩ := id x5.all2
      have HZ := Lib.hid (And.intro x5 (And.intro (HY.out.1.later hW) (And.intro (HY.out.2.trans (hW.mono HY.out.2.size)) hb5b)))
      have hws := hW.size
      have HK := Lib.hid hK
      clear hK hn hdis hbnd z1 z2 z3 z4 x5 hW e0 e5
      go_simp
      refine HK.out _ _ ?_
      clear HK
      have y3 := (HZ.out.1.set 0 (.string kw)).set 1 (.int .i64 (m : Int))
      have h1 := HY.out.2.size
      have h2 := HY.out.1.lt
      have hne : fb ≠ w.heap.size := by have := HZ.out.2.2.2; omega
      have y1 := (HZ.out.2.1.other 0 (.string kw) hne).other 1 (.int .i64 (m : Int)) hne
      have y2 := (HZ.out.2.2.1.setCell (p := ⟨fb, 0, none⟩) (by show w.heap.size ≤ fb; have := HZ.out.2.2.2; omega) (.string kw)).setCell (p := ⟨fb, 1, none⟩) (by show w.heap.size ≤ fb; have := HZ.out.2.2.2; omega) (.int .i64 (m : Int))
      obtain ⟨W3, hW3⟩ : ∃ W3, W3 = (W.setCell ⟨fb, 0, none⟩ (.string kw)).setCell ⟨fb, 1, none⟩ (.int .i64 (m : Int)) := ⟨_, rfl⟩
      rw [← hW3] at y1 y2 y3
      have HQ := Lib.hid (And.intro (show Bx W3 fb 40 #[.string kw, .int .i64 (m : Int)] from y3) (And.intro y1 y2))
      have HW3 := Lib.hid hW3
      clear hW3 y1 y2 y3 HZ HY r0 r1 p0 p1 pl h1 h2 hne hb5 hb5b hws
      go_upto_region 4 with fail
      rw [← HW3.out]
      clear HW3
      refine wp_region_free (by kernel_rfl) [
          .val [] (fun _ => .pointer (some ⟨fb, 0, none⟩)),
          .val [] (fun _ => .string kw),
          .val [] (fun _ => .pointer (some ⟨w.heap.size, 1, none⟩)),
          .val [] (fun _ => .int .i64 a),
          .val [] (fun _ => .pointer (some ⟨w.heap.size, 2, none⟩)),
          .val [] (fun _ => .int .i64 b),
          .own (LitF W3.heap.size 2 #[.int .i64 a, .int .i64 b] 2) (),
          .val [] (fun _ => .pointer (some ⟨fb, 1, none⟩)),
          .val [] (fun _ => .int .i64 (m : Int)),
          .val [6] (fun u => sliceOf (u 6) m),
          .val [] (fun _ => .string R),
          .val [] (fun _ => .string R)] ?hp ?hfw ?deps ?oks ?steps ?tail
      case hp => kernel_rfl
      case hfw => kernel_rfl
      case deps => kernel_rfl
      case oks =>
        intro F hF
        simp only [List.mem_cons, List.not_mem_nil, or_false] at hF
        rcases hF with rfl | rfl | rfl | rfl | rfl | rfl | rfl | rfl | rfl | rfl | rfl | rfl
        · trivial
        · trivial
        · trivial
        · trivial
        · trivial
        · trivial
        · exact ⟨_, litf_ok _ _ _ _⟩
        · trivial
        · trivial
        · trivial
        · trivial
        · trivial
      case steps =>
        refine Steps.cons ?_ ?_
        · refine FreeStep.val [] _ rfl rfl fun u β W hW hn fr hfr K hK => ?_
          simp only [frameL, putL, Act.put, List.setIfInBounds_toArray, List.set_cons_zero, List.set_cons_succ, Nat.zero_add, Nat.reduceAdd] at hfr
          subst hfr
          have HK := Lib.hid hK
          clear hK hn
          go_simp
          have h9 := HK.out
          revert h9
          clear HK
          go_simp
          try exact id
        refine Steps.cons ?_ ?_
        · refine FreeStep.val [] _ rfl rfl fun u β W hW hn fr hfr K hK => ?_
          simp only [frameL, putL, Act.put, List.setIfInBounds_toArray, List.set_cons_zero, List.set_cons_succ, Nat.zero_add, Nat.reduceAdd] at hfr
          subst hfr
          have e0 : u 0 = .pointer (some ⟨fb, 0, none⟩) := Have.get (k := 0) hn rfl
          simp only [e0] at hK
          obtain ⟨d0, d1, dl⟩ := id (HQ.out.1.later hW).all2
          have HK := Lib.hid hK
          clear hK hn
          go_simp
          have h9 := HK.out
          revert h9
          clear HK
          go_simp
          try exact id
        refine Steps.cons ?_ ?_
        · refine FreeStep.val [] _ rfl rfl fun u β W hW hn fr hfr K hK => ?_
          simp only [frameL, putL, Act.put, List.setIfInBounds_toArray, List.set_cons_zero, List.set_cons_succ, Nat.zero_add, Nat.reduceAdd] at hfr
          subst hfr
          have HK := Lib.hid hK
          clear hK hn
          go_simp
          have h9 := HK.out
          revert h9
          clear HK
          go_simp
          try exact id
        refine Steps.cons ?_ ?_
        · refine FreeStep.val [] _ rfl rfl fun u β W hW hn fr hfr K hK => ?_
          simp only [frameL, putL, Act.put, List.setIfInBounds_toArray, List.set_cons_zero, List.set_cons_succ, Nat.zero_add, Nat.reduceAdd] at hfr
          subst hfr
          have e2 : u 2 = .pointer (some ⟨w.heap.size, 1, none⟩) := Have.get (k := 2) hn rfl
          simp only [e2] at hK
          obtain ⟨d0, d1, d2, dl⟩ := id (HQ.out.2.1.later hW).all3
          have HK := Lib.hid hK
          clear hK hn
          go_simp
          have h9 := HK.out
          revert h9
          clear HK
          go_simp
          try exact id
        refine Steps.cons ?_ ?_
        · refine FreeStep.val [] _ rfl rfl fun u β W hW hn fr hfr K hK => ?_
          simp only [frameL, putL, Act.put, List.setIfInBounds_toArray, List.set_cons_zero, List.set_cons_succ, Nat.zero_add, Nat.reduceAdd] at hfr
          subst hfr
          have HK := Lib.hid hK
          clear hK hn
          go_simp
          have h9 := HK.out
          revert h9
          clear HK
          go_simp
          try exact id
        refine Steps.cons ?_ ?_
        · refine FreeStep.val [] _ rfl rfl fun u β W hW hn fr hfr K hK => ?_
          simp only [frameL, putL, Act.put, List.setIfInBounds_toArray, List.set_cons_zero, List.set_cons_succ, Nat.zero_add, Nat.reduceAdd] at hfr
          subst hfr
          have e4 : u 4 = .pointer (some ⟨w.heap.size, 2, none⟩) := Have.get (k := 4) hn rfl
          simp only [e4] at hK
          obtain ⟨d0, d1, d2, dl⟩ := id (HQ.out.2.1.later hW).all3
          have HK := Lib.hid hK
          clear hK hn
          go_simp
          have h9 := HK.out
          revert h9
          clear HK
          go_simp
          try exact id
        refine Steps.cons ?_ ?_
        · refine FreeStep.own (base := W3.heap.size) rfl (litf_ok _ _ _ _) fun u β W hW hn fr hfr K hK => ?_
          simp only [frameL, putL, Act.put, List.setIfInBounds_toArray, List.set_cons_zero, List.set_cons_succ, Nat.zero_add, Nat.reduceAdd] at hfr
          subst hfr
          have e3 : u 3 = .int .i64 a := Have.get (k := 3) hn rfl
          have e5 : u 5 = .int .i64 b := Have.get (k := 5) hn rfl
          simp only [e3, e5] at hK
          have hsz := hW.size
          have HK := Lib.hid hK
          clear hK hn
          go_simp
          exact HK.out _ [W.heap.size] _ ((Below.refl _ _).alloc (Nat.le_refl _) _) (LitF.new _ _ _ W hsz) (fun b hb => by rw [List.mem_singleton.1 hb]; exact Nat.le_refl _)
        refine Steps.cons ?_ ?_
        · refine FreeStep.val [] _ rfl rfl fun u β W hW hn fr hfr K hK => ?_
          simp only [frameL, putL, Act.put, List.setIfInBounds_toArray, List.set_cons_zero, List.set_cons_succ, Nat.zero_add, Nat.reduceAdd] at hfr
          subst hfr
          have HK := Lib.hid hK
          clear hK hn
          go_simp
          have h9 := HK.out
          revert h9
          clear HK
          go_simp
          try exact id
        refine Steps.cons ?_ ?_
        · refine FreeStep.val [] _ rfl rfl fun u β W hW hn fr hfr K hK => ?_
          simp only [frameL, putL, Act.put, List.setIfInBounds_toArray, List.set_cons_zero, List.set_cons_succ, Nat.zero_add, Nat.reduceAdd] at hfr
          subst hfr
          have e7 : u 7 = .pointer (some ⟨fb, 1, none⟩) := Have.get (k := 7) hn rfl
          simp only [e7] at hK
          obtain ⟨d0, d1, dl⟩ := id (HQ.out.1.later hW).all2
          have HK := Lib.hid hK
          clear hK hn
          go_simp
          have h9 := HK.out
          revert h9
          clear HK
          go_simp
          try exact id
        refine Steps.cons ?_ ?_
        · refine FreeStep.val [6] _ rfl rfl fun u β W hW hn fr hfr K hK => ?_
          simp only [frameL, putL, Act.put, List.setIfInBounds_toArray, List.set_cons_zero, List.set_cons_succ, Nat.zero_add, Nat.reduceAdd] at hfr
          subst hfr
          have f6 : (LitF W3.heap.size 2 #[.int .i64 a, .int .i64 b] 2) W (u 6) () (β 6) := Have.get (k := 6) hn rfl
          have e8 : u 8 = .int .i64 (m : Int) := Have.get (k := 8) hn rfl
          obtain ⟨b9, e9, x9, _, _⟩ := f6
          have e9b : sliceOf (u 6) m = .slice (some ⟨b9, 0, none⟩) m 2 := by rw [e9]; rfl
          have hon6 : only [6] u 6 = u 6 := rfl
          simp only [hon6, e8, e9b] at hK
          have HK := Lib.hid hK
          clear hK hn hon6 e9b
          go_simp
          have h9 := HK.out
          revert h9
          clear HK
          go_simp
          try exact id
        refine Steps.cons ?_ ?_
        · refine FreeStep.calm [] _ rfl rfl fun u β W hW hn fr hfr K hK => ?_
          simp only [frameL, putL, Act.put, List.setIfInBounds_toArray, List.set_cons_zero, List.set_cons_succ, Nat.zero_add, Nat.reduceAdd] at hfr
          subst hfr
          have e1 : u 1 = .string kw := Have.get (k := 1) hn rfl
          have e9 := Have.get (k := 9) hn rfl
          have e9_ : u 9 = sliceOf (u 6) m := e9
          clear e9
          have f6 : (LitF W3.heap.size 2 #[.int .i64 a, .int .i64 b] 2) W (u 6) () (β 6) := Have.get (k := 6) hn rfl
          obtain ⟨b9, e9, x9, _, _⟩ := f6
          have e9b : sliceOf (u 6) m = .slice (some ⟨b9, 0, none⟩) m 2 := by rw [e9]; rfl
          rw [e9b] at e9_
          simp only [e1, e9_] at hK
          have hBW := HQ.out.2.2.trans (hW.mono HQ.out.2.2.size)
          have HK := Lib.hid hK
          clear hK hn e9b
          go_simp
          refine (HR.out _ _ _ hBW x9).mono ?_
          rintro e wn ⟨rfl, hbn⟩
          have h9 := HK.out _ hbn
          revert h9
          clear HK
          go_simp
          try exact id
        refine Steps.cons ?_ ?_
        · refine FreeStep.val [] _ rfl rfl fun u β W hW hn fr hfr K hK => ?_
          simp only [frameL, putL, Act.put, List.setIfInBounds_toArray, List.set_cons_zero, List.set_cons_succ, Nat.zero_add, Nat.reduceAdd] at hfr
          subst hfr
          have e10 : u 10 = .string R := Have.get (k := 10) hn rfl
          simp only [e10] at hK
          have HK := Lib.hid hK
          clear hK hn
          go_simp
          have h9 := HK.out
          revert h9
          clear HK
          go_simp
          try exact id
        exact Steps.nil
      case tail =>
        intro u_ β_ W hW hn hdis hbnd
        have z0 : u_ 0 = .pointer (some ⟨fb, 0, none⟩) := Have.get (k := 0) hn rfl
        have z1 : u_ 1 = .string kw := Have.get (k := 1) hn rfl
        have z2 : u_ 2 = .pointer (some ⟨w.heap.size, 1, none⟩) := Have.get (k := 2) hn rfl
        have z3 : u_ 3 = .int .i64 a := Have.get (k := 3) hn rfl
        have z4 : u_ 4 = .pointer (some ⟨w.heap.size, 2, none⟩) := Have.get (k := 4) hn rfl
        have z5 : u_ 5 = .int .i64 b := Have.get (k := 5) hn rfl
        have g6 : (LitF W3.heap.size 2 #[.int .i64 a, .int .i64 b] 2) W (u_ 6) () (β_ 6) := Have.get (k := 6) hn rfl
        have z7 : u_ 7 = .pointer (some ⟨fb, 1, none⟩) := Have.get (k := 7) hn rfl
        have z8 : u_ 8 = .int .i64 (m : Int) := Have.get (k := 8) hn rfl
        have z9 : u_ 9 = sliceOf (u_ 6) m := Have.get (k := 9) hn rfl
        have z10 : u_ 10 = .string R := Have.get (k := 10) hn rfl
        have z11 : u_ 11 = .string R := Have.get (k := 11) hn rfl
        rw [← frameL_eq (by kernel_rfl)]
        clear hn hdis hbnd
        simp only [frameL, putL, Act.put, List.setIfInBounds_toArray, List.set_cons_zero, List.set_cons_succ, Nat.zero_add, Nat.reduceAdd, z0, z1, z2, z3, z4, z5, z7, z8, z9, z10, z11]
        clear z0 z1 z2 z3 z4 z5 z7 z8 z9 z10 z11
        go_wp2
        go_ret
        exact ⟨rfl, HQ.out.2.2.trans (hW.mono HQ.out.2.2.size)⟩
end Go.Proofs.YtadifihblaalpaaDoor
