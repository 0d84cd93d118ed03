/- The program's check of a rewriter: a table; a rewriter. -/
import Derived.Test.YtmkamodmnplclaaVaJ
import Derived.Deep.Cut
namespace Go.Proofs.Ytmkamodmnplclaa
open Go.RowKit
set_option linter.unusedVariables false

theorem entersV {P : Program} {f : FuncId} {fn : Func} {c : Code} (hf : P.funcs[f]? = some fn) (hname : (fn.name == "runtime.NumGoroutine") = false) (hb : fn.body = some c) (args : Array Value) (w : World) :
    (callFunc f args).run P w = .ok (.enter f args) w := by
  have h1 : fn.name ≠ "runtime.NumGoroutine" := by simpa using hname
  simp [callFunc, hf, h1, hb]
theorem rowB_eq {α : Type} {p : α → Bool} {k : Int} {xs : List α} (h : (xs.length : Int) = k) : rowB p k xs = xs.all p := by
  rw [rowB, decide_eq_true h, Bool.and_true]
theorem rowB_ne {α : Type} {p : α → Bool} {k : Int} {xs : List α} (h : ¬ (xs.length : Int) = k) : rowB p k xs = false := by
  rw [rowB, decide_eq_false h, Bool.and_false]
theorem cf1_om : ∀ args w, (callFunc 120 args).run Try.prog w = .ok (.enter 120 args) w := fun args w => entersV (fn := Try.f120) (by kernel_rfl) (by kernel_rfl) rfl args w
theorem cf2_om : ∀ args w, (callFunc 121 args).run Try.prog w = .ok (.enter 121 args) w := fun args w => entersV (fn := Try.f121) (by kernel_rfl) (by kernel_rfl) rfl args w
set_option maxHeartbeats 6400000 in
set_option maxRecDepth 100000 in
theorem broken_om {base B6 B7 B9 n m k0 : Nat} {A0 : Option Addr} {st cols : Int} {z1 z2 u : Value} {row : List (Int × ByteArray)} {cs : List Nat} (w : World) (hr : row.length ≤ 1048576) (hE : OmE base w u row cs)
    (h6 : w.cell? ⟨B6, 0, none⟩ = some (.int .i64 cols)) (h9 : w.cell? ⟨B9, 0, none⟩ = some (.func (.func 120) #[] #[.pointer (some ⟨B7, 0, none⟩)])) (h7 : Bx w B7 36 #[.int .i64 (m : Int), .int .i64 st, .slice A0 n k0, z1, z2]) :
    Calls Try.prog 121 (#[u] ++ #[.pointer (some ⟨B6, 0, none⟩), .pointer (some ⟨B9, 0, none⟩)]) w (TupPost (.bool (!rowB (omB n) cols row)) w) := by
  have HC := Lib.hid (cont_om0 w (omB n) 120 #[.pointer (some ⟨B7, 0, none⟩)] cf1_om hr hE (fun x _ W hW => strange_om x W (h7.later hW)))
  obtain ⟨A, ca, rfl⟩ := RowE.slice hE
  have hR := Below.refl w.heap.size w
  change Calls Try.prog _ #[.slice A row.length ca, .pointer (some ⟨B6, 0, none⟩), .pointer (some ⟨B9, 0, none⟩)] w _
  by_cases hl : (row.length : Int) = cols
  · rw [rowB_eq hl]
    have e1 : ((row.length : Int) != cols) = false := by simp only [bne_eq_false_iff_eq]; exact hl
    generalize row.all (omB n) = r at *
    generalize row.length = l at *
    clear hE h7
    subst hl
    clear e1
    go_enter Try.func121, Try.ntmps121
    go_wp2_with fail
    refine HC.out.mono ?_
    rintro e w1 ⟨rfl, hb1⟩
    go_wp2
    go_ret
    exact ⟨rfl, hb1⟩
  · rw [rowB_ne hl]
    have e1 : ((row.length : Int) != cols) = true := by simp only [bne_iff_ne]; exact hl
    generalize row.length = l at *
    clear hE h7 HC
    go_enter Try.func121, Try.ntmps121
    go_wp2
    go_ret
    exact ⟨rfl, hR⟩
set_option maxHeartbeats 6400000 in
set_option maxRecDepth 100000 in
theorem isFull_om {base n m k0 : Nat} {A0 : Option Addr} {st cols rows : Int} {z1 z2 v : Value} {xs : List (List (Int × ByteArray))} {bs : List Nat} (w : World) (hn : Bd2 xs) (ha : Om2E base w v xs bs) :
    Calls Try.prog 76 #[v, .int .i64 rows, .int .i64 cols, .agg #[.int .i64 (m : Int), .int .i64 st, .slice A0 n k0, z1, z2]] w (TupPost (.bool (rowB (rowB (omB n) cols) rows xs)) w) := by
  have hB3 := (((Below.refl w.heap.size w).alloc (Nat.le_refl _) (.cells #[.int .i64 cols] 2)).alloc (by simp) (.cells #[.int .i64 (m : Int), .int .i64 st, .slice A0 n k0, z1, z2] 36)).alloc (by simp; omega) (.cells #[.func (.func 120) #[] #[.pointer (some ⟨w.heap.size + 1, 0, none⟩)]] 146)
  have x6 := ((Bx.new w 2 #[.int .i64 cols]).alloc (.cells #[.int .i64 (m : Int), .int .i64 st, .slice A0 n k0, z1, z2] 36)).alloc (.cells #[.func (.func 120) #[] #[.pointer (some ⟨w.heap.size + 1, 0, none⟩)]] 146)
  have x7 := (Bx.new (w.alloc (.cells #[.int .i64 cols] 2)) 36 #[.int .i64 (m : Int), .int .i64 st, .slice A0 n k0, z1, z2]).alloc (.cells #[.func (.func 120) #[] #[.pointer (some ⟨w.heap.size + 1, 0, none⟩)]] 146)
  have x9 := Bx.new ((w.alloc (.cells #[.int .i64 cols] 2)).alloc (.cells #[.int .i64 (m : Int), .int .i64 st, .slice A0 n k0, z1, z2] 36)) 146 #[.func (.func 120) #[] #[.pointer (some ⟨w.heap.size + 1, 0, none⟩)]]
  have y9 := Bx.new ((w.alloc (.cells #[.int .i64 cols] 2)).alloc (.cells #[.int .i64 (m : Int), .int .i64 st, .slice A0 n k0, z1, z2] 36)) 146 #[.nilFunc]
  rw [World.size_alloc] at x7
  rw [World.size_alloc, World.size_alloc] at x9 y9
  have s0 := y9.cell 0 .nilFunc rfl
  have s2 := fun W => run_store Try.prog W ⟨w.heap.size + 1 + 1, 0, none⟩ (.func (.func 120) #[] #[.pointer (some ⟨w.heap.size + 1, 0, none⟩)]) Mode.plain rfl
  have s1 := y9.frozen 0
  obtain ⟨W3, hW3⟩ : ∃ W, W = ((w.alloc (.cells #[.int .i64 cols] 2)).alloc (.cells #[.int .i64 (m : Int), .int .i64 st, .slice A0 n k0, z1, z2] 36)).alloc (.cells #[.func (.func 120) #[] #[.pointer (some ⟨w.heap.size + 1, 0, none⟩)]] 146) := ⟨_, rfl⟩
  rw [← hW3] at hB3 x6 x7 x9
  have HW3 := Lib.hid hW3
  have HB3 := Lib.hid hB3
  have ha3 := (om2_ok _).later ha hB3
  have HC := Lib.hid (cont_om1 W3 (rowB (omB n) cols) 121 #[.pointer (some ⟨w.heap.size, 0, none⟩), .pointer (some ⟨w.heap.size + 1 + 1, 0, none⟩)] cf2_om hn.1 ha3 (fun x hx W u cs hW hE => broken_om W (hn.2 x hx) hE ((x6.later hW).cell 0 _ rfl) ((x9.later hW).cell 0 _ rfl) (x7.later hW)))
  obtain ⟨A, ca, rfl⟩ := ManyE.slice ha
  have hl0 := hn.1
  clear hB3 x6 x7 x9 y9 hW3 ha ha3 hn
  by_cases hl : (xs.length : Int) = rows
  · rw [rowB_eq hl]
    generalize xs.all (rowB (omB n) cols) = r at *
    generalize xs.length = l at *
    subst hl
    go_enter Try.func76, Try.ntmps76
    go_upto_region 3 with fail
    rw [← HW3.out]
    go_wp2_with fail
    refine HC.out.mono ?_
    rintro e w1 ⟨rfl, hb1⟩
    go_wp2
    go_ret
    exact ⟨by simp, HB3.out.trans (hb1.mono HB3.out.size)⟩
  · rw [rowB_ne hl]
    have e1 : ((xs.length : Int) == rows) = false := by simp only [beq_eq_false_iff_ne]; exact hl
    generalize xs.length = l at *
    clear HC
    go_enter Try.func76, Try.ntmps76
    go_upto_region 3 with fail
    rw [← HW3.out]
    go_wp2
    go_ret
    exact ⟨rfl, HB3.out⟩
theorem cf1_op : ∀ args w, (callFunc 124 args).run Try.prog w = .ok (.enter 124 args) w := fun args w => entersV (fn := Try.f124) (by kernel_rfl) (by kernel_rfl) rfl args w
theorem cf2_op : ∀ args w, (callFunc 125 args).run Try.prog w = .ok (.enter 125 args) w := fun args w => entersV (fn := Try.f125) (by kernel_rfl) (by kernel_rfl) rfl args w
set_option maxHeartbeats 6400000 in
set_option maxRecDepth 100000 in
theorem broken_op {base B6 B7 B9 n m k0 : Nat} {A0 : Option Addr} {st cols : Int} {z1 z2 u : Value} {row : List (Int × Int × ByteArray)} {cs : List Nat} (w : World) (hr : row.length ≤ 1048576) (hE : OpE base w u row cs)
    (h6 : w.cell? ⟨B6, 0, none⟩ = some (.int .i64 cols)) (h9 : w.cell? ⟨B9, 0, none⟩ = some (.func (.func 124) #[] #[.pointer (some ⟨B7, 0, none⟩)])) (h7 : Bx w B7 36 #[.int .i64 (m : Int), .int .i64 st, .slice A0 n k0, z1, z2]) :
    Calls Try.prog 125 (#[u] ++ #[.pointer (some ⟨B6, 0, none⟩), .pointer (some ⟨B9, 0, none⟩)]) w (TupPost (.bool (!rowB (opB n m) cols row)) w) := by
  have HC := Lib.hid (cont_op0 w (opB n m) 124 #[.pointer (some ⟨B7, 0, none⟩)] cf1_op hr hE (fun x _ W hW => strange_op x W (h7.later hW)))
  obtain ⟨A, ca, rfl⟩ := RowE.slice hE
  have hR := Below.refl w.heap.size w
  change Calls Try.prog _ #[.slice A row.length ca, .pointer (some ⟨B6, 0, none⟩), .pointer (some ⟨B9, 0, none⟩)] w _
  by_cases hl : (row.length : Int) = cols
  · rw [rowB_eq hl]
    have e1 : ((row.length : Int) != cols) = false := by simp only [bne_eq_false_iff_eq]; exact hl
    generalize row.all (opB n m) = r at *
    generalize row.length = l at *
    clear hE h7
    subst hl
    clear e1
    go_enter Try.func125, Try.ntmps125
    go_wp2_with fail
    refine HC.out.mono ?_
    rintro e w1 ⟨rfl, hb1⟩
    go_wp2
    go_ret
    exact ⟨rfl, hb1⟩
  · rw [rowB_ne hl]
    have e1 : ((row.length : Int) != cols) = true := by simp only [bne_iff_ne]; exact hl
    generalize row.length = l at *
    clear hE h7 HC
    go_enter Try.func125, Try.ntmps125
    go_wp2
    go_ret
    exact ⟨rfl, hR⟩
set_option maxHeartbeats 6400000 in
set_option maxRecDepth 100000 in
theorem isFull_op {base n m k0 : Nat} {A0 : Option Addr} {st cols rows : Int} {z1 z2 v : Value} {xs : List (List (Int × Int × ByteArray))} {bs : List Nat} (w : World) (hn : Bd2 xs) (ha : Op2E base w v xs bs) :
    Calls Try.prog 77 #[v, .int .i64 rows, .int .i64 cols, .agg #[.int .i64 (m : Int), .int .i64 st, .slice A0 n k0, z1, z2]] w (TupPost (.bool (rowB (rowB (opB n m) cols) rows xs)) w) := by
  have hB3 := (((Below.refl w.heap.size w).alloc (Nat.le_refl _) (.cells #[.int .i64 cols] 2)).alloc (by simp) (.cells #[.int .i64 (m : Int), .int .i64 st, .slice A0 n k0, z1, z2] 36)).alloc (by simp; omega) (.cells #[.func (.func 124) #[] #[.pointer (some ⟨w.heap.size + 1, 0, none⟩)]] 150)
  have x6 := ((Bx.new w 2 #[.int .i64 cols]).alloc (.cells #[.int .i64 (m : Int), .int .i64 st, .slice A0 n k0, z1, z2] 36)).alloc (.cells #[.func (.func 124) #[] #[.pointer (some ⟨w.heap.size + 1, 0, none⟩)]] 150)
  have x7 := (Bx.new (w.alloc (.cells #[.int .i64 cols] 2)) 36 #[.int .i64 (m : Int), .int .i64 st, .slice A0 n k0, z1, z2]).alloc (.cells #[.func (.func 124) #[] #[.pointer (some ⟨w.heap.size + 1, 0, none⟩)]] 150)
  have x9 := Bx.new ((w.alloc (.cells #[.int .i64 cols] 2)).alloc (.cells #[.int .i64 (m : Int), .int .i64 st, .slice A0 n k0, z1, z2] 36)) 150 #[.func (.func 124) #[] #[.pointer (some ⟨w.heap.size + 1, 0, none⟩)]]
  have y9 := Bx.new ((w.alloc (.cells #[.int .i64 cols] 2)).alloc (.cells #[.int .i64 (m : Int), .int .i64 st, .slice A0 n k0, z1, z2] 36)) 150 #[.nilFunc]
  rw [World.size_alloc] at x7
  rw [World.size_alloc, World.size_alloc] at x9 y9
  have s0 := y9.cell 0 .nilFunc rfl
  have s2 := fun W => run_store Try.prog W ⟨w.heap.size + 1 + 1, 0, none⟩ (.func (.func 124) #[] #[.pointer (some ⟨w.heap.size + 1, 0, none⟩)]) Mode.plain rfl
  have s1 := y9.frozen 0
  obtain ⟨W3, hW3⟩ : ∃ W, W = ((w.alloc (.cells #[.int .i64 cols] 2)).alloc (.cells #[.int .i64 (m : Int), .int .i64 st, .slice A0 n k0, z1, z2] 36)).alloc (.cells #[.func (.func 124) #[] #[.pointer (some ⟨w.heap.size + 1, 0, none⟩)]] 150) := ⟨_, rfl⟩
  rw [← hW3] at hB3 x6 x7 x9
  have HW3 := Lib.hid hW3
  have HB3 := Lib.hid hB3
  have ha3 := (op2_ok _).later ha hB3
  have HC := Lib.hid (cont_op1 W3 (rowB (opB n m) cols) 125 #[.pointer (some ⟨w.heap.size, 0, none⟩), .pointer (some ⟨w.heap.size + 1 + 1, 0, none⟩)] cf2_op hn.1 ha3 (fun x hx W u cs hW hE => broken_op W (hn.2 x hx) hE ((x6.later hW).cell 0 _ rfl) ((x9.later hW).cell 0 _ rfl) (x7.later hW)))
  obtain ⟨A, ca, rfl⟩ := ManyE.slice ha
  have hl0 := hn.1
  clear hB3 x6 x7 x9 y9 hW3 ha ha3 hn
  by_cases hl : (xs.length : Int) = rows
  · rw [rowB_eq hl]
    generalize xs.all (rowB (opB n m) cols) = r at *
    generalize xs.length = l at *
    subst hl
    go_enter Try.func77, Try.ntmps77
    go_upto_region 3 with fail
    rw [← HW3.out]
    go_wp2_with fail
    refine HC.out.mono ?_
    rintro e w1 ⟨rfl, hb1⟩
    go_wp2
    go_ret
    exact ⟨by simp, HB3.out.trans (hb1.mono HB3.out.size)⟩
  · rw [rowB_ne hl]
    have e1 : ((xs.length : Int) == rows) = false := by simp only [beq_eq_false_iff_ne]; exact hl
    generalize xs.length = l at *
    clear HC
    go_enter Try.func77, Try.ntmps77
    go_upto_region 3 with fail
    rw [← HW3.out]
    go_wp2
    go_ret
    exact ⟨rfl, HB3.out⟩
end Go.Proofs.Ytmkamodmnplclaa
