/- CountMatched, of the model and of the program. -/
import Derived.Test.YtjelmiladekfjaaWaysI
import Derived.Test.YtjelmiladekfjaaWaysS
import Derived.Test.YtjelmiladekfjaaIn
import Derived.Test.YtjelmiladekfjaaWord
namespace Go.Proofs.Ytjelmiladekfjaa
open Go.RowKit
set_option linter.unusedVariables false

/-- What holds of the rows that the model has made. -/
theorem ways_cell {base L n d : Nat} {W : World} {v : Value} {bs : List Nat} (h : Ints2E base W v (wRows L (L + 1)) bs) (hn : n ≤ L) (hd : d ≤ L + 1) :
    ∃ go ko gq kq, v = .slice (some ⟨go, 0, none⟩) (L + 1) ko ∧ W.cell? ⟨go, n, none⟩ = some (.slice (some ⟨gq, 0, none⟩) (L + 2) kq) ∧ W.cell? ⟨gq, d, none⟩ = some (.int .i64 (wy n d : Int)) := by
  obtain ⟨go, ko, u, bq, hv, hc, hE, _⟩ := many_at3 h (wRows_at (show n < L + 1 by omega))
  rw [wRows_len] at hv
  obtain ⟨Aq, kq, rfl⟩ := RowE.slice hE
  rw [wRow_len] at hE hc
  obtain ⟨gq, rfl, _⟩ := RowE.head hE (j := d) (by rw [wRow_len]; omega)
  exact ⟨go, ko, gq, kq, hv, hc, IntsE.cell' hE (wRow_at (by omega))⟩

set_option maxHeartbeats 1600000 in
theorem spec_Count_yes_ (n : Nat) (w : World) (h : n ≤ 20) : Calls Try.prog 8 #[.int .i64 (n : Int)] w (TupPost (.tuple #[.int .i64 (wy n 0 : Int), .int .i64 0]) w) := by
  have Hin := Lib.hid (fun W => in_yes (n : Int) 0 20 W (by omega) (by omega))
  have Hw := Lib.hid (fun W => spec_ways n W h)
  go_enter Try.func8, Try.ntmps8
  go_wp2_with fail
  refine (Hin.out _).mono ?_
  rintro e w1 ⟨rfl, rfl⟩
  go_wp2_with fail
  refine (Hw.out _).mono ?_
  rintro e w2 ⟨v, bs, rfl, hE, hb⟩
  obtain ⟨go, ko, gq, kq, rfl, hc1, hc2⟩ := ways_cell hE (Nat.le_refl n) (Nat.zero_le _)
  clear hE
  go_wp2
  go_ret2
  exact ⟨rfl, hb⟩
theorem spec_Count_no_ (y : Int) (w : World) (h : y < 0 ∨ 20 < y) : Calls Try.prog 8 #[.int .i64 y] w (TupPost (.tuple #[.int .i64 0, .int .i64 2]) w) := by
  have Hin := Lib.hid (fun W => in_no y 0 20 W h)
  clear h
  go_enter Try.func8, Try.ntmps8
  go_wp2_with fail
  refine (Hin.out _).mono ?_
  rintro e w1 ⟨rfl, rfl⟩
  go_wp2
  go_ret2
  exact ⟨rfl, Below.refl _ _⟩

/-- A box that has the table. -/
theorem tab_box (w : World) : TabAt (w.alloc (.cells (tabA 21 0 0) 50)) w.heap.size 21 := TabAt.of (Bx.new w _ _)
theorem tab_sizes : (Option.map (fun x => x.size) (Try.prog.info? 50)) = some (tabA 21 0 0).size ∧ (Array.replicate 462 (Value.int .i64 0)).size = (tabA 21 0 0).size := by
  rw [(zero_of_info info_tab).2, tabA_size]; simp

set_option maxHeartbeats 1600000 in
theorem impl_Count_yes_ (n : Nat) (w : World) (h : n ≤ 20) : Calls Try.prog 9 #[.int .i64 (n : Int)] w (TupPost (.tuple #[.int .i64 (wy n 0 : Int), .int .i64 0]) w) := by
  obtain ⟨hz, _⟩ := zero_of_info info_tab
  have Hs := Lib.hid tab_sizes
  obtain ⟨Z, hZ⟩ : ∃ Z : Array Value, Z = Array.replicate 462 (.int .i64 0) := ⟨_, rfl⟩
  rw [← hZ] at hz Hs
  clear hZ
  go_enter Try.func9, Try.ntmps9
  go_wp2_with fail
  refine (impl_countEndings _).mono ?_
  rintro e w1 ⟨rfl, hb⟩
  go_upto_region 4 with (first
    | (refine wpList_store_row rfl 50 _ _ rfl w1.heap.size (tabA 21 0 0) rfl rfl 50 Z (heap_alloc_last _ _) Hs.out.1 Hs.out.2 (tabA_one _ _ _) ?_))
  rw [World.setRow_alloc_new]
  have hc := tab_box w1 n 0 (by omega) (by omega) (by omega)
  rw [Nat.add_zero] at hc
  have hb2 := hb.alloc hb.size (.cells (tabA 21 0 0) 50)
  obtain ⟨W, hW⟩ : ∃ W, W = w1.alloc (.cells (tabA 21 0 0) 50) := ⟨_, rfl⟩
  rw [← hW] at hc hb2 ⊢
  clear hz hb hW
  go_wp2
  go_ret2
  exact ⟨rfl, hb2⟩
theorem impl_Count_no_ (y : Int) (w : World) (h : y < 0 ∨ 20 < y) : Calls Try.prog 9 #[.int .i64 y] w (TupPost (.tuple #[.int .i64 0, .int .i64 2]) w) := by
  by_cases h1 : y < 0
  · clear h
    go_enter Try.func9, Try.ntmps9
    go_wp2
    go_ret2
    exact ⟨rfl, Below.refl _ _⟩
  · have h2 : 20 < y := by omega
    clear h
    go_enter Try.func9, Try.ntmps9
    go_wp2
    go_ret2
    exact ⟨rfl, Below.refl _ _⟩
theorem both_CountMatched (a0 : Int) (w0 : (Lit.int .i64 a0).wf = true) : ∃ (r0 r1 : Int),
    (∀ w, Calls Try.prog 8 #[.int .i64 a0] w (TupPost (.tuple #[.int .i64 r0, .int .i64 r1]) w)) ∧ (∀ w, Calls Try.prog 9 #[.int .i64 a0] w (TupPost (.tuple #[.int .i64 r0, .int .i64 r1]) w)) := by
  by_cases h : 0 ≤ a0 ∧ a0 ≤ 20
  · obtain ⟨m, rfl⟩ : ∃ m : Nat, a0 = (m : Int) := ⟨a0.toNat, by omega⟩
    exact ⟨_, _, fun w => spec_Count_yes_ m w (by omega), fun w => impl_Count_yes_ m w (by omega)⟩
  · exact ⟨_, _, fun w => spec_Count_no_ a0 w (by omega), fun w => impl_Count_no_ a0 w (by omega)⟩
end Go.Proofs.Ytjelmiladekfjaa
