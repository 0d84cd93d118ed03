/- countEndings of the program: the table. -/
import Derived.Test.YtjelmiladekfjaaDeep
import Derived.Test.YtjelmiladekfjaaBox
import Derived.Test.YtjelmiladekfjaaFree
import Derived.Laws.Rows
import Derived.Laws.CopyOwn
import Derived.Deep.RegionWith
import Derived.Deep.DeepCutAuto
import Derived.Lib.Hide
import Derived.Deep.WholeRow
namespace Go.Proofs.Ytjelmiladekfjaa
open Go.RowKit
set_option linter.unusedVariables false

theorem info_tab : (Try.prog.info? 50).map (fun i => (i.zero, i.size)) = some (some (.agg (Array.replicate 462 (.int .i64 0))), 462) := by kernel_rfl
/-- The table in the world: its cells are those of a state of the loops. -/
theorem TabAt.of {W : World} {B l o s : Nat} (h : Bx W B 50 (tabA l o s)) : TabAt W B l := fun r d hr h20 hd => h.cell _ _ (tabA_done hr h20 hd)
theorem TabAt.later {W W' : World} {B l : Nat} (h : TabAt W B l) (hb : Below W.heap.size W W') : TabAt W' B l := fun r d hr h20 hd => by
  have := h r d hr h20 hd
  exact (hb.cell (World.block_lt_of_cell? _ _ this)).trans this
theorem wrap_tab {n : Int} (h : 0 ≤ n ∧ n ≤ 4000000000000000000) : IntKind.i64.wrap n = n := by unfold IntKind.wrap IntKind.signed IntKind.bits; simp; omega
/-- The world while the table is filled: the result's box, the table's box. -/
structure TabW (w : World) (Z : Array Value) (l o s : Nat) (W : World) : Prop where
  res : Bx W w.heap.size 50 Z
  tab : Bx W (w.heap.size + 1) 50 (tabA l o s)
  below : Below w.heap.size w W
theorem TabW.next {w : World} {Z : Array Value} {l o : Nat} {W : World} (h : TabW w Z l o 6 W) (hl : 1 ≤ l) : TabW w Z l (o + 1) 0 W := ⟨h.res, by rw [← tabA_next hl]; exact h.tab, h.below⟩
theorem TabW.row {w : World} {Z : Array Value} {l : Nat} {W : World} (h : TabW w Z l 21 0 W) (hl : l ≤ 20) : TabW w Z (l + 1) 0 0 W := ⟨h.res, by rw [← tabA_row hl]; exact h.tab, h.below⟩
theorem TabW.later {w : World} {Z : Array Value} {l o s : Nat} {W W' : World} (h : TabW w Z l o s W) (hb : Below W.heap.size W W') : TabW w Z l o s W' := ⟨h.res.later hb, h.tab.later hb, h.below.trans (hb.mono h.below.size)⟩
theorem TabW.put {w : World} {Z : Array Value} {l o s : Nat} {W : World} (h : TabW w Z l o s W) (hl : l ≤ 20) (ho : o ≤ 21) : TabW w Z l o (s + 1) (W.setCell ⟨w.heap.size + 1, l * 22 + o, none⟩ (.int .i64 ((cbs (l - 1) o s : Int) + (cb (l - 1) o s : Int)))) :=
  ⟨h.res.other _ _ (by omega), by rw [← tabA_more hl ho]; exact h.tab.set _ _, h.below.setCell (p := ⟨w.heap.size + 1, l * 22 + o, none⟩) (by simp) _⟩
theorem tabA_one (l o s : Nat) : (tabA l o s).all (·.oneCell') = true := by
  unfold tabA
  rw [Array.all_eq_true_iff_forall_mem]
  intro x hx
  simp only [List.mem_toArray, List.mem_map] at hx
  obtain ⟨i, _, rfl⟩ := hx
  rfl
/-- The whole table as a value. -/
def tabV : Value := .agg (tabA 21 0 0)

set_option maxHeartbeats 12800000 in
set_option maxRecDepth 100000 in
theorem impl_countEndings (w : World) : Calls Try.prog 28 #[] w fun e w' => e = .returned tabV ∧ Below w.heap.size w w' := by
  obtain ⟨hz, hsz⟩ := zero_of_info info_tab
  obtain ⟨Z, hZ⟩ : ∃ Z : Array Value, Z = Array.replicate 462 (.int .i64 0) := ⟨_, rfl⟩
  rw [← hZ] at hz
  obtain ⟨W0, hW0⟩ : ∃ W0, W0 = (w.alloc (.cells Z 50)).alloc (.cells Z 50) := ⟨_, rfl⟩
  have hB0 : Below w.heap.size w W0 := by rw [hW0]; exact ((Below.refl w.heap.size w).alloc (Nat.le_refl _) _).alloc (by simp) _
  have x0 : Bx W0 w.heap.size 50 Z := by rw [hW0]; exact (Bx.new w _ Z).alloc _
  have x1 : Bx W0 (w.heap.size + 1) 50 Z := by
    rw [hW0]
    have t := Bx.new (w.alloc (.cells Z 50)) 50 Z
    rwa [World.size_alloc] at t
  have hZ0 : Z[0]? = some (.int .i64 0) := by rw [hZ]; simp
  have c0 := x1.cell 0 _ hZ0
  have q0 := x1.frozen 0
  have y1 := x1.set 0 (.int .i64 1)
  rw [hZ, tabA_first] at y1
  have y0 := x0.other (b := w.heap.size + 1) 0 (.int .i64 1) (by omega)
  obtain ⟨Y, hY⟩ : ∃ Y, Y = W0.setCell ⟨w.heap.size + 1, 0, none⟩ (.int .i64 1) := ⟨_, rfl⟩
  have hBY := hB0.setCell (p := ⟨w.heap.size + 1, 0, none⟩) (by simp) (.int .i64 1)
  rw [← hY] at y0 y1 hBY
  have HY := Lib.hid (show TabW w Z 1 0 0 Y from ⟨y0, y1, hBY⟩)
  have e1 : Y = (w.alloc (.cells Z 50)).alloc (.cells (Z.setIfInBounds 0 (.int .i64 1)) 50) := by
    rw [hY, hW0]
    exact World.setCell_alloc_at Z 50 (w.heap.size + 1) 0 (.int .i64 1) (by simp)
  have HW1 := Lib.hid e1
  rw [hW0] at c0 q0
  have HZ := Lib.hid hZ
  have HSZ := Lib.hid hsz
  clear hW0 hB0 x0 x1 hZ0 y0 y1 hZ hsz hY e1 hBY
  go_enter Try.func28, Try.ntmps28
  go_wp2_with fail
  rw [← HW1.out]
  clear HW1 c0 q0 hz
  go_loopw [2] (fun i wr => ∃ l : Nat, 1 ≤ l ∧ l ≤ 21 ∧ i = .int .i64 (l : Int) ∧ TabW w Z l 0 0 wr) (fun i _ => 21 - (intOf i).toNat)
  case atStart => exact ⟨1, by omega, by omega, rfl, HY.out⟩
  case round =>
    clear HY
    obtain ⟨l, hl1, hl21, rfl, hS⟩ := hrel
    by_cases hlt : l ≤ 20
    · have d1 : decide ((l : Int) ≤ 20) = true := decide_eq_true (by omega)
      go_wp2_with fail
      try rw [d1]
      clear d1
      go_loopw [11] (fun i wr => ∃ o : Nat, o ≤ 21 ∧ i = .int .i64 (o : Int) ∧ TabW w Z l o 0 wr) (fun i _ => 21 - (intOf i).toNat)
      case atStart => exact ⟨0, by omega, rfl, hS⟩
      case round =>
        clear hS
        obtain ⟨o, ho, rfl, hS⟩ := hrel
        by_cases hot : o < 21
        · have d2 : decide ((o : Int) < 21) = true := decide_eq_true (by omega)
          go_wp2_with fail
          try rw [d2]
          clear d2
          go_loopw [14] (fun i wr => ∃ s : Nat, s ≤ 6 ∧ i = .int .u8 (s : Int) ∧ TabW w Z l o s wr) (fun i _ => 6 - (intOf i).toNat)
          case atStart => exact ⟨0, by omega, rfl, hS⟩
          case round =>
            clear hS
            obtain ⟨s, hs, rfl, hS⟩ := hrel
            by_cases hst : s < 6
            · have HS := Lib.hid hS
              clear hS
              go_upto_region 12 with fail
              have d3 : decide ((s : Int) < 6) = true := decide_eq_true (by omega)
              try rw [d3]
              clear d3
              refine wp_region_free_seq (by kernel_rfl) [
                  .val [] (fun _ => .int .i64 (l : Int)),
                  .val [] (fun _ => .int .i64 (o : Int)),
                  .val [] (fun _ => .pointer (some ⟨w.heap.size + 1, l * 22, none⟩)),
                  .val [] (fun _ => .pointer (some ⟨w.heap.size + 1, l * 22 + o, none⟩)),
                  .val [] (fun _ => .int .i64 (cbs (l - 1) o s : Int)),
                  .val [] (fun _ => .int .u8 (s : Int)),
                  .val [] (fun _ => .int .i64 (l : Int)),
                  .val [] (fun _ => .int .i64 ((l - 1 : Nat) : Int)),
                  .val [] (fun _ => .int .i64 (o : Int)),
                  .val [] (fun _ => .int .i64 (cb (l - 1) o s : Int)),
                  .val [] (fun _ => .int .i64 ((cbs (l - 1) o s : Int) + (cb (l - 1) o s : Int))),
                  .val [] (fun _ => .pointer (some ⟨w.heap.size + 1, l * 22, none⟩)),
                  .val [] (fun _ => .pointer (some ⟨w.heap.size + 1, l * 22 + o, none⟩))] 13 ?hp ?hfw ?deps ?oks ?hforced ?hf ?steps ?tail
              case hp => kernel_rfl
              case hfw => kernel_rfl
              case deps => kernel_rfl
              case hforced => kernel_rfl
              case hf => kernel_rfl
              case oks =>
                intro F hF
                simp only [List.mem_cons, List.not_mem_nil, or_false] at hF
                rcases hF with rfl | rfl | rfl | rfl | rfl | rfl | rfl | rfl | rfl | rfl | rfl | rfl | rfl
                all_goals trivial
              case steps =>
                refine Steps.cons ?_ ?_
                · intro _
                  refine FreeStep.val [] _ rfl rfl fun u β W hW hn fr hfr K hK => ?_
                  simp only [frameL, putL, Act.put, List.setIfInBounds_toArray, List.set_cons_zero, List.set_cons_succ, Nat.zero_add, Nat.reduceAdd] at hfr
                  subst hfr
                  have HK := Lib.hid hK
                  clear hK hn
                  go_simp
                  exact HK.out
                refine Steps.cons ?_ ?_
                · intro _
                  refine FreeStep.val [] _ rfl rfl fun u β W hW hn fr hfr K hK => ?_
                  simp only [frameL, putL, Act.put, List.setIfInBounds_toArray, List.set_cons_zero, List.set_cons_succ, Nat.zero_add, Nat.reduceAdd] at hfr
                  subst hfr
                  have HK := Lib.hid hK
                  clear hK hn
                  go_simp
                  exact HK.out
                refine Steps.cons ?_ ?_
                · intro _
                  refine FreeStep.val [] _ rfl rfl fun u β W hW hn fr hfr K hK => ?_
                  simp only [frameL, putL, Act.put, List.setIfInBounds_toArray, List.set_cons_zero, List.set_cons_succ, Nat.zero_add, Nat.reduceAdd] at hfr
                  subst hfr
                  have e0 : u 0 = .int .i64 (l : Int) := Have.get (k := 0) hn rfl
                  simp only [e0] at hK
                  have HK := Lib.hid hK
                  clear hK hn
                  go_simp
                  rw [if_pos (show (l : Int) < 21 by omega)]
                  go_simp
                  exact HK.out
                refine Steps.cons ?_ ?_
                · intro _
                  refine FreeStep.val [] _ rfl rfl fun u β W hW hn fr hfr K hK => ?_
                  simp only [frameL, putL, Act.put, List.setIfInBounds_toArray, List.set_cons_zero, List.set_cons_succ, Nat.zero_add, Nat.reduceAdd] at hfr
                  subst hfr
                  have e2 : u 2 = .pointer (some ⟨w.heap.size + 1, l * 22, none⟩) := Have.get (k := 2) hn rfl
                  have e1 : u 1 = .int .i64 (o : Int) := Have.get (k := 1) hn rfl
                  simp only [e2, e1] at hK
                  have HK := Lib.hid hK
                  clear hK hn
                  go_simp
                  rw [if_pos (show (o : Int) < 22 by omega)]
                  go_simp
                  exact HK.out
                refine Steps.cons ?_ ?_
                · intro _
                  refine FreeStep.val [] _ rfl rfl fun u β W hW hn fr hfr K hK => ?_
                  simp only [frameL, putL, Act.put, List.setIfInBounds_toArray, List.set_cons_zero, List.set_cons_succ, Nat.zero_add, Nat.reduceAdd] at hfr
                  subst hfr
                  have e3 : u 3 = .pointer (some ⟨w.heap.size + 1, l * 22 + o, none⟩) := Have.get (k := 3) hn rfl
                  simp only [e3] at hK
                  have c1 : W.cell? ⟨w.heap.size + 1, l * 22 + o, none⟩ = some (.int .i64 (cbs (l - 1) o s : Int)) := (HS.out.later hW).tab.cell _ _ (tabA_here hlt ho)
                  have HK := Lib.hid hK
                  clear hK hn
                  go_simp
                  exact HK.out
                refine Steps.cons ?_ ?_
                · intro _
                  refine FreeStep.val [] _ rfl rfl fun u β W hW hn fr hfr K hK => ?_
                  simp only [frameL, putL, Act.put, List.setIfInBounds_toArray, List.set_cons_zero, List.set_cons_succ, Nat.zero_add, Nat.reduceAdd] at hfr
                  subst hfr
                  have HK := Lib.hid hK
                  clear hK hn
                  go_simp
                  exact HK.out
                refine Steps.cons ?_ ?_
                · intro _
                  refine FreeStep.val [] _ rfl rfl fun u β W hW hn fr hfr K hK => ?_
                  simp only [frameL, putL, Act.put, List.setIfInBounds_toArray, List.set_cons_zero, List.set_cons_succ, Nat.zero_add, Nat.reduceAdd] at hfr
                  subst hfr
                  have HK := Lib.hid hK
                  clear hK hn
                  go_simp
                  exact HK.out
                refine Steps.cons ?_ ?_
                · intro _
                  refine FreeStep.val [] _ rfl rfl fun u β W hW hn fr hfr K hK => ?_
                  simp only [frameL, putL, Act.put, List.setIfInBounds_toArray, List.set_cons_zero, List.set_cons_succ, Nat.zero_add, Nat.reduceAdd] at hfr
                  subst hfr
                  have e6 : u 6 = .int .i64 (l : Int) := Have.get (k := 6) hn rfl
                  simp only [e6] at hK
                  have hwr : IntKind.i64.wrap ((l : Int) - 1) = ((l - 1 : Nat) : Int) := by rw [wrap_tab (by omega)]; omega
                  have HK := Lib.hid hK
                  clear hK hn
                  go_simp
                  exact HK.out
                refine Steps.cons ?_ ?_
                · intro _
                  refine FreeStep.val [] _ rfl rfl fun u β W hW hn fr hfr K hK => ?_
                  simp only [frameL, putL, Act.put, List.setIfInBounds_toArray, List.set_cons_zero, List.set_cons_succ, Nat.zero_add, Nat.reduceAdd] at hfr
                  subst hfr
                  have HK := Lib.hid hK
                  clear hK hn
                  go_simp
                  exact HK.out
                refine Steps.cons ?_ ?_
                · intro _
                  refine FreeStep.calm [] _ rfl rfl fun u β W hW hn fr hfr K hK => ?_
                  simp only [frameL, putL, Act.put, List.setIfInBounds_toArray, List.set_cons_zero, List.set_cons_succ, Nat.zero_add, Nat.reduceAdd] at hfr
                  subst hfr
                  have e5 : u 5 = .int .u8 (s : Int) := Have.get (k := 5) hn rfl
                  have e7 : u 7 = .int .i64 ((l - 1 : Nat) : Int) := Have.get (k := 7) hn rfl
                  have e8 : u 8 = .int .i64 (o : Int) := Have.get (k := 8) hn rfl
                  simp only [e5, e7, e8] at hK
                  have Q := Lib.hid (impl_behind (n := l - 1) (d := o) (s := s) W (TabAt.of (HS.out.later hW).tab) (by omega) (by omega) (by omega) (by omega))
                  have HK := Lib.hid hK
                  clear hK hn
                  go_simp
                  refine Q.out.mono ?_
                  rintro e w1 ⟨rfl, rfl⟩
                  exact HK.out _ (Below.refl _ _)
                refine Steps.cons ?_ ?_
                · intro _
                  refine FreeStep.val [] _ rfl rfl fun u β W hW hn fr hfr K hK => ?_
                  simp only [frameL, putL, Act.put, List.setIfInBounds_toArray, List.set_cons_zero, List.set_cons_succ, Nat.zero_add, Nat.reduceAdd] at hfr
                  subst hfr
                  have e4 : u 4 = .int .i64 (cbs (l - 1) o s : Int) := Have.get (k := 4) hn rfl
                  have e9 : u 9 = .int .i64 (cb (l - 1) o s : Int) := Have.get (k := 9) hn rfl
                  simp only [e4, e9] at hK
                  have b1 := cbs_top (n := l - 1) (by omega) o (s := s) (by omega)
                  have b2 := cb_top (n := l - 1) (by omega) o s
                  have hwr : IntKind.i64.wrap ((cbs (l - 1) o s : Int) + (cb (l - 1) o s : Int)) = (cbs (l - 1) o s : Int) + (cb (l - 1) o s : Int) := wrap_tab (by omega)
                  have HK := Lib.hid hK
                  clear hK hn
                  go_simp
                  exact HK.out
                refine Steps.cons ?_ ?_
                · intro _
                  refine FreeStep.val [] _ rfl rfl fun u β W hW hn fr hfr K hK => ?_
                  simp only [frameL, putL, Act.put, List.setIfInBounds_toArray, List.set_cons_zero, List.set_cons_succ, Nat.zero_add, Nat.reduceAdd] at hfr
                  subst hfr
                  have e0 : u 0 = .int .i64 (l : Int) := Have.get (k := 0) hn rfl
                  simp only [e0] at hK
                  have HK := Lib.hid hK
                  clear hK hn
                  go_simp
                  rw [if_pos (show (l : Int) < 21 by omega)]
                  go_simp
                  exact HK.out
                refine Steps.cons ?_ ?_
                · intro _
                  refine FreeStep.val [] _ rfl rfl fun u β W hW hn fr hfr K hK => ?_
                  simp only [frameL, putL, Act.put, List.setIfInBounds_toArray, List.set_cons_zero, List.set_cons_succ, Nat.zero_add, Nat.reduceAdd] at hfr
                  subst hfr
                  have e11 : u 11 = .pointer (some ⟨w.heap.size + 1, l * 22, none⟩) := Have.get (k := 11) hn rfl
                  have e1 : u 1 = .int .i64 (o : Int) := Have.get (k := 1) hn rfl
                  simp only [e11, e1] at hK
                  have HK := Lib.hid hK
                  clear hK hn
                  go_simp
                  rw [if_pos (show (o : Int) < 22 by omega)]
                  go_simp
                  exact HK.out
                exact ⟨fun h => absurd h (by decide), trivial⟩
              case tail =>
                intro u β W hW hn hdis hbnd fr hfr
                simp only [frameL, putL, Act.put, List.setIfInBounds_toArray, List.set_cons_zero, List.set_cons_succ, Nat.zero_add, Nat.reduceAdd] at hfr
                subst hfr
                have e10 : u 10 = .int .i64 ((cbs (l - 1) o s : Int) + (cb (l - 1) o s : Int)) := Have.get (k := 10) hn rfl
                have e12 : u 12 = .pointer (some ⟨w.heap.size + 1, l * 22 + o, none⟩) := Have.get (k := 12) hn rfl
                have hX := HS.out.later hW
                have c1 := hX.tab.cell _ _ (tabA_here (s := s) hlt ho)
                have q1 := hX.tab.frozen (l * 22 + o)
                have HP := Lib.hid (hX.put hlt ho)
                clear hX hn hdis hbnd
                show wpOps _ _ _ [13] _ _
                rw [wpOps_cons]
                refine wpOp_step rfl (fun K hK => ?_)
                go_simp
                refine hK _ _ ?_
                clear hK
                unfold wpOps
                generalize u 0 = s0
                generalize u 1 = s1
                generalize u 2 = s2
                generalize u 3 = s3
                generalize u 4 = s4
                generalize u 5 = s5
                generalize u 6 = s6
                generalize u 7 = s7
                generalize u 8 = s8
                generalize u 9 = s9
                generalize u 10 = s10
                generalize u 11 = s11
                generalize u 12 = s12
                obtain ⟨X, hX⟩ : ∃ X, X = W.setCell ⟨w.heap.size + 1, l * 22 + o, none⟩ (.int .i64 ((cbs (l - 1) o s : Int) + (cb (l - 1) o s : Int))) := ⟨_, rfl⟩
                have HX : TabW w Z l o (s + 1) X := by rw [hX]; exact HP.out
                rw [← hX]
                clear hX HP c1 q1
                go_wp2
                go_roundw
                case rel => exact ⟨s + 1, by omega, by go_num, HX⟩
                case measure => simp [intOf]; omega
            · obtain rfl : s = 6 := by omega
              have hS2 := hS.next hl1
              clear hS
              go_wp2
              go_roundw
              case rel => exact ⟨o + 1, by omega, by go_num, hS2⟩
              case measure => simp [intOf]; omega
        · obtain rfl : o = 21 := by omega
          have hS2 := hS.row hlt
          clear hS
          go_wp2
          go_roundw
          case rel => exact ⟨l + 1, by omega, by omega, by go_num, hS2⟩
          case measure => simp [intOf]; omega
    · obtain rfl : l = 21 := by omega
      obtain ⟨x0, x1, hB⟩ := hS
      have hi2 := HSZ.out
      have s1 : (Option.map (fun x => x.size) (Try.prog.info? 50)) = some (tabA 21 0 0).size := by rw [hi2, tabA_size]
      have s2 : Z.size = (tabA 21 0 0).size := by rw [HZ.out, tabA_size]; simp
      have Hs := Lib.hid (And.intro s1 s2)
      have Hx := Lib.hid (And.intro x0 (And.intro x1 hB))
      clear s1 s2 x0 x1 hB hi2
      go_wp2_with (first
        | (refine wpList_load_row rfl 50 _ rfl (w.heap.size + 1) rfl 50 (tabA 21 0 0) (0, 0) _ Hx.out.2.1 Try.underlying50 rfl Hs.out.1 ?_)
        | (refine wpList_store_row rfl 50 _ _ rfl w.heap.size (tabA 21 0 0) rfl rfl 50 Z Hx.out.1 Hs.out.1 Hs.out.2 (tabA_one _ _ _) ?_))
      exact bodyPost_ret (results_cell_row rfl _ _ w.heap.size 50 (tabA 21 0 0) (0, 0) _ rfl (setRow_heap _ _ _ _ _ _ Hx.out.1) Try.underlying50 rfl Hs.out.1) rfl ⟨rfl, below_setRow Hx.out.2.2 (Nat.le_refl _) _⟩
end Go.Proofs.Ytjelmiladekfjaa
