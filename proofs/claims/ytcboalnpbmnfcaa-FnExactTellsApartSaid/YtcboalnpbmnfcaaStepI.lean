/- Steps of a run, of the program: kind, moveAt, pop, read. -/
import Derived.Test.YtcboalnpbmnfcaaRunM
import Derived.Test.YtcboalnpbmnfcaaWord
import Derived.BigQuiet
import Derived.Deep.QuietTactic
import Derived.Deep.AppendLies
import Derived.Deep.RegionLaw
import Derived.BigRegion
namespace Go.Proofs.Ytcboalnpbmnfcaa
open Go.RowKit
set_option linter.unusedVariables false

theorem impl_kind (n : Int) (w : World) (h : 0 ≤ n ∧ n ≤ 5) :
    Calls Try.prog 188 #[.int .u8 n] w fun e w' => e = .returned (.int .i64 (n % 2)) ∧ w = w' := by
  rcases six n h with rfl | rfl | rfl | rfl | rfl | rfl
  all_goals
    go_enter Try.func188, Try.ntmps188
    go_wp2
    go_ret
    exact ⟨rfl, rfl⟩

/-- The move at a call. -/
theorem impl_moveAt_call {stack start : Int} {va vr vi : Value} {gc n kc g2 k2 s : Nat} {k p1 p2 : Int} (w : World) (hk : k = 0 ∨ k = 1) (hs : s < n) (hn : n ≤ 1048576)
    (l1 : gc < w.heap.size) (l2 : g2 < w.heap.size) (h1 : w.cell? ⟨gc, s, none⟩ = some (.slice (some ⟨g2, 0, none⟩) 2 k2))
    (h2 : w.cell? ⟨g2, k.toNat * 2, none⟩ = some (.int .i64 p1)) (h3 : w.cell? ⟨g2, k.toNat * 2 + 1, none⟩ = some (.int .i64 p2)) :
    Calls Try.prog 177 #[.agg #[.int .i64 stack, .int .i64 start, va, .slice (some ⟨gc, 0, none⟩) n kc, vr, vi], .int .i64 (s : Int), .int .u8 k] w fun e w' =>
      e = .returned (.iface 219 (.agg #[.int .i64 p1, .int .i64 p2])) ∧ Below w.heap.size w w' := by
  have hB := fun o => (Below.refl w.heap.size w).alloc (Nat.le_refl _) o
  have x1 := fun o => ((hB o).cell (p := ⟨gc, s, none⟩) l1).trans h1
  have x2 := fun o => ((hB o).cell (p := ⟨g2, k.toNat * 2, none⟩) l2).trans h2
  have x3 := fun o => ((hB o).cell (p := ⟨g2, k.toNat * 2 + 1, none⟩) l2).trans h3
  have HB := Lib.hid hB
  clear h1 h2 h3 hB
  rcases hk with rfl | rfl
  all_goals
    simp only [show (0 : Int).toNat = 0 from rfl, show (1 : Int).toNat = 1 from rfl, Nat.zero_mul, Nat.one_mul, Nat.zero_add] at x2 x3
    go_enter Try.func177, Try.ntmps177
    go_wp2_with (go_at_call 158; refine (impl_isCall _ _).mono ?_; rintro e w' ⟨rfl, rfl⟩)
    go_quiet ((go_at_call 188; exact Calls.quiet_of_same ((impl_kind _ _ (by omega)).mono fun e w' h => ⟨h.1, h.2.symm⟩)))
    go_wp2
    go_ret
    exact ⟨rfl, below_drewN (HB.out _) _⟩

/-- The move at a return. -/
theorem impl_moveAt_ret {stack start : Int} {va vc vi : Value} {gc n kc g2 k2 s : Nat} {k : Int} {u : Value} (w : World) (hk : k = 2 ∨ k = 3) (hs : s < n) (hn : n ≤ 1048576)
    (l1 : gc < w.heap.size) (l2 : g2 < w.heap.size) (h1 : w.cell? ⟨gc, s, none⟩ = some (.slice (some ⟨g2, 0, none⟩) 2 k2)) (h2 : w.cell? ⟨g2, (k - 2).toNat, none⟩ = some u) :
    Calls Try.prog 177 #[.agg #[.int .i64 stack, .int .i64 start, va, vc, .slice (some ⟨gc, 0, none⟩) n kc, vi], .int .i64 (s : Int), .int .u8 k] w fun e w' =>
      e = .returned (.iface 220 u) ∧ Below w.heap.size w w' := by
  have hB := fun o => (Below.refl w.heap.size w).alloc (Nat.le_refl _) o
  have x1 := fun o => ((hB o).cell (p := ⟨gc, s, none⟩) l1).trans h1
  have x2 := fun o => ((hB o).cell (p := ⟨g2, (k - 2).toNat, none⟩) l2).trans h2
  have HB := Lib.hid hB
  clear h1 h2 hB
  rcases hk with rfl | rfl
  all_goals
    simp only [show ((2 : Int) - 2).toNat = 0 from rfl, show ((3 : Int) - 2).toNat = 1 from rfl] at x2
    go_enter Try.func177, Try.ntmps177
    go_wp2_with (first
      | (go_at_call 158; refine (impl_isCall _ _).mono ?_; rintro e w' ⟨rfl, rfl⟩)
      | (go_at_call 159; refine (impl_isReturn _ _ (by omega)).mono ?_; rintro e w' ⟨rfl, rfl⟩))
    go_quiet ((go_at_call 188; exact Calls.quiet_of_same ((impl_kind _ _ (by omega)).mono fun e w' h => ⟨h.1, h.2.symm⟩)))
    go_wp2
    go_ret
    exact ⟨rfl, below_drewN (HB.out _) _⟩

/-- The move at an inner letter. -/
theorem impl_moveAt_inn {stack start : Int} {va vc vr : Value} {gc n kc g2 k2 s : Nat} {k x : Int} (w : World) (hk : k = 4 ∨ k = 5) (hs : s < n) (hn : n ≤ 1048576)
    (l1 : gc < w.heap.size) (l2 : g2 < w.heap.size) (h1 : w.cell? ⟨gc, s, none⟩ = some (.slice (some ⟨g2, 0, none⟩) 2 k2)) (h2 : w.cell? ⟨g2, (k - 4).toNat, none⟩ = some (.int .i64 x)) :
    Calls Try.prog 177 #[.agg #[.int .i64 stack, .int .i64 start, va, vc, vr, .slice (some ⟨gc, 0, none⟩) n kc], .int .i64 (s : Int), .int .u8 k] w fun e w' =>
      e = .returned (.iface 222 (.int .i64 x)) ∧ Below w.heap.size w w' := by
  have hB := fun o => (Below.refl w.heap.size w).alloc (Nat.le_refl _) o
  have x1 := fun o => ((hB o).cell (p := ⟨gc, s, none⟩) l1).trans h1
  have x2 := fun o => ((hB o).cell (p := ⟨g2, (k - 4).toNat, none⟩) l2).trans h2
  have HB := Lib.hid hB
  clear h1 h2 hB
  rcases hk with rfl | rfl
  all_goals
    simp only [show ((4 : Int) - 4).toNat = 0 from rfl, show ((5 : Int) - 4).toNat = 1 from rfl] at x2
    go_enter Try.func177, Try.ntmps177
    go_wp2_with (first
      | (go_at_call 158; refine (impl_isCall _ _).mono ?_; rintro e w' ⟨rfl, rfl⟩)
      | (go_at_call 159; refine (impl_isReturn _ _ (by omega)).mono ?_; rintro e w' ⟨rfl, rfl⟩))
    go_quiet ((go_at_call 188; exact Calls.quiet_of_same ((impl_kind _ _ (by omega)).mono fun e w' h => ⟨h.1, h.2.symm⟩)))
    go_wp2
    go_ret
    exact ⟨rfl, below_drewN (HB.out _) _⟩

theorem impl_last {gm nm cm : Nat} {x : Int} (w : World) (hn : 0 < nm) (hm : nm ≤ 1048576) (h : w.cell? ⟨gm, nm - 1, none⟩ = some (.int .i64 x)) :
    Calls Try.prog 189 #[.slice (some ⟨gm, 0, none⟩) nm cm] w fun e w' => e = .returned (.int .i64 x) ∧ w = w' := by
  obtain ⟨m, rfl⟩ : ∃ m, nm = m + 1 := ⟨nm - 1, by omega⟩
  simp only [Nat.add_sub_cancel] at h
  go_enter Try.func189, Try.ntmps189
  go_wp2
  go_ret
  exact ⟨rfl, rfl⟩

/-- A return with an empty stack. -/
theorem impl_pop_empty {c0 c1 c2 c3 c4 c5 : Value} {B gm nm cm c : Nat} {st x : Int} {A : Option Addr} (w : World) (hn : 0 < nm) (hm : nm ≤ 1048576) (hb : Bx w B 192 #[c0, c1, c2, c3, c4, c5, .int .i64 st, .slice A 0 c])
    (h : w.cell? ⟨gm, nm - 1, none⟩ = some (.int .i64 x)) :
    Calls Try.prog 178 #[.pointer (some ⟨B, 0, none⟩), .slice (some ⟨gm, 0, none⟩) nm cm] w fun e w' => e = .returned (.tuple #[]) ∧ w' = w.setCell ⟨B, 6, none⟩ (.int .i64 x) := by
  have e7 : w.cell? ⟨B, 7, none⟩ = some (.slice A 0 c) := hb.cell 7 _ rfl
  have e6 : w.cell? ⟨B, 6, none⟩ = some (.int .i64 st) := hb.cell 6 _ rfl
  have f6 := hb.frozen 6
  have Q := Lib.hid (impl_last (cm := cm) w hn hm h)
  clear hb h
  go_enter Try.func178, Try.ntmps178
  go_wp2_with fail
  refine Q.out.mono ?_
  rintro e w' ⟨rfl, rfl⟩
  go_wp2
  (try simp only [Exit.inBlock, Exit.then])
  refine bodyPost_ret (results_none rfl _ _ _) rfl ?_
  exact ⟨rfl, rfl⟩

/-- A return with a mark. -/
theorem impl_pop_mark {c0 c1 c2 c3 c4 c5 : Value} {B gm nm cm gs n c : Nat} {st x y : Int} (w : World) (hm : nm ≤ 1048576) (hn : n + 1 ≤ c) (hc : c ≤ maxLen) (hb : Bx w B 192 #[c0, c1, c2, c3, c4, c5, .int .i64 st, .slice (some ⟨gs, 0, none⟩) (n + 1) c])
    (hx : 0 ≤ x ∧ x < nm) (h : w.cell? ⟨gm, x.toNat, none⟩ = some (.int .i64 y)) (hs : w.cell? ⟨gs, n, none⟩ = some (.int .i64 x)) :
    Calls Try.prog 178 #[.pointer (some ⟨B, 0, none⟩), .slice (some ⟨gm, 0, none⟩) nm cm] w fun e w' => e = .returned (.tuple #[]) ∧ w' = (w.setCell ⟨B, 6, none⟩ (.int .i64 y)).setCell ⟨B, 7, none⟩ (.slice (some ⟨gs, 0, none⟩) n c) := by
  unfold maxLen at hc
  obtain ⟨k, rfl⟩ : ∃ k : Nat, x = (k : Int) := ⟨x.toNat, by omega⟩
  obtain ⟨_, hx⟩ := hx
  simp only [Int.toNat_natCast] at h
  have e7 : w.cell? ⟨B, 7, none⟩ = some (.slice (some ⟨gs, 0, none⟩) (n + 1) c) := hb.cell 7 _ rfl
  have e6 : w.cell? ⟨B, 6, none⟩ = some (.int .i64 st) := hb.cell 6 _ rfl
  have f6 := hb.frozen 6
  have f7 := hb.frozen 7
  clear hb
  go_enter Try.func178, Try.ntmps178
  go_wp2
  go_end0
  exact ⟨rfl, rfl⟩
end Go.Proofs.Ytcboalnpbmnfcaa
