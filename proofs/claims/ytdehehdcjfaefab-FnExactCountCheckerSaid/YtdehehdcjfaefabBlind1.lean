/- blindChecker's closures, of the program. -/
import Derived.Test.YtdehehdcjfaefabDepI
import Derived.BigQuiet
import Derived.Deep.QuietTactic
import Derived.Deep.RegionWith
import Derived.Deep.DeepCutAuto
namespace Go.Proofs.Ytdehehdcjfaefab
open Go.RowKit
set_option linter.unusedVariables false

/-- What the world holds that the closures read. -/
structure DepAt (w : World) (m : Nat) (NB SB TB d M : Nat) : Prop where
  next : w.cell? ⟨NB, 0, none⟩ = some (.func (.func 65) #[] #[.pointer (some ⟨M, 0, none⟩)])
  state : w.cell? ⟨SB, 0, none⟩ = some (.int .i64 (d : Int))
  goes : w.cell? ⟨TB, 0, none⟩ = some (.func (.func 107) #[] #[.pointer (some ⟨NB, 0, none⟩), .pointer (some ⟨SB, 0, none⟩)])
  most : w.cell? ⟨M, 0, none⟩ = some (.int .i64 (m : Int))

theorem DepAt.lt {w : World} {m NB SB TB d M : Nat} (h : DepAt w m NB SB TB d M) : NB < w.heap.size ∧ SB < w.heap.size ∧ TB < w.heap.size ∧ M < w.heap.size := ⟨World.block_lt_of_cell? _ _ h.next, World.block_lt_of_cell? _ _ h.state, World.block_lt_of_cell? _ _ h.goes, World.block_lt_of_cell? _ _ h.most⟩
theorem DepAt.later {w W : World} {m NB SB TB d M : Nat} (h : DepAt w m NB SB TB d M) (hb : Below w.heap.size w W) : DepAt W m NB SB TB d M :=
  ⟨(hb.cell (p := ⟨NB, 0, none⟩) (World.block_lt_of_cell? _ _ h.next)).trans h.next, (hb.cell (p := ⟨SB, 0, none⟩) (World.block_lt_of_cell? _ _ h.state)).trans h.state, (hb.cell (p := ⟨TB, 0, none⟩) (World.block_lt_of_cell? _ _ h.goes)).trans h.goes, (hb.cell (p := ⟨M, 0, none⟩) (World.block_lt_of_cell? _ _ h.most)).trans h.most⟩

theorem Dep_to {m NB SB TB d M : Nat} (s : Int) (w : World) (hs : 0 ≤ s ∧ s ≤ 5) (hm : m ≤ 9) (hd : d ≤ m + 1) (h : DepAt w m NB SB TB d M) :
    Calls Try.prog 107 #[.int .u8 s, .pointer (some ⟨NB, 0, none⟩), .pointer (some ⟨SB, 0, none⟩)] w fun e w' => e = .returned (.int .i64 (depthTo m d s.toNat)) ∧ w = w' := by
  have Q := Lib.hid (depth_clo m d s M w hs hm hd h.most)
  have e1 := h.next
  have e2 := h.state
  clear h
  go_enter Try.func107, Try.ntmps107
  go_wp2_with fail
  refine Q.out.mono ?_
  rintro e w' ⟨rfl, rfl⟩
  go_wp2
  go_ret
  exact ⟨rfl, rfl⟩

theorem Dep_two {m NB SB TB d M : Nat} (s : Int) (w : World) (hs : 0 ≤ s ∧ s ≤ 5) (hm : m ≤ 9) (hd : d ≤ m + 1) (h : DepAt w m NB SB TB d M) :
    Calls Try.prog 108 #[.int .u8 s, .pointer (some ⟨TB, 0, none⟩)] w fun e w' => ∃ v bs, e = .returned v ∧ IntsE w.heap.size w' v [depthTo m d s.toNat, depthTo m d s.toNat] bs ∧ Below w.heap.size w w' := by
  have Q := Lib.hid fun W (hW : Below w.heap.size w W) => (Dep_to s W hs hm hd (h.later hW))
  have e1 := h.goes
  have hR := Below.refl w.heap.size w
  have e1d : w.drew.cell? ⟨TB, 0, none⟩ = _ := (hR.drew.cell (p := ⟨TB, 0, none⟩) (World.block_lt_of_cell? _ _ h.goes)).trans e1
  obtain ⟨q, hq⟩ : ∃ q, q = depthTo m d s.toNat := ⟨_, rfl⟩
  rw [← hq] at Q ⊢
  clear h hq
  go_enter Try.func108, Try.ntmps108
  go_upto_region 1 with fail
  go_region_with (go_at_call 107; refine (Q.out _ (by first | exact hR | exact hR.drew)).mono ?_; rintro e w' ⟨rfl, rfl⟩)
  all_goals
    go_wp2
    go_ret
    refine ⟨_, [_], rfl, rowE_lit 2 (World.alloc_heap_new _ _) (by first | exact Nat.le_refl _ | (simp)) rfl rfl rfl (by unfold maxLen; omega), ?_⟩
    first
      | exact hR.alloc (Nat.le_refl _) _
      | exact hR.drew.alloc hR.drew.size _
      | exact (hR.alloc (Nat.le_refl _) _).drew

/-- What the world holds that the closures read. -/
structure CntAt (w : World) (k m : Nat) (NB SB TB d K M : Nat) : Prop where
  next : w.cell? ⟨NB, 0, none⟩ = some (.func (.func 110) #[] #[.pointer (some ⟨K, 0, none⟩), .pointer (some ⟨M, 0, none⟩)])
  state : w.cell? ⟨SB, 0, none⟩ = some (.int .i64 (d : Int))
  goes : w.cell? ⟨TB, 0, none⟩ = some (.func (.func 107) #[] #[.pointer (some ⟨NB, 0, none⟩), .pointer (some ⟨SB, 0, none⟩)])
  mod : w.cell? ⟨M, 0, none⟩ = some (.int .i64 (m : Int))
  sym : w.cell? ⟨K, 0, none⟩ = some (.int .u8 (k : Int))

theorem CntAt.lt {w : World} {k m NB SB TB d K M : Nat} (h : CntAt w k m NB SB TB d K M) : NB < w.heap.size ∧ SB < w.heap.size ∧ TB < w.heap.size ∧ M < w.heap.size ∧ K < w.heap.size := ⟨World.block_lt_of_cell? _ _ h.next, World.block_lt_of_cell? _ _ h.state, World.block_lt_of_cell? _ _ h.goes, World.block_lt_of_cell? _ _ h.mod, World.block_lt_of_cell? _ _ h.sym⟩
theorem CntAt.later {w W : World} {k m NB SB TB d K M : Nat} (h : CntAt w k m NB SB TB d K M) (hb : Below w.heap.size w W) : CntAt W k m NB SB TB d K M :=
  ⟨(hb.cell (p := ⟨NB, 0, none⟩) (World.block_lt_of_cell? _ _ h.next)).trans h.next, (hb.cell (p := ⟨SB, 0, none⟩) (World.block_lt_of_cell? _ _ h.state)).trans h.state, (hb.cell (p := ⟨TB, 0, none⟩) (World.block_lt_of_cell? _ _ h.goes)).trans h.goes, (hb.cell (p := ⟨M, 0, none⟩) (World.block_lt_of_cell? _ _ h.mod)).trans h.mod, (hb.cell (p := ⟨K, 0, none⟩) (World.block_lt_of_cell? _ _ h.sym)).trans h.sym⟩

theorem Cnt_to {k m NB SB TB d K M : Nat} (s : Int) (w : World) (hs : 0 ≤ s ∧ s ≤ 5) (hm : 1 ≤ m ∧ m ≤ 40) (hd : d < m) (h : CntAt w k m NB SB TB d K M) :
    Calls Try.prog 107 #[.int .u8 s, .pointer (some ⟨NB, 0, none⟩), .pointer (some ⟨SB, 0, none⟩)] w fun e w' => e = .returned (.int .i64 (countTo k m d s.toNat)) ∧ w = w' := by
  have Q := Lib.hid (count_clo k m d s M K w hs hm hd h.mod h.sym)
  have e1 := h.next
  have e2 := h.state
  clear h
  go_enter Try.func107, Try.ntmps107
  go_wp2_with fail
  refine Q.out.mono ?_
  rintro e w' ⟨rfl, rfl⟩
  go_wp2
  go_ret
  exact ⟨rfl, rfl⟩

theorem Cnt_two {k m NB SB TB d K M : Nat} (s : Int) (w : World) (hs : 0 ≤ s ∧ s ≤ 5) (hm : 1 ≤ m ∧ m ≤ 40) (hd : d < m) (h : CntAt w k m NB SB TB d K M) :
    Calls Try.prog 108 #[.int .u8 s, .pointer (some ⟨TB, 0, none⟩)] w fun e w' => ∃ v bs, e = .returned v ∧ IntsE w.heap.size w' v [countTo k m d s.toNat, countTo k m d s.toNat] bs ∧ Below w.heap.size w w' := by
  have Q := Lib.hid fun W (hW : Below w.heap.size w W) => (Cnt_to s W hs hm hd (h.later hW))
  have e1 := h.goes
  have hR := Below.refl w.heap.size w
  have e1d : w.drew.cell? ⟨TB, 0, none⟩ = _ := (hR.drew.cell (p := ⟨TB, 0, none⟩) (World.block_lt_of_cell? _ _ h.goes)).trans e1
  obtain ⟨q, hq⟩ : ∃ q, q = countTo k m d s.toNat := ⟨_, rfl⟩
  rw [← hq] at Q ⊢
  clear h hq
  go_enter Try.func108, Try.ntmps108
  go_upto_region 1 with fail
  go_region_with (go_at_call 107; refine (Q.out _ (by first | exact hR | exact hR.drew)).mono ?_; rintro e w' ⟨rfl, rfl⟩)
  all_goals
    go_wp2
    go_ret
    refine ⟨_, [_], rfl, rowE_lit 2 (World.alloc_heap_new _ _) (by first | exact Nat.le_refl _ | (simp)) rfl rfl rfl (by unfold maxLen; omega), ?_⟩
    first
      | exact hR.alloc (Nat.le_refl _) _
      | exact hR.drew.alloc hR.drew.size _
      | exact (hR.alloc (Nat.le_refl _) _).drew

end Go.Proofs.Ytdehehdcjfaefab
