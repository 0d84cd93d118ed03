/- l02Same of the model; what the program's closures answer. -/
import Derived.Test.YtdehehdcjfaefabPlainM
import Derived.Deep.AppendLies
namespace Go.Proofs.Ytdehehdcjfaefab
open Go.RowKit
set_option linter.unusedVariables false

theorem p_toInfo : (Try.prog.info? 2).map (fun i => (i.zero, i.size, i.bytes)) = some (some (.int .i64 0), 1, 8) := by kernel_rfl
theorem p_info_parts {t : TypeId} {z : Value} {n m : Nat} (h : (Try.prog.info? t).map (fun i => (i.zero, i.size, i.bytes)) = some (some z, n, m)) : ∃ i : TypeInfo, Try.prog.info? t = some i ∧ i.zero = some z ∧ i.size = n ∧ i.bytes = m := by
  cases hi : Try.prog.info? t with
  | none => rw [hi] at h; cases h
  | some i => rw [hi] at h; simp only [Option.map_some, Option.some.injEq, Prod.mk.injEq] at h; exact ⟨i, rfl, h.1, h.2.1, h.2.2⟩
theorem p_one (y : Int) : ∀ u ∈ [Value.int .i64 y], u.oneCell' = true := by intro u hu; rw [List.mem_singleton.1 hu]; rfl
theorem p_new (w : World) : (w.alloc (.cells #[] 2)).ownsRow w.heap.size 2 1 (.slice (some ⟨w.heap.size, 0, none⟩) 0 0) 0 [] := by
  have := World.ownsRow_lit (base := w.heap.size) (e := 2) (size := 1) w #[] 0 (Nat.le_refl _) (Nat.zero_le _) rfl
  simpa using this
theorem p_bx (w : World) (cs : Array Value) (t : TypeId) : (w.alloc (.cells cs t)).heap[w.heap.size]? = some (.cells cs t (0, 0)) := World.alloc_heap_new w _

set_option maxHeartbeats 3200000 in
set_option maxRecDepth 100000 in
theorem spec_same6 (y : Int) (n : Nat) (hn : n ≤ 1000) (W : World) :
    Calls Try.prog 63 #[.int .i64 y, .int .i64 (n : Int)] W fun e w' => ∃ v bs, e = .returned v ∧ IntsE W.heap.size w' v (List.replicate n y) bs ∧ Below W.heap.size W w' := by
  obtain ⟨i0, hi, hz0, hz1, hz2⟩ := p_info_parts p_toInfo
  have hB0 := (Below.refl W.heap.size W).alloc (Nat.le_refl _) (.cells #[] 2)
  have hst : IntsE W.heap.size (W.alloc (.cells #[] 2)) (.slice (some ⟨W.heap.size, 0, none⟩) 0 0) (List.replicate 0 y) [W.heap.size] := ⟨p_new W, rfl⟩
  have Hst := Lib.hid (And.intro hst hB0)
  clear hst hB0
  go_enter Try.func63, Try.ntmps63
  go_wp2
  go_loopw [5, 6] (fun sm i wr => ∃ j : Nat, j ≤ n ∧ i = .int .i64 j ∧ (∃ bs, IntsE W.heap.size wr sm (List.replicate j y) bs) ∧ Below W.heap.size W wr) (fun _ i _ => n - (intOf i).toNat)
  case atStart => exact ⟨0, Nat.zero_le _, rfl, ⟨_, Hst.out.1⟩, Hst.out.2⟩
  case round =>
    obtain ⟨j, hj, rfl, ⟨bs, hS⟩, hB⟩ := hrel
    obtain ⟨A', ca, rfl⟩ := RowE.slice hS
    have hz := hB.size
    by_cases hlt : j < n
    · rw [List.length_replicate] at hS ⊢
      have hrow : wr.ownsRow W.heap.size 2 1 (.slice A' j ca) j ((List.replicate j y).flatMap fun x => [Value.int .i64 x]) := by
        have := hS.1
        rwa [List.length_replicate] at this
      have Hb := Lib.hid (And.intro hS (And.intro hB hrow))
      clear hS hB hrow
      go_wp2_with (at_builtin; refine wpList_append_lies _ rfl _ _ 38 rfl W.heap.size 2 i0 (.int .i64 0) 1 8 Try.underlying38 hi hz0 hz1 hz2 rfl (by decide) _ j _ rfl (Hb.out.2.2.alloc _) ⟨wr.heap.size, 0, none⟩ 1 1 [.int .i64 y] rfl rfl (World.news_of_block (p_bx wr _ _)) (p_one y) (by decide) ?c1 ?c2 ?c3 _ rfl ?_)
      case c1 => unfold maxLen; omega
      case c2 => omega
      case c3 => simp; omega
      intro g1 cap w5 hown hg hat hltg
      have hB6 : Below W.heap.size W w5 := (Hb.out.2.1.alloc Hb.out.2.1.size _).grown hg (by simp; omega) (fun k hk => ((ints_ok _).lt Hb.out.1 k (by rw [Hb.out.1.2, hk]; simp)).1)
      have hS6 : IntsE W.heap.size w5 (.slice (some ⟨g1, 0, none⟩) (j + 1) cap) (List.replicate (j + 1) y) [g1] := by
        rw [List.replicate_succ']
        refine ⟨?_, rfl⟩
        rw [List.length_append, List.length_replicate, List.flatMap_append]
        exact hown
      clear hown hg hat
      go_wp2
      go_roundw
      case rel => exact ⟨j + 1, by omega, by go_num, ⟨[g1], hS6⟩, hB6⟩
      case measure => simp [intOf]; omega
    · have e : j = n := by omega
      subst e
      go_wp2
      go_ret
      exact ⟨_, bs, rfl, hS, hB⟩

theorem spec_max0 (y : Int) (w : World) :
    Calls Try.prog 61 #[.int .i64 y, .int .i64 0] w fun e w' => e = .returned (.int .i64 (max y 0)) ∧ w = w' := by
  by_cases h : 0 < y
  · have e : max y 0 = y := by omega
    rw [e]
    go_enter Try.func61, Try.ntmps61
    go_wp2
    go_ret
    exact ⟨rfl, rfl⟩
  · have e : max y 0 = 0 := by omega
    rw [e]
    go_enter Try.func61, Try.ntmps61
    go_wp2
    go_ret
    exact ⟨rfl, rfl⟩
end Go.Proofs.Ytdehehdcjfaefab
