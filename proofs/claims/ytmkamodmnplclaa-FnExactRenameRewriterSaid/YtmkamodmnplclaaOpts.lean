/- The program's options of rewriters. -/
import Derived.Test.YtmkamodmnplclaaRwPut
import Derived.Test.YtmkamodmnplclaaWithR
namespace Go.Proofs.Ytmkamodmnplclaa
open Go.RowKit
set_option linter.unusedVariables false

abbrev OpT := Int × Int × ByteArray
abbrev OmT := Int × ByteArray
theorem kind_0 (w : World) : Calls Try.prog 102 #[.int .u8 0] w fun e w' => e = .returned (.int .i64 0) ∧ w = w' := by
  go_enter Try.func102, Try.ntmps102
  go_wp2
  go_ret
  exact ⟨rfl, rfl⟩
theorem kind_1 (w : World) : Calls Try.prog 102 #[.int .u8 1] w fun e w' => e = .returned (.int .i64 1) ∧ w = w' := by
  go_enter Try.func102, Try.ntmps102
  go_wp2
  go_ret
  exact ⟨rfl, rfl⟩
theorem kind_2 (w : World) : Calls Try.prog 102 #[.int .u8 2] w fun e w' => e = .returned (.int .i64 0) ∧ w = w' := by
  go_enter Try.func102, Try.ntmps102
  go_wp2
  go_ret
  exact ⟨rfl, rfl⟩
theorem kind_3 (w : World) : Calls Try.prog 102 #[.int .u8 3] w fun e w' => e = .returned (.int .i64 1) ∧ w = w' := by
  go_enter Try.func102, Try.ntmps102
  go_wp2
  go_ret
  exact ⟨rfl, rfl⟩
theorem kind_4 (w : World) : Calls Try.prog 102 #[.int .u8 4] w fun e w' => e = .returned (.int .i64 0) ∧ w = w' := by
  go_enter Try.func102, Try.ntmps102
  go_wp2
  go_ret
  exact ⟨rfl, rfl⟩
theorem kind_5 (w : World) : Calls Try.prog 102 #[.int .u8 5] w fun e w' => e = .returned (.int .i64 1) ∧ w = w' := by
  go_enter Try.func102, Try.ntmps102
  go_wp2
  go_ret
  exact ⟨rfl, rfl⟩
set_option maxHeartbeats 12800000 in
set_option maxRecDepth 100000 in
theorem opt_writing_0 (w : World) (S O : Nat) (out : ByteArray) (c : Rw) (p0 p1 : OpT) (hcl : c.call.length = 1) (hlc : c.call.length = 1) (hc0 : c.call[0]? = some [p0, p1]) (hS : w.cell? ⟨S, 0, none⟩ = some (.int .u8 0)) (hO : w.cell? ⟨O, 0, none⟩ = some (.string out)) :
    OptC w 105 #[.pointer (some ⟨S, 0, none⟩), .pointer (some ⟨O, 0, none⟩)] c { c with call := c.call.set 0 ([p0, p1].set 0 (p0.1, p0.2.1, out)) } := by
  intro W base b b1 b2 b3 hbase hW h
  obtain ⟨g0, k0, g1, k1, hc0', hc1', hc2', hfz, ⟨hb', hg0, hg1⟩, hput⟩ := h.at_call (o := 2) (j := 0) (q := 2) hc0 rfl rfl rfl
  rw [hcl] at hc0'
  have HPut := Lib.hid (fun W' hW' => hput W' hW' (p0.1, p0.2.1, out) (.string out) rfl)
  have HC := Lib.hid (And.intro hc0' (And.intro hc1' (And.intro (cellL hS hW) (And.intro (cellL hO hW) (And.intro hc2' (And.intro hfz hg1))))))
  have lS : S < W.heap.size := World.block_lt_of_cell? _ _ (cellL hS hW)
  have lO : O < W.heap.size := World.block_lt_of_cell? _ _ (cellL hO hW)
  have hbc := hc0'
  obtain ⟨d9, hd9⟩ : ∃ d, d = { c with call := c.call.set 0 ([p0, p1].set 0 (p0.1, p0.2.1, out)) } := ⟨_, rfl⟩
  have HP9 : Hid (∀ W', Below W.heap.size W W' → RwAt base (W'.setCell ⟨g1, 2, none⟩ (.string out)) b d9 b1 b2 b3 ∧ Below base W (W'.setCell ⟨g1, 2, none⟩ (.string out))) := by rw [hd9]; exact HPut.out
  rw [← hd9]
  clear hd9 HPut hput hc0' hc1' hc2' hfz hS hO hW h hbase hcl hc0 hlc
  go_enter Try.func105, Try.ntmps105
  go_upto_region 1 with fail
  clear hbc
  go_loopw [12] (fun i wr => (i = .int .i64 0 ∧ wr = W) ∨ (i = .int .i64 1 ∧ RwAt base wr b d9 b1 b2 b3 ∧ Below base W wr)) (fun i _ => 1 - (intOf i).toNat)
  case atStart => exact .inl ⟨rfl, rfl⟩
  case round =>
    rcases hrel with ⟨rfl, hwr⟩ | ⟨rfl, hA2, hB2⟩
    · subst hwr
      have cS := HC.out.2.2.1
      go_upto_region 5 with (first | (go_at_call 106; refine (impl_isCall _ _).mono ?_; rintro e w' ⟨rfl, rfl⟩) | (go_at_call 107; refine (impl_isReturn _ _ (by decide)).mono ?_; rintro e w' ⟨rfl, rfl⟩))
      refine wp_region_free_last (by kernel_rfl) [
          .val [] (fun _ => .pointer (some ⟨b, 0, none⟩)),
          .val [] (fun _ => .pointer (some ⟨b, 0, none⟩)),
          .val [] (fun _ => .pointer (some ⟨b, 2, none⟩)),
          .val [] (fun _ => .slice (some ⟨g0, 0, none⟩) 1 k0),
          .val [] (fun _ => .int .i64 0),
          .val [] (fun _ => .pointer (some ⟨g0, 0, none⟩)),
          .val [] (fun _ => .slice (some ⟨g1, 0, none⟩) 2 k1),
          .val [] (fun _ => .int .u8 0),
          .val [] (fun _ => .int .i64 0),
          .val [] (fun _ => .string out),
          .val [] (fun _ => .pointer (some ⟨g1, 0, none⟩)),
          .val [] (fun _ => .pointer (some ⟨g1, 2, none⟩))] ?hp ?hfw ?deps ?oks ?hl ?hpos ?steps
      case hp => kernel_rfl
      case hfw => kernel_rfl
      case deps => kernel_rfl
      case hl => kernel_rfl
      case hpos => kernel_rfl
      case oks =>
        intro F hF
        simp only [List.mem_cons, List.not_mem_nil, or_false] at hF
        rcases hF with rfl | rfl | rfl | rfl | rfl | rfl | rfl | rfl | rfl | rfl | rfl | rfl
        all_goals trivial
      case steps =>
        refine StepsL.cons ?_ ?_
        · refine FreeStep.val [] _ rfl rfl fun u β W hW hn fr hfr K hK => ?_
          simp only [frameL, putL, Act.put, List.setIfInBounds_toArray, List.set_cons_zero, List.set_cons_succ, Nat.zero_add, Nat.reduceAdd] at hfr
          subst hfr
          have HK := Lib.hid hK
          clear hK hn
          go_simp
          have h9 := HK.out
          revert h9
          clear HK
          go_simp
          try exact id
        refine StepsL.cons ?_ ?_
        · refine FreeStep.val [] _ rfl rfl fun u β W hW hn fr hfr K hK => ?_
          simp only [frameL, putL, Act.put, List.setIfInBounds_toArray, List.set_cons_zero, List.set_cons_succ, Nat.zero_add, Nat.reduceAdd] at hfr
          subst hfr
          have e0 : u 0 = .pointer (some ⟨b, 0, none⟩) := Have.get (k := 0) hn rfl
          simp only [e0] at hK
          have HK := Lib.hid hK
          clear hK hn
          go_simp
          have h9 := HK.out
          revert h9
          clear HK
          go_simp
          try exact id
        refine StepsL.cons ?_ ?_
        · refine FreeStep.val [] _ rfl rfl fun u β W hW hn fr hfr K hK => ?_
          simp only [frameL, putL, Act.put, List.setIfInBounds_toArray, List.set_cons_zero, List.set_cons_succ, Nat.zero_add, Nat.reduceAdd] at hfr
          subst hfr
          have e1 : u 1 = .pointer (some ⟨b, 0, none⟩) := Have.get (k := 1) hn rfl
          simp only [e1] at hK
          have HK := Lib.hid hK
          clear hK hn
          go_simp
          have h9 := HK.out
          revert h9
          clear HK
          go_simp
          try exact id
        refine StepsL.cons ?_ ?_
        · refine FreeStep.val [] _ rfl rfl fun u β W hW hn fr hfr K hK => ?_
          simp only [frameL, putL, Act.put, List.setIfInBounds_toArray, List.set_cons_zero, List.set_cons_succ, Nat.zero_add, Nat.reduceAdd] at hfr
          subst hfr
          have e2 : u 2 = .pointer (some ⟨b, 2, none⟩) := Have.get (k := 2) hn rfl
          simp only [e2] at hK
          have c0 := cellL HC.out.1 hW
          have HK := Lib.hid hK
          clear hK hn
          go_simp
          have h9 := HK.out
          revert h9
          clear HK
          go_simp
          try exact id
        refine StepsL.cons ?_ ?_
        · refine FreeStep.val [] _ rfl rfl fun u β W hW hn fr hfr K hK => ?_
          simp only [frameL, putL, Act.put, List.setIfInBounds_toArray, List.set_cons_zero, List.set_cons_succ, Nat.zero_add, Nat.reduceAdd] at hfr
          subst hfr
          have HK := Lib.hid hK
          clear hK hn
          go_simp
          have h9 := HK.out
          revert h9
          clear HK
          go_simp
          try exact id
        refine StepsL.cons ?_ ?_
        · refine FreeStep.val [] _ rfl rfl fun u β W hW hn fr hfr K hK => ?_
          simp only [frameL, putL, Act.put, List.setIfInBounds_toArray, List.set_cons_zero, List.set_cons_succ, Nat.zero_add, Nat.reduceAdd] at hfr
          subst hfr
          have e3 : u 3 = .slice (some ⟨g0, 0, none⟩) 1 k0 := Have.get (k := 3) hn rfl
          have e4 : u 4 = .int .i64 0 := Have.get (k := 4) hn rfl
          simp only [e3, e4] at hK
          have HK := Lib.hid hK
          clear hK hn
          go_simp
          have h9 := HK.out
          revert h9
          clear HK
          go_simp
          try exact id
        refine StepsL.cons ?_ ?_
        · refine FreeStep.val [] _ rfl rfl fun u β W hW hn fr hfr K hK => ?_
          simp only [frameL, putL, Act.put, List.setIfInBounds_toArray, List.set_cons_zero, List.set_cons_succ, Nat.zero_add, Nat.reduceAdd] at hfr
          subst hfr
          have e5 : u 5 = .pointer (some ⟨g0, 0, none⟩) := Have.get (k := 5) hn rfl
          simp only [e5] at hK
          have c0 := cellL HC.out.2.1 hW
          have HK := Lib.hid hK
          clear hK hn
          go_simp
          have h9 := HK.out
          revert h9
          clear HK
          go_simp
          try exact id
        refine StepsL.cons ?_ ?_
        · refine FreeStep.val [] _ rfl rfl fun u β W hW hn fr hfr K hK => ?_
          simp only [frameL, putL, Act.put, List.setIfInBounds_toArray, List.set_cons_zero, List.set_cons_succ, Nat.zero_add, Nat.reduceAdd] at hfr
          subst hfr
          have c0 := cellL HC.out.2.2.1 hW
          have HK := Lib.hid hK
          clear hK hn
          go_simp
          have h9 := HK.out
          revert h9
          clear HK
          go_simp
          try exact id
        refine StepsL.cons ?_ ?_
        · refine FreeStep.calm [] _ rfl rfl fun u β W hW hn fr hfr K hK => ?_
          simp only [frameL, putL, Act.put, List.setIfInBounds_toArray, List.set_cons_zero, List.set_cons_succ, Nat.zero_add, Nat.reduceAdd] at hfr
          subst hfr
          have e7 : u 7 = .int .u8 0 := Have.get (k := 7) hn rfl
          simp only [e7] at hK
          have HK := Lib.hid hK
          clear hK hn
          go_simp
          refine (kind_0 _).mono ?_
          rintro e w1 ⟨rfl, rfl⟩
          have h9 := HK.out _ (Below.refl _ _)
          revert h9
          clear HK
          go_simp
          try exact id
        refine StepsL.cons ?_ ?_
        · refine FreeStep.val [] _ rfl rfl fun u β W hW hn fr hfr K hK => ?_
          simp only [frameL, putL, Act.put, List.setIfInBounds_toArray, List.set_cons_zero, List.set_cons_succ, Nat.zero_add, Nat.reduceAdd] at hfr
          subst hfr
          have c0 := cellL HC.out.2.2.2.1 hW
          have HK := Lib.hid hK
          clear hK hn
          go_simp
          have h9 := HK.out
          revert h9
          clear HK
          go_simp
          try exact id
        refine StepsL.cons ?_ ?_
        · refine FreeStep.val [] _ rfl rfl fun u β W hW hn fr hfr K hK => ?_
          simp only [frameL, putL, Act.put, List.setIfInBounds_toArray, List.set_cons_zero, List.set_cons_succ, Nat.zero_add, Nat.reduceAdd] at hfr
          subst hfr
          have e6 : u 6 = .slice (some ⟨g1, 0, none⟩) 2 k1 := Have.get (k := 6) hn rfl
          have e8 : u 8 = .int .i64 0 := Have.get (k := 8) hn rfl
          simp only [e6, e8] at hK
          have HK := Lib.hid hK
          clear hK hn
          go_simp
          have h9 := HK.out
          revert h9
          clear HK
          go_simp
          try exact id
        refine StepsL.cons ?_ ?_
        · refine FreeStep.val [] _ rfl rfl fun u β W hW hn fr hfr K hK => ?_
          simp only [frameL, putL, Act.put, List.setIfInBounds_toArray, List.set_cons_zero, List.set_cons_succ, Nat.zero_add, Nat.reduceAdd] at hfr
          subst hfr
          have e10 : u 10 = .pointer (some ⟨g1, 0, none⟩) := Have.get (k := 10) hn rfl
          simp only [e10] at hK
          have HK := Lib.hid hK
          clear hK hn
          go_simp
          have h9 := HK.out
          revert h9
          clear HK
          go_simp
          try exact id
        intro u β W9 hW hn hdis hbnd fr hfr K hK
        simp only [frameL, putL, Act.put, List.setIfInBounds_toArray, List.set_cons_zero, List.set_cons_succ, Nat.zero_add, Nat.reduceAdd] at hfr
        subst hfr
        have e9 : u 9 = .string out := Have.get (k := 9) hn rfl
        have e11 : u 11 = .pointer (some ⟨g1, 2, none⟩) := Have.get (k := 11) hn rfl
        have HK := Lib.hid hK
        clear hn hdis hbnd hK
        have c0 := cellL HC.out.2.2.2.2.1 hW
        have z0 := HC.out.2.2.2.2.2.1 W9 hW
        have l0 : g1 < W9.heap.size := Nat.lt_of_lt_of_le HC.out.2.2.2.2.2.2 hW.size
        have HP := Lib.hid (HP9.out W9 hW)
        clear hW HC HP9
        go_simp
        refine HK.out _ _ ?_
        clear HK
        generalize u 0 = s0 at *
        generalize u 1 = s1 at *
        generalize u 2 = s2 at *
        generalize u 3 = s3 at *
        generalize u 4 = s4 at *
        generalize u 5 = s5 at *
        generalize u 6 = s6 at *
        generalize u 7 = s7 at *
        generalize u 8 = s8 at *
        generalize u 9 = s9 at *
        generalize u 10 = s10 at *
        generalize u 11 = s11 at *
        go_wp2
        go_roundw
        case rel => exact .inr ⟨by go_num, HP.out⟩
        case measure => simp [intOf]
    · go_wp2
      go_end0
      exact ⟨rfl, hA2, hB2⟩
set_option maxHeartbeats 12800000 in
set_option maxRecDepth 100000 in
theorem opt_writing_1 (w : World) (S O : Nat) (out : ByteArray) (c : Rw) (p0 p1 : OpT) (hcl : c.call.length = 1) (hlc : c.call.length = 1) (hc0 : c.call[0]? = some [p0, p1]) (hS : w.cell? ⟨S, 0, none⟩ = some (.int .u8 1)) (hO : w.cell? ⟨O, 0, none⟩ = some (.string out)) :
    OptC w 105 #[.pointer (some ⟨S, 0, none⟩), .pointer (some ⟨O, 0, none⟩)] c { c with call := c.call.set 0 ([p0, p1].set 1 (p1.1, p1.2.1, out)) } := by
  intro W base b b1 b2 b3 hbase hW h
  obtain ⟨g0, k0, g1, k1, hc0', hc1', hc2', hfz, ⟨hb', hg0, hg1⟩, hput⟩ := h.at_call (o := 5) (j := 1) (q := 2) hc0 rfl rfl rfl
  rw [hcl] at hc0'
  have HPut := Lib.hid (fun W' hW' => hput W' hW' (p1.1, p1.2.1, out) (.string out) rfl)
  have HC := Lib.hid (And.intro hc0' (And.intro hc1' (And.intro (cellL hS hW) (And.intro (cellL hO hW) (And.intro hc2' (And.intro hfz hg1))))))
  have lS : S < W.heap.size := World.block_lt_of_cell? _ _ (cellL hS hW)
  have lO : O < W.heap.size := World.block_lt_of_cell? _ _ (cellL hO hW)
  have hbc := hc0'
  obtain ⟨d9, hd9⟩ : ∃ d, d = { c with call := c.call.set 0 ([p0, p1].set 1 (p1.1, p1.2.1, out)) } := ⟨_, rfl⟩
  have HP9 : Hid (∀ W', Below W.heap.size W W' → RwAt base (W'.setCell ⟨g1, 5, none⟩ (.string out)) b d9 b1 b2 b3 ∧ Below base W (W'.setCell ⟨g1, 5, none⟩ (.string out))) := by rw [hd9]; exact HPut.out
  rw [← hd9]
  clear hd9 HPut hput hc0' hc1' hc2' hfz hS hO hW h hbase hcl hc0 hlc
  go_enter Try.func105, Try.ntmps105
  go_upto_region 1 with fail
  clear hbc
  go_loopw [12] (fun i wr => (i = .int .i64 0 ∧ wr = W) ∨ (i = .int .i64 1 ∧ RwAt base wr b d9 b1 b2 b3 ∧ Below base W wr)) (fun i _ => 1 - (intOf i).toNat)
  case atStart => exact .inl ⟨rfl, rfl⟩
  case round =>
    rcases hrel with ⟨rfl, hwr⟩ | ⟨rfl, hA2, hB2⟩
    · subst hwr
      have cS := HC.out.2.2.1
      go_upto_region 5 with (first | (go_at_call 106; refine (impl_isCall _ _).mono ?_; rintro e w' ⟨rfl, rfl⟩) | (go_at_call 107; refine (impl_isReturn _ _ (by decide)).mono ?_; rintro e w' ⟨rfl, rfl⟩))
      refine wp_region_free_last (by kernel_rfl) [
          .val [] (fun _ => .pointer (some ⟨b, 0, none⟩)),
          .val [] (fun _ => .pointer (some ⟨b, 0, none⟩)),
          .val [] (fun _ => .pointer (some ⟨b, 2, none⟩)),
          .val [] (fun _ => .slice (some ⟨g0, 0, none⟩) 1 k0),
          .val [] (fun _ => .int .i64 0),
          .val [] (fun _ => .pointer (some ⟨g0, 0, none⟩)),
          .val [] (fun _ => .slice (some ⟨g1, 0, none⟩) 2 k1),
          .val [] (fun _ => .int .u8 1),
          .val [] (fun _ => .int .i64 1),
          .val [] (fun _ => .string out),
          .val [] (fun _ => .pointer (some ⟨g1, 3, none⟩)),
          .val [] (fun _ => .pointer (some ⟨g1, 5, none⟩))] ?hp ?hfw ?deps ?oks ?hl ?hpos ?steps
      case hp => kernel_rfl
      case hfw => kernel_rfl
      case deps => kernel_rfl
      case hl => kernel_rfl
      case hpos => kernel_rfl
      case oks =>
        intro F hF
        simp only [List.mem_cons, List.not_mem_nil, or_false] at hF
        rcases hF with rfl | rfl | rfl | rfl | rfl | rfl | rfl | rfl | rfl | rfl | rfl | rfl
        all_goals trivial
      case steps =>
        refine StepsL.cons ?_ ?_
        · refine FreeStep.val [] _ rfl rfl fun u β W hW hn fr hfr K hK => ?_
          simp only [frameL, putL, Act.put, List.setIfInBounds_toArray, List.set_cons_zero, List.set_cons_succ, Nat.zero_add, Nat.reduceAdd] at hfr
          subst hfr
          have HK := Lib.hid hK
          clear hK hn
          go_simp
          have h9 := HK.out
          revert h9
          clear HK
          go_simp
          try exact id
        refine StepsL.cons ?_ ?_
        · refine FreeStep.val [] _ rfl rfl fun u β W hW hn fr hfr K hK => ?_
          simp only [frameL, putL, Act.put, List.setIfInBounds_toArray, List.set_cons_zero, List.set_cons_succ, Nat.zero_add, Nat.reduceAdd] at hfr
          subst hfr
          have e0 : u 0 = .pointer (some ⟨b, 0, none⟩) := Have.get (k := 0) hn rfl
          simp only [e0] at hK
          have HK := Lib.hid hK
          clear hK hn
          go_simp
          have h9 := HK.out
          revert h9
          clear HK
          go_simp
          try exact id
        refine StepsL.cons ?_ ?_
        · refine FreeStep.val [] _ rfl rfl fun u β W hW hn fr hfr K hK => ?_
          simp only [frameL, putL, Act.put, List.setIfInBounds_toArray, List.set_cons_zero, List.set_cons_succ, Nat.zero_add, Nat.reduceAdd] at hfr
          subst hfr
          have e1 : u 1 = .pointer (some ⟨b, 0, none⟩) := Have.get (k := 1) hn rfl
          simp only [e1] at hK
          have HK := Lib.hid hK
          clear hK hn
          go_simp
          have h9 := HK.out
          revert h9
          clear HK
          go_simp
          try exact id
        refine StepsL.cons ?_ ?_
        · refine FreeStep.val [] _ rfl rfl fun u β W hW hn fr hfr K hK => ?_
          simp only [frameL, putL, Act.put, List.setIfInBounds_toArray, List.set_cons_zero, List.set_cons_succ, Nat.zero_add, Nat.reduceAdd] at hfr
          subst hfr
          have e2 : u 2 = .pointer (some ⟨b, 2, none⟩) := Have.get (k := 2) hn rfl
          simp only [e2] at hK
          have c0 := cellL HC.out.1 hW
          have HK := Lib.hid hK
          clear hK hn
          go_simp
          have h9 := HK.out
          revert h9
          clear HK
          go_simp
          try exact id
        refine StepsL.cons ?_ ?_
        · refine FreeStep.val [] _ rfl rfl fun u β W hW hn fr hfr K hK => ?_
          simp only [frameL, putL, Act.put, List.setIfInBounds_toArray, List.set_cons_zero, List.set_cons_succ, Nat.zero_add, Nat.reduceAdd] at hfr
          subst hfr
          have HK := Lib.hid hK
          clear hK hn
          go_simp
          have h9 := HK.out
          revert h9
          clear HK
          go_simp
          try exact id
        refine StepsL.cons ?_ ?_
        · refine FreeStep.val [] _ rfl rfl fun u β W hW hn fr hfr K hK => ?_
          simp only [frameL, putL, Act.put, List.setIfInBounds_toArray, List.set_cons_zero, List.set_cons_succ, Nat.zero_add, Nat.reduceAdd] at hfr
          subst hfr
          have e3 : u 3 = .slice (some ⟨g0, 0, none⟩) 1 k0 := Have.get (k := 3) hn rfl
          have e4 : u 4 = .int .i64 0 := Have.get (k := 4) hn rfl
          simp only [e3, e4] at hK
          have HK := Lib.hid hK
          clear hK hn
          go_simp
          have h9 := HK.out
          revert h9
          clear HK
          go_simp
          try exact id
        refine StepsL.cons ?_ ?_
        · refine FreeStep.val [] _ rfl rfl fun u β W hW hn fr hfr K hK => ?_
          simp only [frameL, putL, Act.put, List.setIfInBounds_toArray, List.set_cons_zero, List.set_cons_succ, Nat.zero_add, Nat.reduceAdd] at hfr
          subst hfr
          have e5 : u 5 = .pointer (some ⟨g0, 0, none⟩) := Have.get (k := 5) hn rfl
          simp only [e5] at hK
          have c0 := cellL HC.out.2.1 hW
          have HK := Lib.hid hK
          clear hK hn
          go_simp
          have h9 := HK.out
          revert h9
          clear HK
          go_simp
          try exact id
        refine StepsL.cons ?_ ?_
        · refine FreeStep.val [] _ rfl rfl fun u β W hW hn fr hfr K hK => ?_
          simp only [frameL, putL, Act.put, List.setIfInBounds_toArray, List.set_cons_zero, List.set_cons_succ, Nat.zero_add, Nat.reduceAdd] at hfr
          subst hfr
          have c0 := cellL HC.out.2.2.1 hW
          have HK := Lib.hid hK
          clear hK hn
          go_simp
          have h9 := HK.out
          revert h9
          clear HK
          go_simp
          try exact id
        refine StepsL.cons ?_ ?_
        · refine FreeStep.calm [] _ rfl rfl fun u β W hW hn fr hfr K hK => ?_
          simp only [frameL, putL, Act.put, List.setIfInBounds_toArray, List.set_cons_zero, List.set_cons_succ, Nat.zero_add, Nat.reduceAdd] at hfr
          subst hfr
          have e7 : u 7 = .int .u8 1 := Have.get (k := 7) hn rfl
          simp only [e7] at hK
          have HK := Lib.hid hK
          clear hK hn
          go_simp
          refine (kind_1 _).mono ?_
          rintro e w1 ⟨rfl, rfl⟩
          have h9 := HK.out _ (Below.refl _ _)
          revert h9
          clear HK
          go_simp
          try exact id
        refine StepsL.cons ?_ ?_
        · refine FreeStep.val [] _ rfl rfl fun u β W hW hn fr hfr K hK => ?_
          simp only [frameL, putL, Act.put, List.setIfInBounds_toArray, List.set_cons_zero, List.set_cons_succ, Nat.zero_add, Nat.reduceAdd] at hfr
          subst hfr
          have c0 := cellL HC.out.2.2.2.1 hW
          have HK := Lib.hid hK
          clear hK hn
          go_simp
          have h9 := HK.out
          revert h9
          clear HK
          go_simp
          try exact id
        refine StepsL.cons ?_ ?_
        · refine FreeStep.val [] _ rfl rfl fun u β W hW hn fr hfr K hK => ?_
          simp only [frameL, putL, Act.put, List.setIfInBounds_toArray, List.set_cons_zero, List.set_cons_succ, Nat.zero_add, Nat.reduceAdd] at hfr
          subst hfr
          have e6 : u 6 = .slice (some ⟨g1, 0, none⟩) 2 k1 := Have.get (k := 6) hn rfl
          have e8 : u 8 = .int .i64 1 := Have.get (k := 8) hn rfl
          simp only [e6, e8] at hK
          have HK := Lib.hid hK
          clear hK hn
          go_simp
          have h9 := HK.out
          revert h9
          clear HK
          go_simp
          try exact id
        refine StepsL.cons ?_ ?_
        · refine FreeStep.val [] _ rfl rfl fun u β W hW hn fr hfr K hK => ?_
          simp only [frameL, putL, Act.put, List.setIfInBounds_toArray, List.set_cons_zero, List.set_cons_succ, Nat.zero_add, Nat.reduceAdd] at hfr
          subst hfr
          have e10 : u 10 = .pointer (some ⟨g1, 3, none⟩) := Have.get (k := 10) hn rfl
          simp only [e10] at hK
          have HK := Lib.hid hK
          clear hK hn
          go_simp
          have h9 := HK.out
          revert h9
          clear HK
          go_simp
          try exact id
        intro u β W9 hW hn hdis hbnd fr hfr K hK
        simp only [frameL, putL, Act.put, List.setIfInBounds_toArray, List.set_cons_zero, List.set_cons_succ, Nat.zero_add, Nat.reduceAdd] at hfr
        subst hfr
        have e9 : u 9 = .string out := Have.get (k := 9) hn rfl
        have e11 : u 11 = .pointer (some ⟨g1, 5, none⟩) := Have.get (k := 11) hn rfl
        have HK := Lib.hid hK
        clear hn hdis hbnd hK
        have c0 := cellL HC.out.2.2.2.2.1 hW
        have z0 := HC.out.2.2.2.2.2.1 W9 hW
        have l0 : g1 < W9.heap.size := Nat.lt_of_lt_of_le HC.out.2.2.2.2.2.2 hW.size
        have HP := Lib.hid (HP9.out W9 hW)
        clear hW HC HP9
        go_simp
        refine HK.out _ _ ?_
        clear HK
        generalize u 0 = s0 at *
        generalize u 1 = s1 at *
        generalize u 2 = s2 at *
        generalize u 3 = s3 at *
        generalize u 4 = s4 at *
        generalize u 5 = s5 at *
        generalize u 6 = s6 at *
        generalize u 7 = s7 at *
        generalize u 8 = s8 at *
        generalize u 9 = s9 at *
        generalize u 10 = s10 at *
        generalize u 11 = s11 at *
        go_wp2
        go_roundw
        case rel => exact .inr ⟨by go_num, HP.out⟩
        case measure => simp [intOf]
    · go_wp2
      go_end0
      exact ⟨rfl, hA2, hB2⟩
set_option maxHeartbeats 12800000 in
set_option maxRecDepth 100000 in
theorem opt_writing_4 (w : World) (S O : Nat) (out : ByteArray) (c : Rw) (p0 p1 : OmT) (hcl : c.inner.length = 1) (hlc : c.call.length = 1) (hc0 : c.inner[0]? = some [p0, p1]) (hS : w.cell? ⟨S, 0, none⟩ = some (.int .u8 4)) (hO : w.cell? ⟨O, 0, none⟩ = some (.string out)) :
    OptC w 105 #[.pointer (some ⟨S, 0, none⟩), .pointer (some ⟨O, 0, none⟩)] c { c with inner := c.inner.set 0 ([p0, p1].set 0 (p0.1, out)) } := by
  intro W base b b1 b2 b3 hbase hW h
  obtain ⟨g0, k0, g1, k1, hc0', hc1', hc2', hfz, ⟨hb', hg0, hg1⟩, hput⟩ := h.at_inner (o := 1) (j := 0) (q := 1) hc0 rfl rfl rfl
  rw [hcl] at hc0'
  have HPut := Lib.hid (fun W' hW' => hput W' hW' (p0.1, out) (.string out) rfl)
  have HC := Lib.hid (And.intro hc0' (And.intro hc1' (And.intro (cellL hS hW) (And.intro (cellL hO hW) (And.intro hc2' (And.intro hfz hg1))))))
  have lS : S < W.heap.size := World.block_lt_of_cell? _ _ (cellL hS hW)
  have lO : O < W.heap.size := World.block_lt_of_cell? _ _ (cellL hO hW)
  obtain ⟨v0, v1, v2, xb, f0, f1, f2⟩ := h.ex
  obtain ⟨A0, ka0, rfl⟩ := ManyE.slice f0
  rw [hlc] at xb
  have hbc := xb.cell 2 _ rfl
  clear xb f0 f1 f2
  obtain ⟨d9, hd9⟩ : ∃ d, d = { c with inner := c.inner.set 0 ([p0, p1].set 0 (p0.1, out)) } := ⟨_, rfl⟩
  have HP9 : Hid (∀ W', Below W.heap.size W W' → RwAt base (W'.setCell ⟨g1, 1, none⟩ (.string out)) b d9 b1 b2 b3 ∧ Below base W (W'.setCell ⟨g1, 1, none⟩ (.string out))) := by rw [hd9]; exact HPut.out
  rw [← hd9]
  clear hd9 HPut hput hc0' hc1' hc2' hfz hS hO hW h hbase hcl hc0 hlc
  go_enter Try.func105, Try.ntmps105
  go_upto_region 1 with fail
  clear hbc
  go_loopw [12] (fun i wr => (i = .int .i64 0 ∧ wr = W) ∨ (i = .int .i64 1 ∧ RwAt base wr b d9 b1 b2 b3 ∧ Below base W wr)) (fun i _ => 1 - (intOf i).toNat)
  case atStart => exact .inl ⟨rfl, rfl⟩
  case round =>
    rcases hrel with ⟨rfl, hwr⟩ | ⟨rfl, hA2, hB2⟩
    · subst hwr
      have cS := HC.out.2.2.1
      go_upto_region 3 with (first | (go_at_call 106; refine (impl_isCall _ _).mono ?_; rintro e w' ⟨rfl, rfl⟩) | (go_at_call 107; refine (impl_isReturn _ _ (by decide)).mono ?_; rintro e w' ⟨rfl, rfl⟩))
      refine wp_region_free_last (by kernel_rfl) [
          .val [] (fun _ => .pointer (some ⟨b, 0, none⟩)),
          .val [] (fun _ => .pointer (some ⟨b, 0, none⟩)),
          .val [] (fun _ => .pointer (some ⟨b, 4, none⟩)),
          .val [] (fun _ => .slice (some ⟨g0, 0, none⟩) 1 k0),
          .val [] (fun _ => .int .i64 0),
          .val [] (fun _ => .pointer (some ⟨g0, 0, none⟩)),
          .val [] (fun _ => .slice (some ⟨g1, 0, none⟩) 2 k1),
          .val [] (fun _ => .int .u8 4),
          .val [] (fun _ => .int .i64 0),
          .val [] (fun _ => .string out),
          .val [] (fun _ => .pointer (some ⟨g1, 0, none⟩)),
          .val [] (fun _ => .pointer (some ⟨g1, 1, none⟩))] ?hp ?hfw ?deps ?oks ?hl ?hpos ?steps
      case hp => kernel_rfl
      case hfw => kernel_rfl
      case deps => kernel_rfl
      case hl => kernel_rfl
      case hpos => kernel_rfl
      case oks =>
        intro F hF
        simp only [List.mem_cons, List.not_mem_nil, or_false] at hF
        rcases hF with rfl | rfl | rfl | rfl | rfl | rfl | rfl | rfl | rfl | rfl | rfl | rfl
        all_goals trivial
      case steps =>
        refine StepsL.cons ?_ ?_
        · refine FreeStep.val [] _ rfl rfl fun u β W hW hn fr hfr K hK => ?_
          simp only [frameL, putL, Act.put, List.setIfInBounds_toArray, List.set_cons_zero, List.set_cons_succ, Nat.zero_add, Nat.reduceAdd] at hfr
          subst hfr
          have HK := Lib.hid hK
          clear hK hn
          go_simp
          have h9 := HK.out
          revert h9
          clear HK
          go_simp
          try exact id
        refine StepsL.cons ?_ ?_
        · refine FreeStep.val [] _ rfl rfl fun u β W hW hn fr hfr K hK => ?_
          simp only [frameL, putL, Act.put, List.setIfInBounds_toArray, List.set_cons_zero, List.set_cons_succ, Nat.zero_add, Nat.reduceAdd] at hfr
          subst hfr
          have e0 : u 0 = .pointer (some ⟨b, 0, none⟩) := Have.get (k := 0) hn rfl
          simp only [e0] at hK
          have HK := Lib.hid hK
          clear hK hn
          go_simp
          have h9 := HK.out
          revert h9
          clear HK
          go_simp
          try exact id
        refine StepsL.cons ?_ ?_
        · refine FreeStep.val [] _ rfl rfl fun u β W hW hn fr hfr K hK => ?_
          simp only [frameL, putL, Act.put, List.setIfInBounds_toArray, List.set_cons_zero, List.set_cons_succ, Nat.zero_add, Nat.reduceAdd] at hfr
          subst hfr
          have e1 : u 1 = .pointer (some ⟨b, 0, none⟩) := Have.get (k := 1) hn rfl
          simp only [e1] at hK
          have HK := Lib.hid hK
          clear hK hn
          go_simp
          have h9 := HK.out
          revert h9
          clear HK
          go_simp
          try exact id
        refine StepsL.cons ?_ ?_
        · refine FreeStep.val [] _ rfl rfl fun u β W hW hn fr hfr K hK => ?_
          simp only [frameL, putL, Act.put, List.setIfInBounds_toArray, List.set_cons_zero, List.set_cons_succ, Nat.zero_add, Nat.reduceAdd] at hfr
          subst hfr
          have e2 : u 2 = .pointer (some ⟨b, 4, none⟩) := Have.get (k := 2) hn rfl
          simp only [e2] at hK
          have c0 := cellL HC.out.1 hW
          have HK := Lib.hid hK
          clear hK hn
          go_simp
          have h9 := HK.out
          revert h9
          clear HK
          go_simp
          try exact id
        refine StepsL.cons ?_ ?_
        · refine FreeStep.val [] _ rfl rfl fun u β W hW hn fr hfr K hK => ?_
          simp only [frameL, putL, Act.put, List.setIfInBounds_toArray, List.set_cons_zero, List.set_cons_succ, Nat.zero_add, Nat.reduceAdd] at hfr
          subst hfr
          have HK := Lib.hid hK
          clear hK hn
          go_simp
          have h9 := HK.out
          revert h9
          clear HK
          go_simp
          try exact id
        refine StepsL.cons ?_ ?_
        · refine FreeStep.val [] _ rfl rfl fun u β W hW hn fr hfr K hK => ?_
          simp only [frameL, putL, Act.put, List.setIfInBounds_toArray, List.set_cons_zero, List.set_cons_succ, Nat.zero_add, Nat.reduceAdd] at hfr
          subst hfr
          have e3 : u 3 = .slice (some ⟨g0, 0, none⟩) 1 k0 := Have.get (k := 3) hn rfl
          have e4 : u 4 = .int .i64 0 := Have.get (k := 4) hn rfl
          simp only [e3, e4] at hK
          have HK := Lib.hid hK
          clear hK hn
          go_simp
          have h9 := HK.out
          revert h9
          clear HK
          go_simp
          try exact id
        refine StepsL.cons ?_ ?_
        · refine FreeStep.val [] _ rfl rfl fun u β W hW hn fr hfr K hK => ?_
          simp only [frameL, putL, Act.put, List.setIfInBounds_toArray, List.set_cons_zero, List.set_cons_succ, Nat.zero_add, Nat.reduceAdd] at hfr
          subst hfr
          have e5 : u 5 = .pointer (some ⟨g0, 0, none⟩) := Have.get (k := 5) hn rfl
          simp only [e5] at hK
          have c0 := cellL HC.out.2.1 hW
          have HK := Lib.hid hK
          clear hK hn
          go_simp
          have h9 := HK.out
          revert h9
          clear HK
          go_simp
          try exact id
        refine StepsL.cons ?_ ?_
        · refine FreeStep.val [] _ rfl rfl fun u β W hW hn fr hfr K hK => ?_
          simp only [frameL, putL, Act.put, List.setIfInBounds_toArray, List.set_cons_zero, List.set_cons_succ, Nat.zero_add, Nat.reduceAdd] at hfr
          subst hfr
          have c0 := cellL HC.out.2.2.1 hW
          have HK := Lib.hid hK
          clear hK hn
          go_simp
          have h9 := HK.out
          revert h9
          clear HK
          go_simp
          try exact id
        refine StepsL.cons ?_ ?_
        · refine FreeStep.calm [] _ rfl rfl fun u β W hW hn fr hfr K hK => ?_
          simp only [frameL, putL, Act.put, List.setIfInBounds_toArray, List.set_cons_zero, List.set_cons_succ, Nat.zero_add, Nat.reduceAdd] at hfr
          subst hfr
          have e7 : u 7 = .int .u8 4 := Have.get (k := 7) hn rfl
          simp only [e7] at hK
          have HK := Lib.hid hK
          clear hK hn
          go_simp
          refine (kind_4 _).mono ?_
          rintro e w1 ⟨rfl, rfl⟩
          have h9 := HK.out _ (Below.refl _ _)
          revert h9
          clear HK
          go_simp
          try exact id
        refine StepsL.cons ?_ ?_
        · refine FreeStep.val [] _ rfl rfl fun u β W hW hn fr hfr K hK => ?_
          simp only [frameL, putL, Act.put, List.setIfInBounds_toArray, List.set_cons_zero, List.set_cons_succ, Nat.zero_add, Nat.reduceAdd] at hfr
          subst hfr
          have c0 := cellL HC.out.2.2.2.1 hW
          have HK := Lib.hid hK
          clear hK hn
          go_simp
          have h9 := HK.out
          revert h9
          clear HK
          go_simp
          try exact id
        refine StepsL.cons ?_ ?_
        · refine FreeStep.val [] _ rfl rfl fun u β W hW hn fr hfr K hK => ?_
          simp only [frameL, putL, Act.put, List.setIfInBounds_toArray, List.set_cons_zero, List.set_cons_succ, Nat.zero_add, Nat.reduceAdd] at hfr
          subst hfr
          have e6 : u 6 = .slice (some ⟨g1, 0, none⟩) 2 k1 := Have.get (k := 6) hn rfl
          have e8 : u 8 = .int .i64 0 := Have.get (k := 8) hn rfl
          simp only [e6, e8] at hK
          have HK := Lib.hid hK
          clear hK hn
          go_simp
          have h9 := HK.out
          revert h9
          clear HK
          go_simp
          try exact id
        refine StepsL.cons ?_ ?_
        · refine FreeStep.val [] _ rfl rfl fun u β W hW hn fr hfr K hK => ?_
          simp only [frameL, putL, Act.put, List.setIfInBounds_toArray, List.set_cons_zero, List.set_cons_succ, Nat.zero_add, Nat.reduceAdd] at hfr
          subst hfr
          have e10 : u 10 = .pointer (some ⟨g1, 0, none⟩) := Have.get (k := 10) hn rfl
          simp only [e10] at hK
          have HK := Lib.hid hK
          clear hK hn
          go_simp
          have h9 := HK.out
          revert h9
          clear HK
          go_simp
          try exact id
        intro u β W9 hW hn hdis hbnd fr hfr K hK
        simp only [frameL, putL, Act.put, List.setIfInBounds_toArray, List.set_cons_zero, List.set_cons_succ, Nat.zero_add, Nat.reduceAdd] at hfr
        subst hfr
        have e9 : u 9 = .string out := Have.get (k := 9) hn rfl
        have e11 : u 11 = .pointer (some ⟨g1, 1, none⟩) := Have.get (k := 11) hn rfl
        have HK := Lib.hid hK
        clear hn hdis hbnd hK
        have c0 := cellL HC.out.2.2.2.2.1 hW
        have z0 := HC.out.2.2.2.2.2.1 W9 hW
        have l0 : g1 < W9.heap.size := Nat.lt_of_lt_of_le HC.out.2.2.2.2.2.2 hW.size
        have HP := Lib.hid (HP9.out W9 hW)
        clear hW HC HP9
        go_simp
        refine HK.out _ _ ?_
        clear HK
        generalize u 0 = s0 at *
        generalize u 1 = s1 at *
        generalize u 2 = s2 at *
        generalize u 3 = s3 at *
        generalize u 4 = s4 at *
        generalize u 5 = s5 at *
        generalize u 6 = s6 at *
        generalize u 7 = s7 at *
        generalize u 8 = s8 at *
        generalize u 9 = s9 at *
        generalize u 10 = s10 at *
        generalize u 11 = s11 at *
        go_wp2
        go_roundw
        case rel => exact .inr ⟨by go_num, HP.out⟩
        case measure => simp [intOf]
    · go_wp2
      go_end0
      exact ⟨rfl, hA2, hB2⟩
set_option maxHeartbeats 12800000 in
set_option maxRecDepth 100000 in
theorem opt_writing_5 (w : World) (S O : Nat) (out : ByteArray) (c : Rw) (p0 p1 : OmT) (hcl : c.inner.length = 1) (hlc : c.call.length = 1) (hc0 : c.inner[0]? = some [p0, p1]) (hS : w.cell? ⟨S, 0, none⟩ = some (.int .u8 5)) (hO : w.cell? ⟨O, 0, none⟩ = some (.string out)) :
    OptC w 105 #[.pointer (some ⟨S, 0, none⟩), .pointer (some ⟨O, 0, none⟩)] c { c with inner := c.inner.set 0 ([p0, p1].set 1 (p1.1, out)) } := by
  intro W base b b1 b2 b3 hbase hW h
  obtain ⟨g0, k0, g1, k1, hc0', hc1', hc2', hfz, ⟨hb', hg0, hg1⟩, hput⟩ := h.at_inner (o := 3) (j := 1) (q := 1) hc0 rfl rfl rfl
  rw [hcl] at hc0'
  have HPut := Lib.hid (fun W' hW' => hput W' hW' (p1.1, out) (.string out) rfl)
  have HC := Lib.hid (And.intro hc0' (And.intro hc1' (And.intro (cellL hS hW) (And.intro (cellL hO hW) (And.intro hc2' (And.intro hfz hg1))))))
  have lS : S < W.heap.size := World.block_lt_of_cell? _ _ (cellL hS hW)
  have lO : O < W.heap.size := World.block_lt_of_cell? _ _ (cellL hO hW)
  obtain ⟨v0, v1, v2, xb, f0, f1, f2⟩ := h.ex
  obtain ⟨A0, ka0, rfl⟩ := ManyE.slice f0
  rw [hlc] at xb
  have hbc := xb.cell 2 _ rfl
  clear xb f0 f1 f2
  obtain ⟨d9, hd9⟩ : ∃ d, d = { c with inner := c.inner.set 0 ([p0, p1].set 1 (p1.1, out)) } := ⟨_, rfl⟩
  have HP9 : Hid (∀ W', Below W.heap.size W W' → RwAt base (W'.setCell ⟨g1, 3, none⟩ (.string out)) b d9 b1 b2 b3 ∧ Below base W (W'.setCell ⟨g1, 3, none⟩ (.string out))) := by rw [hd9]; exact HPut.out
  rw [← hd9]
  clear hd9 HPut hput hc0' hc1' hc2' hfz hS hO hW h hbase hcl hc0 hlc
  go_enter Try.func105, Try.ntmps105
  go_upto_region 1 with fail
  clear hbc
  go_loopw [12] (fun i wr => (i = .int .i64 0 ∧ wr = W) ∨ (i = .int .i64 1 ∧ RwAt base wr b d9 b1 b2 b3 ∧ Below base W wr)) (fun i _ => 1 - (intOf i).toNat)
  case atStart => exact .inl ⟨rfl, rfl⟩
  case round =>
    rcases hrel with ⟨rfl, hwr⟩ | ⟨rfl, hA2, hB2⟩
    · subst hwr
      have cS := HC.out.2.2.1
      go_upto_region 3 with (first | (go_at_call 106; refine (impl_isCall _ _).mono ?_; rintro e w' ⟨rfl, rfl⟩) | (go_at_call 107; refine (impl_isReturn _ _ (by decide)).mono ?_; rintro e w' ⟨rfl, rfl⟩))
      refine wp_region_free_last (by kernel_rfl) [
          .val [] (fun _ => .pointer (some ⟨b, 0, none⟩)),
          .val [] (fun _ => .pointer (some ⟨b, 0, none⟩)),
          .val [] (fun _ => .pointer (some ⟨b, 4, none⟩)),
          .val [] (fun _ => .slice (some ⟨g0, 0, none⟩) 1 k0),
          .val [] (fun _ => .int .i64 0),
          .val [] (fun _ => .pointer (some ⟨g0, 0, none⟩)),
          .val [] (fun _ => .slice (some ⟨g1, 0, none⟩) 2 k1),
          .val [] (fun _ => .int .u8 5),
          .val [] (fun _ => .int .i64 1),
          .val [] (fun _ => .string out),
          .val [] (fun _ => .pointer (some ⟨g1, 2, none⟩)),
          .val [] (fun _ => .pointer (some ⟨g1, 3, none⟩))] ?hp ?hfw ?deps ?oks ?hl ?hpos ?steps
      case hp => kernel_rfl
      case hfw => kernel_rfl
      case deps => kernel_rfl
      case hl => kernel_rfl
      case hpos => kernel_rfl
      case oks =>
        intro F hF
        simp only [List.mem_cons, List.not_mem_nil, or_false] at hF
        rcases hF with rfl | rfl | rfl | rfl | rfl | rfl | rfl | rfl | rfl | rfl | rfl | rfl
        all_goals trivial
      case steps =>
        refine StepsL.cons ?_ ?_
        · refine FreeStep.val [] _ rfl rfl fun u β W hW hn fr hfr K hK => ?_
          simp only [frameL, putL, Act.put, List.setIfInBounds_toArray, List.set_cons_zero, List.set_cons_succ, Nat.zero_add, Nat.reduceAdd] at hfr
          subst hfr
          have HK := Lib.hid hK
          clear hK hn
          go_simp
          have h9 := HK.out
          revert h9
          clear HK
          go_simp
          try exact id
        refine StepsL.cons ?_ ?_
        · refine FreeStep.val [] _ rfl rfl fun u β W hW hn fr hfr K hK => ?_
          simp only [frameL, putL, Act.put, List.setIfInBounds_toArray, List.set_cons_zero, List.set_cons_succ, Nat.zero_add, Nat.reduceAdd] at hfr
          subst hfr
          have e0 : u 0 = .pointer (some ⟨b, 0, none⟩) := Have.get (k := 0) hn rfl
          simp only [e0] at hK
          have HK := Lib.hid hK
          clear hK hn
          go_simp
          have h9 := HK.out
          revert h9
          clear HK
          go_simp
          try exact id
        refine StepsL.cons ?_ ?_
        · refine FreeStep.val [] _ rfl rfl fun u β W hW hn fr hfr K hK => ?_
          simp only [frameL, putL, Act.put, List.setIfInBounds_toArray, List.set_cons_zero, List.set_cons_succ, Nat.zero_add, Nat.reduceAdd] at hfr
          subst hfr
          have e1 : u 1 = .pointer (some ⟨b, 0, none⟩) := Have.get (k := 1) hn rfl
          simp only [e1] at hK
          have HK := Lib.hid hK
          clear hK hn
          go_simp
          have h9 := HK.out
          revert h9
          clear HK
          go_simp
          try exact id
        refine StepsL.cons ?_ ?_
        · refine FreeStep.val [] _ rfl rfl fun u β W hW hn fr hfr K hK => ?_
          simp only [frameL, putL, Act.put, List.setIfInBounds_toArray, List.set_cons_zero, List.set_cons_succ, Nat.zero_add, Nat.reduceAdd] at hfr
          subst hfr
          have e2 : u 2 = .pointer (some ⟨b, 4, none⟩) := Have.get (k := 2) hn rfl
          simp only [e2] at hK
          have c0 := cellL HC.out.1 hW
          have HK := Lib.hid hK
          clear hK hn
          go_simp
          have h9 := HK.out
          revert h9
          clear HK
          go_simp
          try exact id
        refine StepsL.cons ?_ ?_
        · refine FreeStep.val [] _ rfl rfl fun u β W hW hn fr hfr K hK => ?_
          simp only [frameL, putL, Act.put, List.setIfInBounds_toArray, List.set_cons_zero, List.set_cons_succ, Nat.zero_add, Nat.reduceAdd] at hfr
          subst hfr
          have HK := Lib.hid hK
          clear hK hn
          go_simp
          have h9 := HK.out
          revert h9
          clear HK
          go_simp
          try exact id
        refine StepsL.cons ?_ ?_
        · refine FreeStep.val [] _ rfl rfl fun u β W hW hn fr hfr K hK => ?_
          simp only [frameL, putL, Act.put, List.setIfInBounds_toArray, List.set_cons_zero, List.set_cons_succ, Nat.zero_add, Nat.reduceAdd] at hfr
          subst hfr
          have e3 : u 3 = .slice (some ⟨g0, 0, none⟩) 1 k0 := Have.get (k := 3) hn rfl
          have e4 : u 4 = .int .i64 0 := Have.get (k := 4) hn rfl
          simp only [e3, e4] at hK
          have HK := Lib.hid hK
          clear hK hn
          go_simp
          have h9 := HK.out
          revert h9
          clear HK
          go_simp
          try exact id
        refine StepsL.cons ?_ ?_
        · refine FreeStep.val [] _ rfl rfl fun u β W hW hn fr hfr K hK => ?_
          simp only [frameL, putL, Act.put, List.setIfInBounds_toArray, List.set_cons_zero, List.set_cons_succ, Nat.zero_add, Nat.reduceAdd] at hfr
          subst hfr
          have e5 : u 5 = .pointer (some ⟨g0, 0, none⟩) := Have.get (k := 5) hn rfl
          simp only [e5] at hK
          have c0 := cellL HC.out.2.1 hW
          have HK := Lib.hid hK
          clear hK hn
          go_simp
          have h9 := HK.out
          revert h9
          clear HK
          go_simp
          try exact id
        refine StepsL.cons ?_ ?_
        · refine FreeStep.val [] _ rfl rfl fun u β W hW hn fr hfr K hK => ?_
          simp only [frameL, putL, Act.put, List.setIfInBounds_toArray, List.set_cons_zero, List.set_cons_succ, Nat.zero_add, Nat.reduceAdd] at hfr
          subst hfr
          have c0 := cellL HC.out.2.2.1 hW
          have HK := Lib.hid hK
          clear hK hn
          go_simp
          have h9 := HK.out
          revert h9
          clear HK
          go_simp
          try exact id
        refine StepsL.cons ?_ ?_
        · refine FreeStep.calm [] _ rfl rfl fun u β W hW hn fr hfr K hK => ?_
          simp only [frameL, putL, Act.put, List.setIfInBounds_toArray, List.set_cons_zero, List.set_cons_succ, Nat.zero_add, Nat.reduceAdd] at hfr
          subst hfr
          have e7 : u 7 = .int .u8 5 := Have.get (k := 7) hn rfl
          simp only [e7] at hK
          have HK := Lib.hid hK
          clear hK hn
          go_simp
          refine (kind_5 _).mono ?_
          rintro e w1 ⟨rfl, rfl⟩
          have h9 := HK.out _ (Below.refl _ _)
          revert h9
          clear HK
          go_simp
          try exact id
        refine StepsL.cons ?_ ?_
        · refine FreeStep.val [] _ rfl rfl fun u β W hW hn fr hfr K hK => ?_
          simp only [frameL, putL, Act.put, List.setIfInBounds_toArray, List.set_cons_zero, List.set_cons_succ, Nat.zero_add, Nat.reduceAdd] at hfr
          subst hfr
          have c0 := cellL HC.out.2.2.2.1 hW
          have HK := Lib.hid hK
          clear hK hn
          go_simp
          have h9 := HK.out
          revert h9
          clear HK
          go_simp
          try exact id
        refine StepsL.cons ?_ ?_
        · refine FreeStep.val [] _ rfl rfl fun u β W hW hn fr hfr K hK => ?_
          simp only [frameL, putL, Act.put, List.setIfInBounds_toArray, List.set_cons_zero, List.set_cons_succ, Nat.zero_add, Nat.reduceAdd] at hfr
          subst hfr
          have e6 : u 6 = .slice (some ⟨g1, 0, none⟩) 2 k1 := Have.get (k := 6) hn rfl
          have e8 : u 8 = .int .i64 1 := Have.get (k := 8) hn rfl
          simp only [e6, e8] at hK
          have HK := Lib.hid hK
          clear hK hn
          go_simp
          have h9 := HK.out
          revert h9
          clear HK
          go_simp
          try exact id
        refine StepsL.cons ?_ ?_
        · refine FreeStep.val [] _ rfl rfl fun u β W hW hn fr hfr K hK => ?_
          simp only [frameL, putL, Act.put, List.setIfInBounds_toArray, List.set_cons_zero, List.set_cons_succ, Nat.zero_add, Nat.reduceAdd] at hfr
          subst hfr
          have e10 : u 10 = .pointer (some ⟨g1, 2, none⟩) := Have.get (k := 10) hn rfl
          simp only [e10] at hK
          have HK := Lib.hid hK
          clear hK hn
          go_simp
          have h9 := HK.out
          revert h9
          clear HK
          go_simp
          try exact id
        intro u β W9 hW hn hdis hbnd fr hfr K hK
        simp only [frameL, putL, Act.put, List.setIfInBounds_toArray, List.set_cons_zero, List.set_cons_succ, Nat.zero_add, Nat.reduceAdd] at hfr
        subst hfr
        have e9 : u 9 = .string out := Have.get (k := 9) hn rfl
        have e11 : u 11 = .pointer (some ⟨g1, 3, none⟩) := Have.get (k := 11) hn rfl
        have HK := Lib.hid hK
        clear hn hdis hbnd hK
        have c0 := cellL HC.out.2.2.2.2.1 hW
        have z0 := HC.out.2.2.2.2.2.1 W9 hW
        have l0 : g1 < W9.heap.size := Nat.lt_of_lt_of_le HC.out.2.2.2.2.2.2 hW.size
        have HP := Lib.hid (HP9.out W9 hW)
        clear hW HC HP9
        go_simp
        refine HK.out _ _ ?_
        clear HK
        generalize u 0 = s0 at *
        generalize u 1 = s1 at *
        generalize u 2 = s2 at *
        generalize u 3 = s3 at *
        generalize u 4 = s4 at *
        generalize u 5 = s5 at *
        generalize u 6 = s6 at *
        generalize u 7 = s7 at *
        generalize u 8 = s8 at *
        generalize u 9 = s9 at *
        generalize u 10 = s10 at *
        generalize u 11 = s11 at *
        go_wp2
        go_roundw
        case rel => exact .inr ⟨by go_num, HP.out⟩
        case measure => simp [intOf]
    · go_wp2
      go_end0
      exact ⟨rfl, hA2, hB2⟩
set_option maxHeartbeats 12800000 in
set_option maxRecDepth 100000 in
theorem opt_putting_0 (w : World) (S O : Nat) (mark : Int) (c : Rw) (p0 p1 : OpT) (hcl : c.call.length = 1) (hc0 : c.call[0]? = some [p0, p1]) (hS : w.cell? ⟨S, 0, none⟩ = some (.int .u8 0)) (hO : w.cell? ⟨O, 0, none⟩ = some (.int .i64 mark)) :
    OptC w 101 #[.pointer (some ⟨O, 0, none⟩), .pointer (some ⟨S, 0, none⟩)] c { c with call := c.call.set 0 ([p0, p1].set 0 (p0.1, mark, p0.2.2)) } := by
  intro W base b b1 b2 b3 hbase hW h
  obtain ⟨g0, k0, g1, k1, hc0', hc1', hc2', hfz, ⟨hb', hg0, hg1⟩, hput⟩ := h.at_call (o := 1) (j := 0) (q := 1) hc0 rfl rfl rfl
  rw [hcl] at hc0'
  have HPut := Lib.hid (fun W' hW' => hput W' hW' (p0.1, mark, p0.2.2) (.int .i64 mark) rfl)
  have HC := Lib.hid (And.intro hc0' (And.intro hc1' (And.intro (cellL hS hW) (And.intro (cellL hO hW) (And.intro hc2' (And.intro hfz hg1))))))
  have lS : S < W.heap.size := World.block_lt_of_cell? _ _ (cellL hS hW)
  have lO : O < W.heap.size := World.block_lt_of_cell? _ _ (cellL hO hW)
  have hbc := hc0'
  obtain ⟨d9, hd9⟩ : ∃ d, d = { c with call := c.call.set 0 ([p0, p1].set 0 (p0.1, mark, p0.2.2)) } := ⟨_, rfl⟩
  have HP9 : Hid (∀ W', Below W.heap.size W W' → RwAt base (W'.setCell ⟨g1, 1, none⟩ (.int .i64 mark)) b d9 b1 b2 b3 ∧ Below base W (W'.setCell ⟨g1, 1, none⟩ (.int .i64 mark))) := by rw [hd9]; exact HPut.out
  rw [← hd9]
  clear hd9 HPut hput hc0' hc1' hc2' hfz hS hO hW h hbase hcl hc0
  go_enter Try.func101, Try.ntmps101
  go_upto_region 1 with fail
  clear hbc
  go_loopw [11] (fun i wr => (i = .int .i64 0 ∧ wr = W) ∨ (i = .int .i64 1 ∧ RwAt base wr b d9 b1 b2 b3 ∧ Below base W wr)) (fun i _ => 1 - (intOf i).toNat)
  case atStart => exact .inl ⟨rfl, rfl⟩
  case round =>
    rcases hrel with ⟨rfl, hwr⟩ | ⟨rfl, hA2, hB2⟩
    · subst hwr
      have cS := HC.out.2.1
      go_upto_region 3 with fail
      refine wp_region_free_last (by kernel_rfl) [
          .val [] (fun _ => .slice (some ⟨g1, 0, none⟩) 2 k1),
          .val [] (fun _ => .int .u8 0),
          .val [] (fun _ => .int .i64 0),
          .val [] (fun _ => .int .i64 mark),
          .val [] (fun _ => .pointer (some ⟨g1, 0, none⟩)),
          .val [] (fun _ => .pointer (some ⟨g1, 1, none⟩))] ?hp ?hfw ?deps ?oks ?hl ?hpos ?steps
      case hp => kernel_rfl
      case hfw => kernel_rfl
      case deps => kernel_rfl
      case hl => kernel_rfl
      case hpos => kernel_rfl
      case oks =>
        intro F hF
        simp only [List.mem_cons, List.not_mem_nil, or_false] at hF
        rcases hF with rfl | rfl | rfl | rfl | rfl | rfl
        all_goals trivial
      case steps =>
        refine StepsL.cons ?_ ?_
        · refine FreeStep.val [] _ rfl rfl fun u β W hW hn fr hfr K hK => ?_
          simp only [frameL, putL, Act.put, List.setIfInBounds_toArray, List.set_cons_zero, List.set_cons_succ, Nat.zero_add, Nat.reduceAdd] at hfr
          subst hfr
          have HK := Lib.hid hK
          clear hK hn
          go_simp
          have h9 := HK.out
          revert h9
          clear HK
          go_simp
          try exact id
        refine StepsL.cons ?_ ?_
        · refine FreeStep.val [] _ rfl rfl fun u β W hW hn fr hfr K hK => ?_
          simp only [frameL, putL, Act.put, List.setIfInBounds_toArray, List.set_cons_zero, List.set_cons_succ, Nat.zero_add, Nat.reduceAdd] at hfr
          subst hfr
          have c0 := cellL HC.out.2.2.1 hW
          have HK := Lib.hid hK
          clear hK hn
          go_simp
          have h9 := HK.out
          revert h9
          clear HK
          go_simp
          try exact id
        refine StepsL.cons ?_ ?_
        · refine FreeStep.calm [] _ rfl rfl fun u β W hW hn fr hfr K hK => ?_
          simp only [frameL, putL, Act.put, List.setIfInBounds_toArray, List.set_cons_zero, List.set_cons_succ, Nat.zero_add, Nat.reduceAdd] at hfr
          subst hfr
          have e1 : u 1 = .int .u8 0 := Have.get (k := 1) hn rfl
          simp only [e1] at hK
          have HK := Lib.hid hK
          clear hK hn
          go_simp
          refine (kind_0 _).mono ?_
          rintro e w1 ⟨rfl, rfl⟩
          have h9 := HK.out _ (Below.refl _ _)
          revert h9
          clear HK
          go_simp
          try exact id
        refine StepsL.cons ?_ ?_
        · refine FreeStep.val [] _ rfl rfl fun u β W hW hn fr hfr K hK => ?_
          simp only [frameL, putL, Act.put, List.setIfInBounds_toArray, List.set_cons_zero, List.set_cons_succ, Nat.zero_add, Nat.reduceAdd] at hfr
          subst hfr
          have c0 := cellL HC.out.2.2.2.1 hW
          have HK := Lib.hid hK
          clear hK hn
          go_simp
          have h9 := HK.out
          revert h9
          clear HK
          go_simp
          try exact id
        refine StepsL.cons ?_ ?_
        · refine FreeStep.val [] _ rfl rfl fun u β W hW hn fr hfr K hK => ?_
          simp only [frameL, putL, Act.put, List.setIfInBounds_toArray, List.set_cons_zero, List.set_cons_succ, Nat.zero_add, Nat.reduceAdd] at hfr
          subst hfr
          have e0 : u 0 = .slice (some ⟨g1, 0, none⟩) 2 k1 := Have.get (k := 0) hn rfl
          have e2 : u 2 = .int .i64 0 := Have.get (k := 2) hn rfl
          simp only [e0, e2] at hK
          have HK := Lib.hid hK
          clear hK hn
          go_simp
          have h9 := HK.out
          revert h9
          clear HK
          go_simp
          try exact id
        refine StepsL.cons ?_ ?_
        · refine FreeStep.val [] _ rfl rfl fun u β W hW hn fr hfr K hK => ?_
          simp only [frameL, putL, Act.put, List.setIfInBounds_toArray, List.set_cons_zero, List.set_cons_succ, Nat.zero_add, Nat.reduceAdd] at hfr
          subst hfr
          have e4 : u 4 = .pointer (some ⟨g1, 0, none⟩) := Have.get (k := 4) hn rfl
          simp only [e4] at hK
          have HK := Lib.hid hK
          clear hK hn
          go_simp
          have h9 := HK.out
          revert h9
          clear HK
          go_simp
          try exact id
        intro u β W9 hW hn hdis hbnd fr hfr K hK
        simp only [frameL, putL, Act.put, List.setIfInBounds_toArray, List.set_cons_zero, List.set_cons_succ, Nat.zero_add, Nat.reduceAdd] at hfr
        subst hfr
        have e3 : u 3 = .int .i64 mark := Have.get (k := 3) hn rfl
        have e5 : u 5 = .pointer (some ⟨g1, 1, none⟩) := Have.get (k := 5) hn rfl
        have HK := Lib.hid hK
        clear hn hdis hbnd hK
        have c0 := cellL HC.out.2.2.2.2.1 hW
        have z0 := HC.out.2.2.2.2.2.1 W9 hW
        have l0 : g1 < W9.heap.size := Nat.lt_of_lt_of_le HC.out.2.2.2.2.2.2 hW.size
        have HP := Lib.hid (HP9.out W9 hW)
        clear hW HC HP9
        go_simp
        refine HK.out _ _ ?_
        clear HK
        generalize u 0 = s0 at *
        generalize u 1 = s1 at *
        generalize u 2 = s2 at *
        generalize u 3 = s3 at *
        generalize u 4 = s4 at *
        generalize u 5 = s5 at *
        go_wp2
        go_roundw
        case rel => exact .inr ⟨by go_num, HP.out⟩
        case measure => simp [intOf]
    · go_wp2
      go_end0
      exact ⟨rfl, hA2, hB2⟩
set_option maxHeartbeats 12800000 in
set_option maxRecDepth 100000 in
theorem opt_putting_1 (w : World) (S O : Nat) (mark : Int) (c : Rw) (p0 p1 : OpT) (hcl : c.call.length = 1) (hc0 : c.call[0]? = some [p0, p1]) (hS : w.cell? ⟨S, 0, none⟩ = some (.int .u8 1)) (hO : w.cell? ⟨O, 0, none⟩ = some (.int .i64 mark)) :
    OptC w 101 #[.pointer (some ⟨O, 0, none⟩), .pointer (some ⟨S, 0, none⟩)] c { c with call := c.call.set 0 ([p0, p1].set 1 (p1.1, mark, p1.2.2)) } := by
  intro W base b b1 b2 b3 hbase hW h
  obtain ⟨g0, k0, g1, k1, hc0', hc1', hc2', hfz, ⟨hb', hg0, hg1⟩, hput⟩ := h.at_call (o := 4) (j := 1) (q := 1) hc0 rfl rfl rfl
  rw [hcl] at hc0'
  have HPut := Lib.hid (fun W' hW' => hput W' hW' (p1.1, mark, p1.2.2) (.int .i64 mark) rfl)
  have HC := Lib.hid (And.intro hc0' (And.intro hc1' (And.intro (cellL hS hW) (And.intro (cellL hO hW) (And.intro hc2' (And.intro hfz hg1))))))
  have lS : S < W.heap.size := World.block_lt_of_cell? _ _ (cellL hS hW)
  have lO : O < W.heap.size := World.block_lt_of_cell? _ _ (cellL hO hW)
  have hbc := hc0'
  obtain ⟨d9, hd9⟩ : ∃ d, d = { c with call := c.call.set 0 ([p0, p1].set 1 (p1.1, mark, p1.2.2)) } := ⟨_, rfl⟩
  have HP9 : Hid (∀ W', Below W.heap.size W W' → RwAt base (W'.setCell ⟨g1, 4, none⟩ (.int .i64 mark)) b d9 b1 b2 b3 ∧ Below base W (W'.setCell ⟨g1, 4, none⟩ (.int .i64 mark))) := by rw [hd9]; exact HPut.out
  rw [← hd9]
  clear hd9 HPut hput hc0' hc1' hc2' hfz hS hO hW h hbase hcl hc0
  go_enter Try.func101, Try.ntmps101
  go_upto_region 1 with fail
  clear hbc
  go_loopw [11] (fun i wr => (i = .int .i64 0 ∧ wr = W) ∨ (i = .int .i64 1 ∧ RwAt base wr b d9 b1 b2 b3 ∧ Below base W wr)) (fun i _ => 1 - (intOf i).toNat)
  case atStart => exact .inl ⟨rfl, rfl⟩
  case round =>
    rcases hrel with ⟨rfl, hwr⟩ | ⟨rfl, hA2, hB2⟩
    · subst hwr
      have cS := HC.out.2.1
      go_upto_region 3 with fail
      refine wp_region_free_last (by kernel_rfl) [
          .val [] (fun _ => .slice (some ⟨g1, 0, none⟩) 2 k1),
          .val [] (fun _ => .int .u8 1),
          .val [] (fun _ => .int .i64 1),
          .val [] (fun _ => .int .i64 mark),
          .val [] (fun _ => .pointer (some ⟨g1, 3, none⟩)),
          .val [] (fun _ => .pointer (some ⟨g1, 4, none⟩))] ?hp ?hfw ?deps ?oks ?hl ?hpos ?steps
      case hp => kernel_rfl
      case hfw => kernel_rfl
      case deps => kernel_rfl
      case hl => kernel_rfl
      case hpos => kernel_rfl
      case oks =>
        intro F hF
        simp only [List.mem_cons, List.not_mem_nil, or_false] at hF
        rcases hF with rfl | rfl | rfl | rfl | rfl | rfl
        all_goals trivial
      case steps =>
        refine StepsL.cons ?_ ?_
        · refine FreeStep.val [] _ rfl rfl fun u β W hW hn fr hfr K hK => ?_
          simp only [frameL, putL, Act.put, List.setIfInBounds_toArray, List.set_cons_zero, List.set_cons_succ, Nat.zero_add, Nat.reduceAdd] at hfr
          subst hfr
          have HK := Lib.hid hK
          clear hK hn
          go_simp
          have h9 := HK.out
          revert h9
          clear HK
          go_simp
          try exact id
        refine StepsL.cons ?_ ?_
        · refine FreeStep.val [] _ rfl rfl fun u β W hW hn fr hfr K hK => ?_
          simp only [frameL, putL, Act.put, List.setIfInBounds_toArray, List.set_cons_zero, List.set_cons_succ, Nat.zero_add, Nat.reduceAdd] at hfr
          subst hfr
          have c0 := cellL HC.out.2.2.1 hW
          have HK := Lib.hid hK
          clear hK hn
          go_simp
          have h9 := HK.out
          revert h9
          clear HK
          go_simp
          try exact id
        refine StepsL.cons ?_ ?_
        · refine FreeStep.calm [] _ rfl rfl fun u β W hW hn fr hfr K hK => ?_
          simp only [frameL, putL, Act.put, List.setIfInBounds_toArray, List.set_cons_zero, List.set_cons_succ, Nat.zero_add, Nat.reduceAdd] at hfr
          subst hfr
          have e1 : u 1 = .int .u8 1 := Have.get (k := 1) hn rfl
          simp only [e1] at hK
          have HK := Lib.hid hK
          clear hK hn
          go_simp
          refine (kind_1 _).mono ?_
          rintro e w1 ⟨rfl, rfl⟩
          have h9 := HK.out _ (Below.refl _ _)
          revert h9
          clear HK
          go_simp
          try exact id
        refine StepsL.cons ?_ ?_
        · refine FreeStep.val [] _ rfl rfl fun u β W hW hn fr hfr K hK => ?_
          simp only [frameL, putL, Act.put, List.setIfInBounds_toArray, List.set_cons_zero, List.set_cons_succ, Nat.zero_add, Nat.reduceAdd] at hfr
          subst hfr
          have c0 := cellL HC.out.2.2.2.1 hW
          have HK := Lib.hid hK
          clear hK hn
          go_simp
          have h9 := HK.out
          revert h9
          clear HK
          go_simp
          try exact id
        refine StepsL.cons ?_ ?_
        · refine FreeStep.val [] _ rfl rfl fun u β W hW hn fr hfr K hK => ?_
          simp only [frameL, putL, Act.put, List.setIfInBounds_toArray, List.set_cons_zero, List.set_cons_succ, Nat.zero_add, Nat.reduceAdd] at hfr
          subst hfr
          have e0 : u 0 = .slice (some ⟨g1, 0, none⟩) 2 k1 := Have.get (k := 0) hn rfl
          have e2 : u 2 = .int .i64 1 := Have.get (k := 2) hn rfl
          simp only [e0, e2] at hK
          have HK := Lib.hid hK
          clear hK hn
          go_simp
          have h9 := HK.out
          revert h9
          clear HK
          go_simp
          try exact id
        refine StepsL.cons ?_ ?_
        · refine FreeStep.val [] _ rfl rfl fun u β W hW hn fr hfr K hK => ?_
          simp only [frameL, putL, Act.put, List.setIfInBounds_toArray, List.set_cons_zero, List.set_cons_succ, Nat.zero_add, Nat.reduceAdd] at hfr
          subst hfr
          have e4 : u 4 = .pointer (some ⟨g1, 3, none⟩) := Have.get (k := 4) hn rfl
          simp only [e4] at hK
          have HK := Lib.hid hK
          clear hK hn
          go_simp
          have h9 := HK.out
          revert h9
          clear HK
          go_simp
          try exact id
        intro u β W9 hW hn hdis hbnd fr hfr K hK
        simp only [frameL, putL, Act.put, List.setIfInBounds_toArray, List.set_cons_zero, List.set_cons_succ, Nat.zero_add, Nat.reduceAdd] at hfr
        subst hfr
        have e3 : u 3 = .int .i64 mark := Have.get (k := 3) hn rfl
        have e5 : u 5 = .pointer (some ⟨g1, 4, none⟩) := Have.get (k := 5) hn rfl
        have HK := Lib.hid hK
        clear hn hdis hbnd hK
        have c0 := cellL HC.out.2.2.2.2.1 hW
        have z0 := HC.out.2.2.2.2.2.1 W9 hW
        have l0 : g1 < W9.heap.size := Nat.lt_of_lt_of_le HC.out.2.2.2.2.2.2 hW.size
        have HP := Lib.hid (HP9.out W9 hW)
        clear hW HC HP9
        go_simp
        refine HK.out _ _ ?_
        clear HK
        generalize u 0 = s0 at *
        generalize u 1 = s1 at *
        generalize u 2 = s2 at *
        generalize u 3 = s3 at *
        generalize u 4 = s4 at *
        generalize u 5 = s5 at *
        go_wp2
        go_roundw
        case rel => exact .inr ⟨by go_num, HP.out⟩
        case measure => simp [intOf]
    · go_wp2
      go_end0
      exact ⟨rfl, hA2, hB2⟩
set_option maxHeartbeats 12800000 in
set_option maxRecDepth 100000 in
theorem opt_writing_2 (w : World) (S O L : Nat) (out : ByteArray) (c : Rw) (r0 r1 : List OmT) (hcl : c.ret.length = 1) (hlc : c.call.length = 1) (hc0 : c.ret[0]? = some [r0, r1]) (hL : r0.length = L) (hL1 : 1 ≤ L ∧ L ≤ 10) (hS : w.cell? ⟨S, 0, none⟩ = some (.int .u8 2)) (hO : w.cell? ⟨O, 0, none⟩ = some (.string out)) :
    OptC w 105 #[.pointer (some ⟨S, 0, none⟩), .pointer (some ⟨O, 0, none⟩)] c { c with ret := c.ret.set 0 ([r0, r1].set 0 (r0.map fun x : OmT => (x.1, out))) } := by
  intro W base b b1 b2 b3 hbase hW h
  obtain ⟨g0, k0, g1, k1, cs, hcb, hcg0, hE2, ⟨hbl, hg0, hg1⟩, hput⟩ := h.lists_ret hc0 rfl
  obtain ⟨g1', c1', u, ds, e1, hcg1, hE, _, hback⟩ := ManyE.at_ hE2 (om_ok _) (j := 0) rfl
  simp only [Value.slice.injEq, Option.some.injEq, Addr.mk.injEq, and_true] at e1
  obtain ⟨rfl, _, rfl⟩ := e1
  obtain ⟨A2, k2, rfl⟩ := RowE.slice hE
  obtain ⟨g2, rfl, hg2, _⟩ := RowE.head hE (j := 0) (by omega)
  rw [hcl] at hcb
  rw [hL] at hcg1 hE
  obtain ⟨v0, v1, v2, xb, f0, f1, f2⟩ := h.ex
  obtain ⟨A0, ka0, rfl⟩ := ManyE.slice f0
  rw [hlc] at xb
  have hbc := xb.cell 2 _ rfl
  obtain ⟨r, hr⟩ : ∃ r, r = r0 := ⟨_, rfl⟩
  have Hcl := Lib.hid (fun (W' : World) (hT : Turned ds W W') (hE' : OmE base W' (.slice (some ⟨g2, 0, none⟩) L k2) (r.map fun x : OmT => (x.1, out)) ds) => have hE3 : OmE base W' (.slice (some ⟨g2, 0, none⟩) r0.length k2) (r.map fun x : OmT => (x.1, out)) ds := (by rw [hL]; exact hE'); hput W' _ (hback W' (r.map fun x : OmT => (x.1, out)) hT hE3).2 (hback W' (r.map fun x : OmT => (x.1, out)) hT hE3).1)
  rw [← hr] at hE hL Hcl ⊢
  have HE := Lib.hid hE
  have HC := Lib.hid (And.intro hcb (And.intro hcg0 (And.intro (cellL hS hW) (And.intro (cellL hO hW) hcg1))))
  have lS : S < W.heap.size := World.block_lt_of_cell? _ _ (cellL hS hW)
  have lO : O < W.heap.size := World.block_lt_of_cell? _ _ (cellL hO hW)
  have lOb : O < base := Nat.lt_of_lt_of_le (World.block_lt_of_cell? _ _ hO : (⟨O, 0, none⟩ : Addr).block < w.heap.size) hbase
  obtain ⟨d9, hd9⟩ : ∃ d, d = { c with ret := c.ret.set 0 ([r, r1].set 0 (r.map fun x : OmT => (x.1, out))) } := ⟨_, rfl⟩
  have HP9 : Hid (∀ W', Turned ds W W' → OmE base W' (.slice (some ⟨g2, 0, none⟩) L k2) (r.map fun x : OmT => (x.1, out)) ds → RwAt base W' b d9 b1 b2 b3 ∧ Below base W W') := by rw [hd9]; exact Hcl.out
  rw [← hd9]
  have Hlen := Lib.hid hL
  clear hd9 Hcl hput hcb hcg0 hcg1 hS hO hW h hbase hcl hlc hc0 xb f0 f1 f2 hE hE2 hback hr hL
  go_enter Try.func105, Try.ntmps105
  go_upto_region 1 with fail
  clear hbc
  go_loopw [12] (fun i wr => (i = .int .i64 0 ∧ wr = W) ∨ (i = .int .i64 1 ∧ RwAt base wr b d9 b1 b2 b3 ∧ Below base W wr)) (fun i _ => 1 - (intOf i).toNat)
  case atStart => exact .inl ⟨rfl, rfl⟩
  case round =>
    rcases hrel with ⟨rfl, hwr⟩ | ⟨rfl, hA2, hB2⟩
    · replace hwr := hwr.symm
      subst hwr
      have cS := HC.out.2.2.1
      go_upto_region 7 with (first | (go_at_call 106; refine (impl_isCall _ _).mono ?_; rintro e w' ⟨rfl, rfl⟩) | (go_at_call 107; refine (impl_isReturn _ _ (by decide)).mono ?_; rintro e w' ⟨rfl, rfl⟩))
      refine wp_region_free (by kernel_rfl) [
          .val [] (fun _ => .pointer (some ⟨b, 0, none⟩)),
          .val [] (fun _ => .pointer (some ⟨b, 0, none⟩)),
          .val [] (fun _ => .pointer (some ⟨b, 3, none⟩)),
          .val [] (fun _ => .slice (some ⟨g0, 0, none⟩) 1 k0),
          .val [] (fun _ => .int .i64 0),
          .val [] (fun _ => .pointer (some ⟨g0, 0, none⟩)),
          .val [] (fun _ => .slice (some ⟨g1, 0, none⟩) 2 k1),
          .val [] (fun _ => .int .u8 2),
          .val [] (fun _ => .int .i64 0),
          .val [] (fun _ => .pointer (some ⟨g1, 0, none⟩)),
          .val [] (fun _ => .slice (some ⟨g2, 0, none⟩) L k2),
          .val [] (fun _ => .slice (some ⟨g2, 0, none⟩) L k2)] ?hp ?hfw ?deps ?oks ?steps ?tail
      case hp => kernel_rfl
      case hfw => kernel_rfl
      case deps => kernel_rfl
      case oks =>
        intro F hF
        simp only [List.mem_cons, List.not_mem_nil, or_false] at hF
        rcases hF with rfl | rfl | rfl | rfl | rfl | rfl | rfl | rfl | rfl | rfl | rfl | rfl
        all_goals trivial
      case steps =>
        refine Steps.cons ?_ ?_
        · refine FreeStep.val [] _ rfl rfl fun u β W hW hn fr hfr K hK => ?_
          simp only [frameL, putL, Act.put, List.setIfInBounds_toArray, List.set_cons_zero, List.set_cons_succ, Nat.zero_add, Nat.reduceAdd] at hfr
          subst hfr
          have HK := Lib.hid hK
          clear hK hn
          go_simp
          have h9 := HK.out
          revert h9
          clear HK
          go_simp
          try exact id
        refine Steps.cons ?_ ?_
        · refine FreeStep.val [] _ rfl rfl fun u β W hW hn fr hfr K hK => ?_
          simp only [frameL, putL, Act.put, List.setIfInBounds_toArray, List.set_cons_zero, List.set_cons_succ, Nat.zero_add, Nat.reduceAdd] at hfr
          subst hfr
          have e0 : u 0 = .pointer (some ⟨b, 0, none⟩) := Have.get (k := 0) hn rfl
          simp only [e0] at hK
          have HK := Lib.hid hK
          clear hK hn
          go_simp
          have h9 := HK.out
          revert h9
          clear HK
          go_simp
          try exact id
        refine Steps.cons ?_ ?_
        · refine FreeStep.val [] _ rfl rfl fun u β W hW hn fr hfr K hK => ?_
          simp only [frameL, putL, Act.put, List.setIfInBounds_toArray, List.set_cons_zero, List.set_cons_succ, Nat.zero_add, Nat.reduceAdd] at hfr
          subst hfr
          have e1 : u 1 = .pointer (some ⟨b, 0, none⟩) := Have.get (k := 1) hn rfl
          simp only [e1] at hK
          have HK := Lib.hid hK
          clear hK hn
          go_simp
          have h9 := HK.out
          revert h9
          clear HK
          go_simp
          try exact id
        refine Steps.cons ?_ ?_
        · refine FreeStep.val [] _ rfl rfl fun u β W hW hn fr hfr K hK => ?_
          simp only [frameL, putL, Act.put, List.setIfInBounds_toArray, List.set_cons_zero, List.set_cons_succ, Nat.zero_add, Nat.reduceAdd] at hfr
          subst hfr
          have e2 : u 2 = .pointer (some ⟨b, 3, none⟩) := Have.get (k := 2) hn rfl
          simp only [e2] at hK
          have c0 := cellL HC.out.1 hW
          have HK := Lib.hid hK
          clear hK hn
          go_simp
          have h9 := HK.out
          revert h9
          clear HK
          go_simp
          try exact id
        refine Steps.cons ?_ ?_
        · refine FreeStep.val [] _ rfl rfl fun u β W hW hn fr hfr K hK => ?_
          simp only [frameL, putL, Act.put, List.setIfInBounds_toArray, List.set_cons_zero, List.set_cons_succ, Nat.zero_add, Nat.reduceAdd] at hfr
          subst hfr
          have HK := Lib.hid hK
          clear hK hn
          go_simp
          have h9 := HK.out
          revert h9
          clear HK
          go_simp
          try exact id
        refine Steps.cons ?_ ?_
        · refine FreeStep.val [] _ rfl rfl fun u β W hW hn fr hfr K hK => ?_
          simp only [frameL, putL, Act.put, List.setIfInBounds_toArray, List.set_cons_zero, List.set_cons_succ, Nat.zero_add, Nat.reduceAdd] at hfr
          subst hfr
          have e3 : u 3 = .slice (some ⟨g0, 0, none⟩) 1 k0 := Have.get (k := 3) hn rfl
          have e4 : u 4 = .int .i64 0 := Have.get (k := 4) hn rfl
          simp only [e3, e4] at hK
          have HK := Lib.hid hK
          clear hK hn
          go_simp
          have h9 := HK.out
          revert h9
          clear HK
          go_simp
          try exact id
        refine Steps.cons ?_ ?_
        · refine FreeStep.val [] _ rfl rfl fun u β W hW hn fr hfr K hK => ?_
          simp only [frameL, putL, Act.put, List.setIfInBounds_toArray, List.set_cons_zero, List.set_cons_succ, Nat.zero_add, Nat.reduceAdd] at hfr
          subst hfr
          have e5 : u 5 = .pointer (some ⟨g0, 0, none⟩) := Have.get (k := 5) hn rfl
          simp only [e5] at hK
          have c0 := cellL HC.out.2.1 hW
          have HK := Lib.hid hK
          clear hK hn
          go_simp
          have h9 := HK.out
          revert h9
          clear HK
          go_simp
          try exact id
        refine Steps.cons ?_ ?_
        · refine FreeStep.val [] _ rfl rfl fun u β W hW hn fr hfr K hK => ?_
          simp only [frameL, putL, Act.put, List.setIfInBounds_toArray, List.set_cons_zero, List.set_cons_succ, Nat.zero_add, Nat.reduceAdd] at hfr
          subst hfr
          have c0 := cellL HC.out.2.2.1 hW
          have HK := Lib.hid hK
          clear hK hn
          go_simp
          have h9 := HK.out
          revert h9
          clear HK
          go_simp
          try exact id
        refine Steps.cons ?_ ?_
        · refine FreeStep.calm [] _ rfl rfl fun u β W hW hn fr hfr K hK => ?_
          simp only [frameL, putL, Act.put, List.setIfInBounds_toArray, List.set_cons_zero, List.set_cons_succ, Nat.zero_add, Nat.reduceAdd] at hfr
          subst hfr
          have e7 : u 7 = .int .u8 2 := Have.get (k := 7) hn rfl
          simp only [e7] at hK
          have HK := Lib.hid hK
          clear hK hn
          go_simp
          refine (kind_2 _).mono ?_
          rintro e w1 ⟨rfl, rfl⟩
          have h9 := HK.out _ (Below.refl _ _)
          revert h9
          clear HK
          go_simp
          try exact id
        refine Steps.cons ?_ ?_
        · refine FreeStep.val [] _ rfl rfl fun u β W hW hn fr hfr K hK => ?_
          simp only [frameL, putL, Act.put, List.setIfInBounds_toArray, List.set_cons_zero, List.set_cons_succ, Nat.zero_add, Nat.reduceAdd] at hfr
          subst hfr
          have e6 : u 6 = .slice (some ⟨g1, 0, none⟩) 2 k1 := Have.get (k := 6) hn rfl
          have e8 : u 8 = .int .i64 0 := Have.get (k := 8) hn rfl
          simp only [e6, e8] at hK
          have HK := Lib.hid hK
          clear hK hn
          go_simp
          have h9 := HK.out
          revert h9
          clear HK
          go_simp
          try exact id
        refine Steps.cons ?_ ?_
        · refine FreeStep.val [] _ rfl rfl fun u β W hW hn fr hfr K hK => ?_
          simp only [frameL, putL, Act.put, List.setIfInBounds_toArray, List.set_cons_zero, List.set_cons_succ, Nat.zero_add, Nat.reduceAdd] at hfr
          subst hfr
          have e9 : u 9 = .pointer (some ⟨g1, 0, none⟩) := Have.get (k := 9) hn rfl
          simp only [e9] at hK
          have c0 := cellL HC.out.2.2.2.2 hW
          have HK := Lib.hid hK
          clear hK hn
          go_simp
          have h9 := HK.out
          revert h9
          clear HK
          go_simp
          try exact id
        refine Steps.cons ?_ ?_
        · refine FreeStep.val [] _ rfl rfl fun u β W hW hn fr hfr K hK => ?_
          simp only [frameL, putL, Act.put, List.setIfInBounds_toArray, List.set_cons_zero, List.set_cons_succ, Nat.zero_add, Nat.reduceAdd] at hfr
          subst hfr
          have e10 : u 10 = .slice (some ⟨g2, 0, none⟩) L k2 := Have.get (k := 10) hn rfl
          simp only [e10] at hK
          have HK := Lib.hid hK
          clear hK hn
          go_simp
          have h9 := HK.out
          revert h9
          clear HK
          go_simp
          try exact id
        exact Steps.nil
      case tail =>
        intro u_ β W9 hW hn hdis hbnd
        have z0 : u_ 0 = .pointer (some ⟨b, 0, none⟩) := Have.get (k := 0) hn rfl
        have z1 : u_ 1 = .pointer (some ⟨b, 0, none⟩) := Have.get (k := 1) hn rfl
        have z2 : u_ 2 = .pointer (some ⟨b, 3, none⟩) := Have.get (k := 2) hn rfl
        have z3 : u_ 3 = .slice (some ⟨g0, 0, none⟩) 1 k0 := Have.get (k := 3) hn rfl
        have z4 : u_ 4 = .int .i64 0 := Have.get (k := 4) hn rfl
        have z5 : u_ 5 = .pointer (some ⟨g0, 0, none⟩) := Have.get (k := 5) hn rfl
        have z6 : u_ 6 = .slice (some ⟨g1, 0, none⟩) 2 k1 := Have.get (k := 6) hn rfl
        have z7 : u_ 7 = .int .u8 2 := Have.get (k := 7) hn rfl
        have z8 : u_ 8 = .int .i64 0 := Have.get (k := 8) hn rfl
        have z9 : u_ 9 = .pointer (some ⟨g1, 0, none⟩) := Have.get (k := 9) hn rfl
        have z10 : u_ 10 = .slice (some ⟨g2, 0, none⟩) L k2 := Have.get (k := 10) hn rfl
        have z11 : u_ 11 = .slice (some ⟨g2, 0, none⟩) L k2 := Have.get (k := 11) hn rfl
        rw [← frameL_eq (by kernel_rfl)]
        clear hn hdis hbnd
        simp only [frameL, putL, Act.put, List.setIfInBounds_toArray, List.set_cons_zero, List.set_cons_succ, Nat.zero_add, Nat.reduceAdd, z0, z1, z2, z3, z4, z5, z6, z7, z8, z9, z10, z11]
        clear z0 z1 z2 z3 z4 z5 z6 z7 z8 z9 z10 z11
        obtain ⟨WW, rfl⟩ : ∃ y, y = W9 := ⟨_, rfl⟩
        have HW9 := Lib.hid hW
        clear hW
        go_wp2_with fail
        go_loopw [58] (fun i wr => ∃ j : Nat, j ≤ L ∧ i = .int .i64 j ∧ OmE base wr (.slice (some ⟨g2, 0, none⟩) L k2) (front (r.map fun x : OmT => (x.1, out)) r j) ds ∧ Turned ds W wr) (fun i _ => L - (intOf i).toNat)
        case atStart => exact ⟨0, Nat.zero_le _, rfl, by rw [front_zero]; exact (om_ok _).later HE.out HW9.out, Turned.of_below HW9.out⟩
        case round =>
          obtain ⟨j, hj, rfl, hE, hT⟩ := hrel
          have hml : (r.map fun x : OmT => (x.1, out)).length = r.length := by simp
          by_cases hlt : j < L
          · obtain ⟨x, hx⟩ : ∃ x, r[j]? = some x := ⟨_, List.getElem?_eq_getElem (by rw [Hlen.out]; exact hlt)⟩
            have hx2 : (front (r.map fun x : OmT => (x.1, out)) r j)[j]? = some x := by rw [front_at _ _ hml (by rw [Hlen.out]; exact hlt)]; exact hx
            have c1 := (OmE.cell' hE hx2).2
            have q1 := RowE.frozen hE (j * 2 + 1)
            have l2 := ((om_ok _).lt hE g2 (by rw [hE.2]; simp [Value.ownBlock])).2
            have cO2 : wr.cell? ⟨O, 0, none⟩ = some (.string out) := (World.cell?_of_block (w := W) (w' := wr) (a := ⟨O, 0, none⟩) (hT.block O lO (fun h => by have := ((om_ok _).lt HE.out O h).1; omega))).trans HC.out.2.2.2.1
            have hp := RowE.putc (size := 2) (enc := omV) (fun _ => rfl) hE (x.1, out) 1 (.string out) hx2 (by decide) rfl
            rw [front_set _ _ hml (by rw [List.getElem?_map, hx]; rfl)] at hp
            have HPp := Lib.hid (And.intro hp.1 (hT.trans hp.2))
            clear hE hT hx2 hx hp
            go_wp2
            go_roundw
            case rel => exact ⟨j + 1, by omega, by go_num, HPp.out⟩
            case measure => simp [intOf]; omega
          · have e : j = L := by omega
            have HF := Lib.hid (HP9.out wr hT (by
              have h2 := front_all (r.map fun x : OmT => (x.1, out)) r hml
              rw [Hlen.out] at h2
              rw [e, h2] at hE
              exact hE))
            clear hE hT e
            go_wp2
            go_roundw
            case rel => exact .inr ⟨by go_num, HF.out⟩
            case measure => simp [intOf]
    · go_wp2
      go_end0
      exact ⟨rfl, hA2, hB2⟩
set_option maxHeartbeats 12800000 in
set_option maxRecDepth 100000 in
theorem opt_writing_3 (w : World) (S O L : Nat) (out : ByteArray) (c : Rw) (r0 r1 : List OmT) (hcl : c.ret.length = 1) (hlc : c.call.length = 1) (hc0 : c.ret[0]? = some [r0, r1]) (hL : r1.length = L) (hL1 : 1 ≤ L ∧ L ≤ 10) (hS : w.cell? ⟨S, 0, none⟩ = some (.int .u8 3)) (hO : w.cell? ⟨O, 0, none⟩ = some (.string out)) :
    OptC w 105 #[.pointer (some ⟨S, 0, none⟩), .pointer (some ⟨O, 0, none⟩)] c { c with ret := c.ret.set 0 ([r0, r1].set 1 (r1.map fun x : OmT => (x.1, out))) } := by
  intro W base b b1 b2 b3 hbase hW h
  obtain ⟨g0, k0, g1, k1, cs, hcb, hcg0, hE2, ⟨hbl, hg0, hg1⟩, hput⟩ := h.lists_ret hc0 rfl
  obtain ⟨g1', c1', u, ds, e1, hcg1, hE, _, hback⟩ := ManyE.at_ hE2 (om_ok _) (j := 1) rfl
  simp only [Value.slice.injEq, Option.some.injEq, Addr.mk.injEq, and_true] at e1
  obtain ⟨rfl, _, rfl⟩ := e1
  obtain ⟨A2, k2, rfl⟩ := RowE.slice hE
  obtain ⟨g2, rfl, hg2, _⟩ := RowE.head hE (j := 0) (by omega)
  rw [hcl] at hcb
  rw [hL] at hcg1 hE
  obtain ⟨v0, v1, v2, xb, f0, f1, f2⟩ := h.ex
  obtain ⟨A0, ka0, rfl⟩ := ManyE.slice f0
  rw [hlc] at xb
  have hbc := xb.cell 2 _ rfl
  obtain ⟨r, hr⟩ : ∃ r, r = r1 := ⟨_, rfl⟩
  have Hcl := Lib.hid (fun (W' : World) (hT : Turned ds W W') (hE' : OmE base W' (.slice (some ⟨g2, 0, none⟩) L k2) (r.map fun x : OmT => (x.1, out)) ds) => have hE3 : OmE base W' (.slice (some ⟨g2, 0, none⟩) r1.length k2) (r.map fun x : OmT => (x.1, out)) ds := (by rw [hL]; exact hE'); hput W' _ (hback W' (r.map fun x : OmT => (x.1, out)) hT hE3).2 (hback W' (r.map fun x : OmT => (x.1, out)) hT hE3).1)
  rw [← hr] at hE hL Hcl ⊢
  have HE := Lib.hid hE
  have HC := Lib.hid (And.intro hcb (And.intro hcg0 (And.intro (cellL hS hW) (And.intro (cellL hO hW) hcg1))))
  have lS : S < W.heap.size := World.block_lt_of_cell? _ _ (cellL hS hW)
  have lO : O < W.heap.size := World.block_lt_of_cell? _ _ (cellL hO hW)
  have lOb : O < base := Nat.lt_of_lt_of_le (World.block_lt_of_cell? _ _ hO : (⟨O, 0, none⟩ : Addr).block < w.heap.size) hbase
  obtain ⟨d9, hd9⟩ : ∃ d, d = { c with ret := c.ret.set 0 ([r0, r].set 1 (r.map fun x : OmT => (x.1, out))) } := ⟨_, rfl⟩
  have HP9 : Hid (∀ W', Turned ds W W' → OmE base W' (.slice (some ⟨g2, 0, none⟩) L k2) (r.map fun x : OmT => (x.1, out)) ds → RwAt base W' b d9 b1 b2 b3 ∧ Below base W W') := by rw [hd9]; exact Hcl.out
  rw [← hd9]
  have Hlen := Lib.hid hL
  clear hd9 Hcl hput hcb hcg0 hcg1 hS hO hW h hbase hcl hlc hc0 xb f0 f1 f2 hE hE2 hback hr hL
  go_enter Try.func105, Try.ntmps105
  go_upto_region 1 with fail
  clear hbc
  go_loopw [12] (fun i wr => (i = .int .i64 0 ∧ wr = W) ∨ (i = .int .i64 1 ∧ RwAt base wr b d9 b1 b2 b3 ∧ Below base W wr)) (fun i _ => 1 - (intOf i).toNat)
  case atStart => exact .inl ⟨rfl, rfl⟩
  case round =>
    rcases hrel with ⟨rfl, hwr⟩ | ⟨rfl, hA2, hB2⟩
    · replace hwr := hwr.symm
      subst hwr
      have cS := HC.out.2.2.1
      go_upto_region 7 with (first | (go_at_call 106; refine (impl_isCall _ _).mono ?_; rintro e w' ⟨rfl, rfl⟩) | (go_at_call 107; refine (impl_isReturn _ _ (by decide)).mono ?_; rintro e w' ⟨rfl, rfl⟩))
      refine wp_region_free (by kernel_rfl) [
          .val [] (fun _ => .pointer (some ⟨b, 0, none⟩)),
          .val [] (fun _ => .pointer (some ⟨b, 0, none⟩)),
          .val [] (fun _ => .pointer (some ⟨b, 3, none⟩)),
          .val [] (fun _ => .slice (some ⟨g0, 0, none⟩) 1 k0),
          .val [] (fun _ => .int .i64 0),
          .val [] (fun _ => .pointer (some ⟨g0, 0, none⟩)),
          .val [] (fun _ => .slice (some ⟨g1, 0, none⟩) 2 k1),
          .val [] (fun _ => .int .u8 3),
          .val [] (fun _ => .int .i64 1),
          .val [] (fun _ => .pointer (some ⟨g1, 1, none⟩)),
          .val [] (fun _ => .slice (some ⟨g2, 0, none⟩) L k2),
          .val [] (fun _ => .slice (some ⟨g2, 0, none⟩) L k2)] ?hp ?hfw ?deps ?oks ?steps ?tail
      case hp => kernel_rfl
      case hfw => kernel_rfl
      case deps => kernel_rfl
      case oks =>
        intro F hF
        simp only [List.mem_cons, List.not_mem_nil, or_false] at hF
        rcases hF with rfl | rfl | rfl | rfl | rfl | rfl | rfl | rfl | rfl | rfl | rfl | rfl
        all_goals trivial
      case steps =>
        refine Steps.cons ?_ ?_
        · refine FreeStep.val [] _ rfl rfl fun u β W hW hn fr hfr K hK => ?_
          simp only [frameL, putL, Act.put, List.setIfInBounds_toArray, List.set_cons_zero, List.set_cons_succ, Nat.zero_add, Nat.reduceAdd] at hfr
          subst hfr
          have HK := Lib.hid hK
          clear hK hn
          go_simp
          have h9 := HK.out
          revert h9
          clear HK
          go_simp
          try exact id
        refine Steps.cons ?_ ?_
        · refine FreeStep.val [] _ rfl rfl fun u β W hW hn fr hfr K hK => ?_
          simp only [frameL, putL, Act.put, List.setIfInBounds_toArray, List.set_cons_zero, List.set_cons_succ, Nat.zero_add, Nat.reduceAdd] at hfr
          subst hfr
          have e0 : u 0 = .pointer (some ⟨b, 0, none⟩) := Have.get (k := 0) hn rfl
          simp only [e0] at hK
          have HK := Lib.hid hK
          clear hK hn
          go_simp
          have h9 := HK.out
          revert h9
          clear HK
          go_simp
          try exact id
        refine Steps.cons ?_ ?_
        · refine FreeStep.val [] _ rfl rfl fun u β W hW hn fr hfr K hK => ?_
          simp only [frameL, putL, Act.put, List.setIfInBounds_toArray, List.set_cons_zero, List.set_cons_succ, Nat.zero_add, Nat.reduceAdd] at hfr
          subst hfr
          have e1 : u 1 = .pointer (some ⟨b, 0, none⟩) := Have.get (k := 1) hn rfl
          simp only [e1] at hK
          have HK := Lib.hid hK
          clear hK hn
          go_simp
          have h9 := HK.out
          revert h9
          clear HK
          go_simp
          try exact id
        refine Steps.cons ?_ ?_
        · refine FreeStep.val [] _ rfl rfl fun u β W hW hn fr hfr K hK => ?_
          simp only [frameL, putL, Act.put, List.setIfInBounds_toArray, List.set_cons_zero, List.set_cons_succ, Nat.zero_add, Nat.reduceAdd] at hfr
          subst hfr
          have e2 : u 2 = .pointer (some ⟨b, 3, none⟩) := Have.get (k := 2) hn rfl
          simp only [e2] at hK
          have c0 := cellL HC.out.1 hW
          have HK := Lib.hid hK
          clear hK hn
          go_simp
          have h9 := HK.out
          revert h9
          clear HK
          go_simp
          try exact id
        refine Steps.cons ?_ ?_
        · refine FreeStep.val [] _ rfl rfl fun u β W hW hn fr hfr K hK => ?_
          simp only [frameL, putL, Act.put, List.setIfInBounds_toArray, List.set_cons_zero, List.set_cons_succ, Nat.zero_add, Nat.reduceAdd] at hfr
          subst hfr
          have HK := Lib.hid hK
          clear hK hn
          go_simp
          have h9 := HK.out
          revert h9
          clear HK
          go_simp
          try exact id
        refine Steps.cons ?_ ?_
        · refine FreeStep.val [] _ rfl rfl fun u β W hW hn fr hfr K hK => ?_
          simp only [frameL, putL, Act.put, List.setIfInBounds_toArray, List.set_cons_zero, List.set_cons_succ, Nat.zero_add, Nat.reduceAdd] at hfr
          subst hfr
          have e3 : u 3 = .slice (some ⟨g0, 0, none⟩) 1 k0 := Have.get (k := 3) hn rfl
          have e4 : u 4 = .int .i64 0 := Have.get (k := 4) hn rfl
          simp only [e3, e4] at hK
          have HK := Lib.hid hK
          clear hK hn
          go_simp
          have h9 := HK.out
          revert h9
          clear HK
          go_simp
          try exact id
        refine Steps.cons ?_ ?_
        · refine FreeStep.val [] _ rfl rfl fun u β W hW hn fr hfr K hK => ?_
          simp only [frameL, putL, Act.put, List.setIfInBounds_toArray, List.set_cons_zero, List.set_cons_succ, Nat.zero_add, Nat.reduceAdd] at hfr
          subst hfr
          have e5 : u 5 = .pointer (some ⟨g0, 0, none⟩) := Have.get (k := 5) hn rfl
          simp only [e5] at hK
          have c0 := cellL HC.out.2.1 hW
          have HK := Lib.hid hK
          clear hK hn
          go_simp
          have h9 := HK.out
          revert h9
          clear HK
          go_simp
          try exact id
        refine Steps.cons ?_ ?_
        · refine FreeStep.val [] _ rfl rfl fun u β W hW hn fr hfr K hK => ?_
          simp only [frameL, putL, Act.put, List.setIfInBounds_toArray, List.set_cons_zero, List.set_cons_succ, Nat.zero_add, Nat.reduceAdd] at hfr
          subst hfr
          have c0 := cellL HC.out.2.2.1 hW
          have HK := Lib.hid hK
          clear hK hn
          go_simp
          have h9 := HK.out
          revert h9
          clear HK
          go_simp
          try exact id
        refine Steps.cons ?_ ?_
        · refine FreeStep.calm [] _ rfl rfl fun u β W hW hn fr hfr K hK => ?_
          simp only [frameL, putL, Act.put, List.setIfInBounds_toArray, List.set_cons_zero, List.set_cons_succ, Nat.zero_add, Nat.reduceAdd] at hfr
          subst hfr
          have e7 : u 7 = .int .u8 3 := Have.get (k := 7) hn rfl
          simp only [e7] at hK
          have HK := Lib.hid hK
          clear hK hn
          go_simp
          refine (kind_3 _).mono ?_
          rintro e w1 ⟨rfl, rfl⟩
          have h9 := HK.out _ (Below.refl _ _)
          revert h9
          clear HK
          go_simp
          try exact id
        refine Steps.cons ?_ ?_
        · refine FreeStep.val [] _ rfl rfl fun u β W hW hn fr hfr K hK => ?_
          simp only [frameL, putL, Act.put, List.setIfInBounds_toArray, List.set_cons_zero, List.set_cons_succ, Nat.zero_add, Nat.reduceAdd] at hfr
          subst hfr
          have e6 : u 6 = .slice (some ⟨g1, 0, none⟩) 2 k1 := Have.get (k := 6) hn rfl
          have e8 : u 8 = .int .i64 1 := Have.get (k := 8) hn rfl
          simp only [e6, e8] at hK
          have HK := Lib.hid hK
          clear hK hn
          go_simp
          have h9 := HK.out
          revert h9
          clear HK
          go_simp
          try exact id
        refine Steps.cons ?_ ?_
        · refine FreeStep.val [] _ rfl rfl fun u β W hW hn fr hfr K hK => ?_
          simp only [frameL, putL, Act.put, List.setIfInBounds_toArray, List.set_cons_zero, List.set_cons_succ, Nat.zero_add, Nat.reduceAdd] at hfr
          subst hfr
          have e9 : u 9 = .pointer (some ⟨g1, 1, none⟩) := Have.get (k := 9) hn rfl
          simp only [e9] at hK
          have c0 := cellL HC.out.2.2.2.2 hW
          have HK := Lib.hid hK
          clear hK hn
          go_simp
          have h9 := HK.out
          revert h9
          clear HK
          go_simp
          try exact id
        refine Steps.cons ?_ ?_
        · refine FreeStep.val [] _ rfl rfl fun u β W hW hn fr hfr K hK => ?_
          simp only [frameL, putL, Act.put, List.setIfInBounds_toArray, List.set_cons_zero, List.set_cons_succ, Nat.zero_add, Nat.reduceAdd] at hfr
          subst hfr
          have e10 : u 10 = .slice (some ⟨g2, 0, none⟩) L k2 := Have.get (k := 10) hn rfl
          simp only [e10] at hK
          have HK := Lib.hid hK
          clear hK hn
          go_simp
          have h9 := HK.out
          revert h9
          clear HK
          go_simp
          try exact id
        exact Steps.nil
      case tail =>
        intro u_ β W9 hW hn hdis hbnd
        have z0 : u_ 0 = .pointer (some ⟨b, 0, none⟩) := Have.get (k := 0) hn rfl
        have z1 : u_ 1 = .pointer (some ⟨b, 0, none⟩) := Have.get (k := 1) hn rfl
        have z2 : u_ 2 = .pointer (some ⟨b, 3, none⟩) := Have.get (k := 2) hn rfl
        have z3 : u_ 3 = .slice (some ⟨g0, 0, none⟩) 1 k0 := Have.get (k := 3) hn rfl
        have z4 : u_ 4 = .int .i64 0 := Have.get (k := 4) hn rfl
        have z5 : u_ 5 = .pointer (some ⟨g0, 0, none⟩) := Have.get (k := 5) hn rfl
        have z6 : u_ 6 = .slice (some ⟨g1, 0, none⟩) 2 k1 := Have.get (k := 6) hn rfl
        have z7 : u_ 7 = .int .u8 3 := Have.get (k := 7) hn rfl
        have z8 : u_ 8 = .int .i64 1 := Have.get (k := 8) hn rfl
        have z9 : u_ 9 = .pointer (some ⟨g1, 1, none⟩) := Have.get (k := 9) hn rfl
        have z10 : u_ 10 = .slice (some ⟨g2, 0, none⟩) L k2 := Have.get (k := 10) hn rfl
        have z11 : u_ 11 = .slice (some ⟨g2, 0, none⟩) L k2 := Have.get (k := 11) hn rfl
        rw [← frameL_eq (by kernel_rfl)]
        clear hn hdis hbnd
        simp only [frameL, putL, Act.put, List.setIfInBounds_toArray, List.set_cons_zero, List.set_cons_succ, Nat.zero_add, Nat.reduceAdd, z0, z1, z2, z3, z4, z5, z6, z7, z8, z9, z10, z11]
        clear z0 z1 z2 z3 z4 z5 z6 z7 z8 z9 z10 z11
        obtain ⟨WW, rfl⟩ : ∃ y, y = W9 := ⟨_, rfl⟩
        have HW9 := Lib.hid hW
        clear hW
        go_wp2_with fail
        go_loopw [58] (fun i wr => ∃ j : Nat, j ≤ L ∧ i = .int .i64 j ∧ OmE base wr (.slice (some ⟨g2, 0, none⟩) L k2) (front (r.map fun x : OmT => (x.1, out)) r j) ds ∧ Turned ds W wr) (fun i _ => L - (intOf i).toNat)
        case atStart => exact ⟨0, Nat.zero_le _, rfl, by rw [front_zero]; exact (om_ok _).later HE.out HW9.out, Turned.of_below HW9.out⟩
        case round =>
          obtain ⟨j, hj, rfl, hE, hT⟩ := hrel
          have hml : (r.map fun x : OmT => (x.1, out)).length = r.length := by simp
          by_cases hlt : j < L
          · obtain ⟨x, hx⟩ : ∃ x, r[j]? = some x := ⟨_, List.getElem?_eq_getElem (by rw [Hlen.out]; exact hlt)⟩
            have hx2 : (front (r.map fun x : OmT => (x.1, out)) r j)[j]? = some x := by rw [front_at _ _ hml (by rw [Hlen.out]; exact hlt)]; exact hx
            have c1 := (OmE.cell' hE hx2).2
            have q1 := RowE.frozen hE (j * 2 + 1)
            have l2 := ((om_ok _).lt hE g2 (by rw [hE.2]; simp [Value.ownBlock])).2
            have cO2 : wr.cell? ⟨O, 0, none⟩ = some (.string out) := (World.cell?_of_block (w := W) (w' := wr) (a := ⟨O, 0, none⟩) (hT.block O lO (fun h => by have := ((om_ok _).lt HE.out O h).1; omega))).trans HC.out.2.2.2.1
            have hp := RowE.putc (size := 2) (enc := omV) (fun _ => rfl) hE (x.1, out) 1 (.string out) hx2 (by decide) rfl
            rw [front_set _ _ hml (by rw [List.getElem?_map, hx]; rfl)] at hp
            have HPp := Lib.hid (And.intro hp.1 (hT.trans hp.2))
            clear hE hT hx2 hx hp
            go_wp2
            go_roundw
            case rel => exact ⟨j + 1, by omega, by go_num, HPp.out⟩
            case measure => simp [intOf]; omega
          · have e : j = L := by omega
            have HF := Lib.hid (HP9.out wr hT (by
              have h2 := front_all (r.map fun x : OmT => (x.1, out)) r hml
              rw [Hlen.out] at h2
              rw [e, h2] at hE
              exact hE))
            clear hE hT e
            go_wp2
            go_roundw
            case rel => exact .inr ⟨by go_num, HF.out⟩
            case measure => simp [intOf]
    · go_wp2
      go_end0
      exact ⟨rfl, hA2, hB2⟩
def wbT (r0 r1 s0 s1 : List OmT) : Nat → List (List OmT)
  | 0 => [r0, r1]
  | 1 => [s0, r1]
  | _ => [s0, s1]
set_option maxHeartbeats 12800000 in
set_option maxRecDepth 100000 in
theorem opt_writingBack (w : World) (O M L mk : Nat) (out : ByteArray) (c : Rw) (r0 r1 : List OmT) (x0 x1 : OmT) (hcl : c.ret.length = 1) (hc0 : c.ret[0]? = some [r0, r1]) (hL0 : r0.length = L) (hL1 : r1.length = L) (hmk : mk < L ∧ L ≤ 10) (h0 : r0[mk]? = some x0) (h1 : r1[mk]? = some x1) (hM : w.cell? ⟨M, 0, none⟩ = some (.int .i64 mk)) (hO : w.cell? ⟨O, 0, none⟩ = some (.string out)) :
    OptC w 100 #[.pointer (some ⟨O, 0, none⟩), .pointer (some ⟨M, 0, none⟩)] c { c with ret := c.ret.set 0 [r0.set mk (x0.1, out), r1.set mk (x1.1, out)] } := by
  intro W base b b1 b2 b3 hbase hW h
  obtain ⟨g0, k0, g1, k1, cs, hcb, hcg0, hE2, ⟨hbl, hg0, hg1⟩, hput⟩ := h.lists_ret hc0 rfl
  have hcg0 : W.cell? ⟨g0, 0, none⟩ = some (.slice (some ⟨g1, 0, none⟩) 2 k1) := hcg0
  have hE2 : Om2E base W (.slice (some ⟨g1, 0, none⟩) 2 k1) [r0, r1] cs := hE2
  rw [hcl] at hcb
  obtain ⟨s0, hs0⟩ : ∃ s, s = r0.set mk (x0.1, out) := ⟨_, rfl⟩
  obtain ⟨s1, hs1⟩ : ∃ s, s = r1.set mk (x1.1, out) := ⟨_, rfl⟩
  rw [← hs0, ← hs1]
  have lO : O < W.heap.size := World.block_lt_of_cell? _ _ (cellL hO hW)
  have lM : M < W.heap.size := World.block_lt_of_cell? _ _ (cellL hM hW)
  have lOb : O < base := Nat.lt_of_lt_of_le (World.block_lt_of_cell? _ _ hO : (⟨O, 0, none⟩ : Addr).block < w.heap.size) hbase
  have lMb : M < base := Nat.lt_of_lt_of_le (World.block_lt_of_cell? _ _ hM : (⟨M, 0, none⟩ : Addr).block < w.heap.size) hbase
  have hfar : ∀ k, k < base → k ∉ cs := fun k hk h => by have := ((om2_ok _).lt hE2 k h).1; omega
  have hkeep : ∀ wr, Turned cs W wr → wr.cell? ⟨O, 0, none⟩ = some (.string out) ∧ wr.cell? ⟨M, 0, none⟩ = some (.int .i64 mk) ∧ W.heap.size ≤ wr.heap.size := fun wr hT =>
    ⟨(World.cell?_of_block (w := W) (w' := wr) (a := ⟨O, 0, none⟩) (hT.block O lO (hfar O lOb))).trans (cellL hO hW), (World.cell?_of_block (w := W) (w' := wr) (a := ⟨M, 0, none⟩) (hT.block M lM (hfar M lMb))).trans (cellL hM hW), hT.size⟩
  have Hkeep := Lib.hid hkeep
  have HE2 := Lib.hid hE2
  obtain ⟨d9, hd9⟩ : ∃ d, d = { c with ret := c.ret.set 0 [s0, s1] } := ⟨_, rfl⟩
  have HP9 : Hid (∀ W', Turned cs W W' → Om2E base W' (.slice (some ⟨g1, 0, none⟩) 2 k1) [s0, s1] cs → RwAt base W' b d9 b1 b2 b3 ∧ Below base W W') := by rw [hd9]; exact fun W' hT hE => hput W' _ hT hE
  rw [← hd9]
  have HS := Lib.hid (And.intro hs0 (And.intro hs1 (And.intro h0 h1)))
  have HL := Lib.hid (And.intro hL0 hL1)
  obtain ⟨hm1, hm2⟩ := hmk
  clear hd9 hput hkeep hfar hE2 hO hM hW h hbase hcl hc0 hs0 hs1 h0 h1 hL0 hL1
  go_enter Try.func100, Try.ntmps100
  go_upto_region 1 with fail
  go_loopw [13] (fun i wr => (i = .int .i64 0 ∧ wr = W) ∨ (i = .int .i64 1 ∧ RwAt base wr b d9 b1 b2 b3 ∧ Below base W wr)) (fun i _ => 1 - (intOf i).toNat)
  case atStart => exact .inl ⟨rfl, rfl⟩
  case round =>
    rcases hrel with ⟨rfl, hwr⟩ | ⟨rfl, hA2, hB2⟩
    · replace hwr := hwr.symm
      subst hwr
      go_wp2_with fail
      go_loopw [19] (fun i wr => ∃ j : Nat, j ≤ 2 ∧ i = .int .i64 j ∧ Om2E base wr (.slice (some ⟨g1, 0, none⟩) 2 k1) (wbT r0 r1 s0 s1 j) cs ∧ Turned cs W wr) (fun i _ => 2 - (intOf i).toNat)
      case atStart => exact ⟨0, by omega, rfl, HE2.out, Turned.refl _ _⟩
      case round =>
        obtain ⟨j, hj, rfl, hE, hT⟩ := hrel
        rcases (by omega : j = 0 ∨ j = 1 ∨ j = 2) with rfl | rfl | rfl
        · obtain ⟨g1', c1', u, ds, e1, hcg1, hR, _, hback⟩ := ManyE.at_ hE (om_ok _) (j := 0) (x := r0) rfl
          have e1 : (Value.slice (some ⟨g1, 0, none⟩) 2 k1) = .slice (some ⟨g1', 0, none⟩) 2 c1' := e1
          simp only [Value.slice.injEq, Option.some.injEq, Addr.mk.injEq, and_true] at e1
          obtain ⟨rfl, _, rfl⟩ := e1
          obtain ⟨A2, k2, rfl⟩ := RowE.slice hR
          obtain ⟨g2, rfl, hg2, _⟩ := RowE.head hR (j := 0) (by rw [HL.out.1]; omega)
          have hx := HS.out.2.2.1
          have c1 := (OmE.cell' hR hx).2
          have q1 := RowE.frozen hR (mk * 2 + 1)
          obtain ⟨cO, cM, hszw⟩ := Hkeep.out _ hT
          have hp := RowE.putc (size := 2) (enc := omV) (fun _ => rfl) hR (x0.1, out) 1 (.string out) hx (by decide) rfl
          rw [← HS.out.1] at hp
          have hb := hback _ _ hp.2 hp.1
          have HPp := Lib.hid (show Om2E base _ (.slice (some ⟨g1, 0, none⟩) 2 k1) (wbT r0 r1 s0 s1 1) cs ∧ _ from And.intro hb.1 (hT.trans hb.2))
          rw [HL.out.1] at hcg1
          have lg1 : g1 < wr.heap.size := by omega
          have lO2 : O < wr.heap.size := by omega
          have lM2 : M < wr.heap.size := by omega
          have hix : (mk : Int) < (L : Int) := by omega
          clear hE hT hR hback hx hp hb
          go_wp2
          go_roundw
          case rel => exact ⟨1, by omega, by go_num, HPp.out⟩
          case measure => simp [intOf]
        · obtain ⟨g1', c1', u, ds, e1, hcg1, hR, _, hback⟩ := ManyE.at_ hE (om_ok _) (j := 1) (x := r1) rfl
          have e1 : (Value.slice (some ⟨g1, 0, none⟩) 2 k1) = .slice (some ⟨g1', 0, none⟩) 2 c1' := e1
          simp only [Value.slice.injEq, Option.some.injEq, Addr.mk.injEq, and_true] at e1
          obtain ⟨rfl, _, rfl⟩ := e1
          obtain ⟨A2, k2, rfl⟩ := RowE.slice hR
          obtain ⟨g2, rfl, hg2, _⟩ := RowE.head hR (j := 0) (by rw [HL.out.2]; omega)
          have hx := HS.out.2.2.2
          have c1 := (OmE.cell' hR hx).2
          have q1 := RowE.frozen hR (mk * 2 + 1)
          obtain ⟨cO, cM, hszw⟩ := Hkeep.out _ hT
          have hp := RowE.putc (size := 2) (enc := omV) (fun _ => rfl) hR (x1.1, out) 1 (.string out) hx (by decide) rfl
          rw [← HS.out.2.1] at hp
          have hb := hback _ _ hp.2 hp.1
          have HPp := Lib.hid (show Om2E base _ (.slice (some ⟨g1, 0, none⟩) 2 k1) (wbT r0 r1 s0 s1 2) cs ∧ _ from And.intro hb.1 (hT.trans hb.2))
          rw [HL.out.2] at hcg1
          have lg1 : g1 < wr.heap.size := by omega
          have lO2 : O < wr.heap.size := by omega
          have lM2 : M < wr.heap.size := by omega
          have hix : (mk : Int) < (L : Int) := by omega
          clear hE hT hR hback hx hp hb
          go_wp2
          go_roundw
          case rel => exact ⟨2, by omega, by go_num, HPp.out⟩
          case measure => simp [intOf]
        · have HF := Lib.hid (HP9.out wr hT hE)
          clear hE hT
          go_wp2
          go_roundw
          case rel => exact .inr ⟨by go_num, HF.out⟩
          case measure => simp [intOf]
    · go_wp2
      go_end0
      exact ⟨rfl, hA2, hB2⟩
set_option maxHeartbeats 12800000 in
set_option maxRecDepth 100000 in
theorem opt_moving_4 (w : World) (S O M st : Nat) (tz : Int) (out : ByteArray) (c : Rw) (p0 p1 : OmT) (hst : st < 2) (hcl : c.inner.length = 2) (hc0 : c.inner[st]? = some [p0, p1]) (hS : w.cell? ⟨S, 0, none⟩ = some (.int .i64 st)) (hM : w.cell? ⟨M, 0, none⟩ = some (.int .u8 4)) (hO : Bx w O 78 #[.int .i64 tz, .string out]) :
    OptC w 108 #[.pointer (some ⟨O, 0, none⟩), .pointer (some ⟨S, 0, none⟩), .pointer (some ⟨M, 0, none⟩)] c { c with inner := c.inner.set st ([p0, p1].set 0 (tz, out)) } := by
  intro W base b b1 b2 b3 hbase hW h
  obtain ⟨g0, k0, g1, k1, cs, hcb, hcg0, hE, ⟨hbl, hg0, hg1⟩, hput⟩ := h.row_inner hc0 rfl
  have hcg0 : W.cell? ⟨g0, st, none⟩ = some (.slice (some ⟨g1, 0, none⟩) 2 k1) := hcg0
  rw [hcl] at hcb
  have hO2 := hO.later hW
  have HC := Lib.hid (And.intro hcb (And.intro hcg0 (And.intro (cellL hS hW) (And.intro (cellL hM hW) (And.intro (hO2.cell 0 _ rfl) (hO2.cell 1 _ rfl))))))
  have lS : S < W.heap.size := World.block_lt_of_cell? _ _ (cellL hS hW)
  have lM : M < W.heap.size := World.block_lt_of_cell? _ _ (cellL hM hW)
  have lO : O < W.heap.size := hO2.lt
  obtain ⟨d9, hd9⟩ : ∃ d, d = { c with inner := c.inner.set st ([p0, p1].set 0 (tz, out)) } := ⟨_, rfl⟩
  have HP9 : Hid (∀ W', Below W.heap.size W W' → (∃ u, W'.cell? ⟨g1, 0, none⟩ = some u) ∧ (∃ u, (W'.setCell ⟨g1, 0, none⟩ (.int .i64 tz)).cell? ⟨g1, 1, none⟩ = some u) ∧ W'.frozen? ⟨g1, 0, none⟩ = false ∧ (W'.setCell ⟨g1, 0, none⟩ (.int .i64 tz)).frozen? ⟨g1, 1, none⟩ = false ∧
      RwAt base ((W'.setCell ⟨g1, 0, none⟩ (.int .i64 tz)).setCell ⟨g1, 1, none⟩ (.string out)) b d9 b1 b2 b3 ∧ Below base W ((W'.setCell ⟨g1, 0, none⟩ (.int .i64 tz)).setCell ⟨g1, 1, none⟩ (.string out))) := by
    rw [hd9]
    intro W' hW'
    have hE' := (om_ok _).later hE hW'
    have p1' := RowE.putc (size := 2) (enc := omV) (fun _ => rfl) hE' (j := 0) (x := p0) (tz, p0.2) 0 (.int .i64 tz) rfl (by decide) rfl
    have p2' := RowE.putc (size := 2) (enc := omV) (fun _ => rfl) p1'.1 (j := 0) (x := (tz, p0.2)) (tz, out) 1 (.string out) rfl (by decide) rfl
    have hT := ((Turned.of_below (bs := cs) hW').trans p1'.2).trans p2'.2
    have hr := hput _ _ hT p2'.1
    exact ⟨⟨_, (OmE.cell' hE' (j := 0) rfl).1⟩, ⟨_, (OmE.cell' p1'.1 (j := 0) rfl).2⟩, RowE.frozen hE' _, RowE.frozen p1'.1 _, hr⟩
  rw [← hd9]
  clear hd9 hput hcb hcg0 hE hS hM hO hO2 hW h hbase hcl hc0
  go_enter Try.func108, Try.ntmps108
  go_upto_region 0 with fail
  refine wp_region_free_last (by kernel_rfl) [
      .val [] (fun _ => .pointer (some ⟨b, 0, none⟩)),
      .val [] (fun _ => .pointer (some ⟨b, 0, none⟩)),
      .val [] (fun _ => .pointer (some ⟨b, 4, none⟩)),
      .val [] (fun _ => .slice (some ⟨g0, 0, none⟩) 2 k0),
      .val [] (fun _ => .int .i64 (st : Int)),
      .val [] (fun _ => .pointer (some ⟨g0, st, none⟩)),
      .val [] (fun _ => .slice (some ⟨g1, 0, none⟩) 2 k1),
      .val [] (fun _ => .int .u8 4),
      .val [] (fun _ => .int .i64 0),
      .val [] (fun _ => .agg #[.int .i64 tz, .string out]),
      .val [] (fun _ => .pointer (some ⟨g1, 0, none⟩))] ?hp ?hfw ?deps ?oks ?hl ?hpos ?steps
  case hp => kernel_rfl
  case hfw => kernel_rfl
  case deps => kernel_rfl
  case hl => kernel_rfl
  case hpos => kernel_rfl
  case oks =>
    intro F hF
    simp only [List.mem_cons, List.not_mem_nil, or_false] at hF
    rcases hF with rfl | rfl | rfl | rfl | rfl | rfl | rfl | rfl | rfl | rfl | rfl
    all_goals trivial
  case steps =>
    refine StepsL.cons ?_ ?_
    · refine FreeStep.val [] _ rfl rfl fun u β W hW hn fr hfr K hK => ?_
      simp only [frameL, putL, Act.put, List.setIfInBounds_toArray, List.set_cons_zero, List.set_cons_succ, Nat.zero_add, Nat.reduceAdd] at hfr
      subst hfr
      have HK := Lib.hid hK
      clear hK hn
      go_simp
      have h9 := HK.out
      revert h9
      clear HK
      go_simp
      try exact id
    refine StepsL.cons ?_ ?_
    · refine FreeStep.val [] _ rfl rfl fun u β W hW hn fr hfr K hK => ?_
      simp only [frameL, putL, Act.put, List.setIfInBounds_toArray, List.set_cons_zero, List.set_cons_succ, Nat.zero_add, Nat.reduceAdd] at hfr
      subst hfr
      have e0 : u 0 = .pointer (some ⟨b, 0, none⟩) := Have.get (k := 0) hn rfl
      simp only [e0] at hK
      have HK := Lib.hid hK
      clear hK hn
      go_simp
      have h9 := HK.out
      revert h9
      clear HK
      go_simp
      try exact id
    refine StepsL.cons ?_ ?_
    · refine FreeStep.val [] _ rfl rfl fun u β W hW hn fr hfr K hK => ?_
      simp only [frameL, putL, Act.put, List.setIfInBounds_toArray, List.set_cons_zero, List.set_cons_succ, Nat.zero_add, Nat.reduceAdd] at hfr
      subst hfr
      have e1 : u 1 = .pointer (some ⟨b, 0, none⟩) := Have.get (k := 1) hn rfl
      simp only [e1] at hK
      have HK := Lib.hid hK
      clear hK hn
      go_simp
      have h9 := HK.out
      revert h9
      clear HK
      go_simp
      try exact id
    refine StepsL.cons ?_ ?_
    · refine FreeStep.val [] _ rfl rfl fun u β W hW hn fr hfr K hK => ?_
      simp only [frameL, putL, Act.put, List.setIfInBounds_toArray, List.set_cons_zero, List.set_cons_succ, Nat.zero_add, Nat.reduceAdd] at hfr
      subst hfr
      have e2 : u 2 = .pointer (some ⟨b, 4, none⟩) := Have.get (k := 2) hn rfl
      simp only [e2] at hK
      have c0 := cellL HC.out.1 hW
      have HK := Lib.hid hK
      clear hK hn
      go_simp
      have h9 := HK.out
      revert h9
      clear HK
      go_simp
      try exact id
    refine StepsL.cons ?_ ?_
    · refine FreeStep.val [] _ rfl rfl fun u β W hW hn fr hfr K hK => ?_
      simp only [frameL, putL, Act.put, List.setIfInBounds_toArray, List.set_cons_zero, List.set_cons_succ, Nat.zero_add, Nat.reduceAdd] at hfr
      subst hfr
      have c0 := cellL HC.out.2.2.1 hW
      have HK := Lib.hid hK
      clear hK hn
      go_simp
      have h9 := HK.out
      revert h9
      clear HK
      go_simp
      try exact id
    refine StepsL.cons ?_ ?_
    · refine FreeStep.val [] _ rfl rfl fun u β W hW hn fr hfr K hK => ?_
      simp only [frameL, putL, Act.put, List.setIfInBounds_toArray, List.set_cons_zero, List.set_cons_succ, Nat.zero_add, Nat.reduceAdd] at hfr
      subst hfr
      have e3 : u 3 = .slice (some ⟨g0, 0, none⟩) 2 k0 := Have.get (k := 3) hn rfl
      have e4 : u 4 = .int .i64 (st : Int) := Have.get (k := 4) hn rfl
      simp only [e3, e4] at hK
      have hix : (st : Int) < 2 := by omega
      have HK := Lib.hid hK
      clear hK hn
      go_simp
      have h9 := HK.out
      revert h9
      clear HK
      go_simp
      try exact id
    refine StepsL.cons ?_ ?_
    · refine FreeStep.val [] _ rfl rfl fun u β W hW hn fr hfr K hK => ?_
      simp only [frameL, putL, Act.put, List.setIfInBounds_toArray, List.set_cons_zero, List.set_cons_succ, Nat.zero_add, Nat.reduceAdd] at hfr
      subst hfr
      have e5 : u 5 = .pointer (some ⟨g0, st, none⟩) := Have.get (k := 5) hn rfl
      simp only [e5] at hK
      have c0 := cellL HC.out.2.1 hW
      have HK := Lib.hid hK
      clear hK hn
      go_simp
      have h9 := HK.out
      revert h9
      clear HK
      go_simp
      try exact id
    refine StepsL.cons ?_ ?_
    · refine FreeStep.val [] _ rfl rfl fun u β W hW hn fr hfr K hK => ?_
      simp only [frameL, putL, Act.put, List.setIfInBounds_toArray, List.set_cons_zero, List.set_cons_succ, Nat.zero_add, Nat.reduceAdd] at hfr
      subst hfr
      have c0 := cellL HC.out.2.2.2.1 hW
      have HK := Lib.hid hK
      clear hK hn
      go_simp
      have h9 := HK.out
      revert h9
      clear HK
      go_simp
      try exact id
    refine StepsL.cons ?_ ?_
    · refine FreeStep.calm [] _ rfl rfl fun u β W hW hn fr hfr K hK => ?_
      simp only [frameL, putL, Act.put, List.setIfInBounds_toArray, List.set_cons_zero, List.set_cons_succ, Nat.zero_add, Nat.reduceAdd] at hfr
      subst hfr
      have e7 : u 7 = .int .u8 4 := Have.get (k := 7) hn rfl
      simp only [e7] at hK
      have HK := Lib.hid hK
      clear hK hn
      go_simp
      refine (kind_4 _).mono ?_
      rintro e w1 ⟨rfl, rfl⟩
      have h9 := HK.out _ (Below.refl _ _)
      revert h9
      clear HK
      go_simp
      try exact id
    refine StepsL.cons ?_ ?_
    · refine FreeStep.val [] _ rfl rfl fun u β W hW hn fr hfr K hK => ?_
      simp only [frameL, putL, Act.put, List.setIfInBounds_toArray, List.set_cons_zero, List.set_cons_succ, Nat.zero_add, Nat.reduceAdd] at hfr
      subst hfr
      have c0 := cellL HC.out.2.2.2.2.1 hW
      have c1 := cellL HC.out.2.2.2.2.2 hW
      have HK := Lib.hid hK
      clear hK hn
      go_simp
      have h9 := HK.out
      revert h9
      clear HK
      go_simp
      try exact id
    refine StepsL.cons ?_ ?_
    · refine FreeStep.val [] _ rfl rfl fun u β W hW hn fr hfr K hK => ?_
      simp only [frameL, putL, Act.put, List.setIfInBounds_toArray, List.set_cons_zero, List.set_cons_succ, Nat.zero_add, Nat.reduceAdd] at hfr
      subst hfr
      have e6 : u 6 = .slice (some ⟨g1, 0, none⟩) 2 k1 := Have.get (k := 6) hn rfl
      have e8 : u 8 = .int .i64 0 := Have.get (k := 8) hn rfl
      simp only [e6, e8] at hK
      have HK := Lib.hid hK
      clear hK hn
      go_simp
      have h9 := HK.out
      revert h9
      clear HK
      go_simp
      try exact id
    intro u β W9 hW hn hdis hbnd fr hfr K hK
    simp only [frameL, putL, Act.put, List.setIfInBounds_toArray, List.set_cons_zero, List.set_cons_succ, Nat.zero_add, Nat.reduceAdd] at hfr
    subst hfr
    have e9 : u 9 = .agg #[.int .i64 tz, .string out] := Have.get (k := 9) hn rfl
    have e10 : u 10 = .pointer (some ⟨g1, 0, none⟩) := Have.get (k := 10) hn rfl
    have HK := Lib.hid hK
    clear hn hdis hbnd hK
    obtain ⟨⟨x1, c1⟩, ⟨x2, c2⟩, z1, z2, hA, hB⟩ := HP9.out W9 hW
    have l0 : g1 < W9.heap.size := Nat.lt_of_lt_of_le hg1 hW.size
    have HP := Lib.hid (And.intro hA hB)
    clear hW HC HP9 hA hB
    go_simp
    refine HK.out _ _ ?_
    clear HK
    generalize u 0 = s0 at *
    generalize u 1 = s1 at *
    generalize u 2 = s2 at *
    generalize u 3 = s3 at *
    generalize u 4 = s4 at *
    generalize u 5 = s5 at *
    generalize u 6 = s6 at *
    generalize u 7 = s7 at *
    generalize u 8 = s8 at *
    generalize u 9 = s9 at *
    generalize u 10 = s10 at *
    go_wp2
    go_end0
    exact ⟨rfl, HP.out⟩
set_option maxHeartbeats 12800000 in
set_option maxRecDepth 100000 in
theorem opt_moving_5 (w : World) (S O M st : Nat) (tz : Int) (out : ByteArray) (c : Rw) (p0 p1 : OmT) (hst : st < 2) (hcl : c.inner.length = 2) (hc0 : c.inner[st]? = some [p0, p1]) (hS : w.cell? ⟨S, 0, none⟩ = some (.int .i64 st)) (hM : w.cell? ⟨M, 0, none⟩ = some (.int .u8 5)) (hO : Bx w O 78 #[.int .i64 tz, .string out]) :
    OptC w 108 #[.pointer (some ⟨O, 0, none⟩), .pointer (some ⟨S, 0, none⟩), .pointer (some ⟨M, 0, none⟩)] c { c with inner := c.inner.set st ([p0, p1].set 1 (tz, out)) } := by
  intro W base b b1 b2 b3 hbase hW h
  obtain ⟨g0, k0, g1, k1, cs, hcb, hcg0, hE, ⟨hbl, hg0, hg1⟩, hput⟩ := h.row_inner hc0 rfl
  have hcg0 : W.cell? ⟨g0, st, none⟩ = some (.slice (some ⟨g1, 0, none⟩) 2 k1) := hcg0
  rw [hcl] at hcb
  have hO2 := hO.later hW
  have HC := Lib.hid (And.intro hcb (And.intro hcg0 (And.intro (cellL hS hW) (And.intro (cellL hM hW) (And.intro (hO2.cell 0 _ rfl) (hO2.cell 1 _ rfl))))))
  have lS : S < W.heap.size := World.block_lt_of_cell? _ _ (cellL hS hW)
  have lM : M < W.heap.size := World.block_lt_of_cell? _ _ (cellL hM hW)
  have lO : O < W.heap.size := hO2.lt
  obtain ⟨d9, hd9⟩ : ∃ d, d = { c with inner := c.inner.set st ([p0, p1].set 1 (tz, out)) } := ⟨_, rfl⟩
  have HP9 : Hid (∀ W', Below W.heap.size W W' → (∃ u, W'.cell? ⟨g1, 2, none⟩ = some u) ∧ (∃ u, (W'.setCell ⟨g1, 2, none⟩ (.int .i64 tz)).cell? ⟨g1, 3, none⟩ = some u) ∧ W'.frozen? ⟨g1, 2, none⟩ = false ∧ (W'.setCell ⟨g1, 2, none⟩ (.int .i64 tz)).frozen? ⟨g1, 3, none⟩ = false ∧
      RwAt base ((W'.setCell ⟨g1, 2, none⟩ (.int .i64 tz)).setCell ⟨g1, 3, none⟩ (.string out)) b d9 b1 b2 b3 ∧ Below base W ((W'.setCell ⟨g1, 2, none⟩ (.int .i64 tz)).setCell ⟨g1, 3, none⟩ (.string out))) := by
    rw [hd9]
    intro W' hW'
    have hE' := (om_ok _).later hE hW'
    have p1' := RowE.putc (size := 2) (enc := omV) (fun _ => rfl) hE' (j := 1) (x := p1) (tz, p1.2) 0 (.int .i64 tz) rfl (by decide) rfl
    have p2' := RowE.putc (size := 2) (enc := omV) (fun _ => rfl) p1'.1 (j := 1) (x := (tz, p1.2)) (tz, out) 1 (.string out) rfl (by decide) rfl
    have hT := ((Turned.of_below (bs := cs) hW').trans p1'.2).trans p2'.2
    have hr := hput _ _ hT p2'.1
    exact ⟨⟨_, (OmE.cell' hE' (j := 1) rfl).1⟩, ⟨_, (OmE.cell' p1'.1 (j := 1) rfl).2⟩, RowE.frozen hE' _, RowE.frozen p1'.1 _, hr⟩
  rw [← hd9]
  clear hd9 hput hcb hcg0 hE hS hM hO hO2 hW h hbase hcl hc0
  go_enter Try.func108, Try.ntmps108
  go_upto_region 0 with fail
  refine wp_region_free_last (by kernel_rfl) [
      .val [] (fun _ => .pointer (some ⟨b, 0, none⟩)),
      .val [] (fun _ => .pointer (some ⟨b, 0, none⟩)),
      .val [] (fun _ => .pointer (some ⟨b, 4, none⟩)),
      .val [] (fun _ => .slice (some ⟨g0, 0, none⟩) 2 k0),
      .val [] (fun _ => .int .i64 (st : Int)),
      .val [] (fun _ => .pointer (some ⟨g0, st, none⟩)),
      .val [] (fun _ => .slice (some ⟨g1, 0, none⟩) 2 k1),
      .val [] (fun _ => .int .u8 5),
      .val [] (fun _ => .int .i64 1),
      .val [] (fun _ => .agg #[.int .i64 tz, .string out]),
      .val [] (fun _ => .pointer (some ⟨g1, 2, none⟩))] ?hp ?hfw ?deps ?oks ?hl ?hpos ?steps
  case hp => kernel_rfl
  case hfw => kernel_rfl
  case deps => kernel_rfl
  case hl => kernel_rfl
  case hpos => kernel_rfl
  case oks =>
    intro F hF
    simp only [List.mem_cons, List.not_mem_nil, or_false] at hF
    rcases hF with rfl | rfl | rfl | rfl | rfl | rfl | rfl | rfl | rfl | rfl | rfl
    all_goals trivial
  case steps =>
    refine StepsL.cons ?_ ?_
    · refine FreeStep.val [] _ rfl rfl fun u β W hW hn fr hfr K hK => ?_
      simp only [frameL, putL, Act.put, List.setIfInBounds_toArray, List.set_cons_zero, List.set_cons_succ, Nat.zero_add, Nat.reduceAdd] at hfr
      subst hfr
      have HK := Lib.hid hK
      clear hK hn
      go_simp
      have h9 := HK.out
      revert h9
      clear HK
      go_simp
      try exact id
    refine StepsL.cons ?_ ?_
    · refine FreeStep.val [] _ rfl rfl fun u β W hW hn fr hfr K hK => ?_
      simp only [frameL, putL, Act.put, List.setIfInBounds_toArray, List.set_cons_zero, List.set_cons_succ, Nat.zero_add, Nat.reduceAdd] at hfr
      subst hfr
      have e0 : u 0 = .pointer (some ⟨b, 0, none⟩) := Have.get (k := 0) hn rfl
      simp only [e0] at hK
      have HK := Lib.hid hK
      clear hK hn
      go_simp
      have h9 := HK.out
      revert h9
      clear HK
      go_simp
      try exact id
    refine StepsL.cons ?_ ?_
    · refine FreeStep.val [] _ rfl rfl fun u β W hW hn fr hfr K hK => ?_
      simp only [frameL, putL, Act.put, List.setIfInBounds_toArray, List.set_cons_zero, List.set_cons_succ, Nat.zero_add, Nat.reduceAdd] at hfr
      subst hfr
      have e1 : u 1 = .pointer (some ⟨b, 0, none⟩) := Have.get (k := 1) hn rfl
      simp only [e1] at hK
      have HK := Lib.hid hK
      clear hK hn
      go_simp
      have h9 := HK.out
      revert h9
      clear HK
      go_simp
      try exact id
    refine StepsL.cons ?_ ?_
    · refine FreeStep.val [] _ rfl rfl fun u β W hW hn fr hfr K hK => ?_
      simp only [frameL, putL, Act.put, List.setIfInBounds_toArray, List.set_cons_zero, List.set_cons_succ, Nat.zero_add, Nat.reduceAdd] at hfr
      subst hfr
      have e2 : u 2 = .pointer (some ⟨b, 4, none⟩) := Have.get (k := 2) hn rfl
      simp only [e2] at hK
      have c0 := cellL HC.out.1 hW
      have HK := Lib.hid hK
      clear hK hn
      go_simp
      have h9 := HK.out
      revert h9
      clear HK
      go_simp
      try exact id
    refine StepsL.cons ?_ ?_
    · refine FreeStep.val [] _ rfl rfl fun u β W hW hn fr hfr K hK => ?_
      simp only [frameL, putL, Act.put, List.setIfInBounds_toArray, List.set_cons_zero, List.set_cons_succ, Nat.zero_add, Nat.reduceAdd] at hfr
      subst hfr
      have c0 := cellL HC.out.2.2.1 hW
      have HK := Lib.hid hK
      clear hK hn
      go_simp
      have h9 := HK.out
      revert h9
      clear HK
      go_simp
      try exact id
    refine StepsL.cons ?_ ?_
    · refine FreeStep.val [] _ rfl rfl fun u β W hW hn fr hfr K hK => ?_
      simp only [frameL, putL, Act.put, List.setIfInBounds_toArray, List.set_cons_zero, List.set_cons_succ, Nat.zero_add, Nat.reduceAdd] at hfr
      subst hfr
      have e3 : u 3 = .slice (some ⟨g0, 0, none⟩) 2 k0 := Have.get (k := 3) hn rfl
      have e4 : u 4 = .int .i64 (st : Int) := Have.get (k := 4) hn rfl
      simp only [e3, e4] at hK
      have hix : (st : Int) < 2 := by omega
      have HK := Lib.hid hK
      clear hK hn
      go_simp
      have h9 := HK.out
      revert h9
      clear HK
      go_simp
      try exact id
    refine StepsL.cons ?_ ?_
    · refine FreeStep.val [] _ rfl rfl fun u β W hW hn fr hfr K hK => ?_
      simp only [frameL, putL, Act.put, List.setIfInBounds_toArray, List.set_cons_zero, List.set_cons_succ, Nat.zero_add, Nat.reduceAdd] at hfr
      subst hfr
      have e5 : u 5 = .pointer (some ⟨g0, st, none⟩) := Have.get (k := 5) hn rfl
      simp only [e5] at hK
      have c0 := cellL HC.out.2.1 hW
      have HK := Lib.hid hK
      clear hK hn
      go_simp
      have h9 := HK.out
      revert h9
      clear HK
      go_simp
      try exact id
    refine StepsL.cons ?_ ?_
    · refine FreeStep.val [] _ rfl rfl fun u β W hW hn fr hfr K hK => ?_
      simp only [frameL, putL, Act.put, List.setIfInBounds_toArray, List.set_cons_zero, List.set_cons_succ, Nat.zero_add, Nat.reduceAdd] at hfr
      subst hfr
      have c0 := cellL HC.out.2.2.2.1 hW
      have HK := Lib.hid hK
      clear hK hn
      go_simp
      have h9 := HK.out
      revert h9
      clear HK
      go_simp
      try exact id
    refine StepsL.cons ?_ ?_
    · refine FreeStep.calm [] _ rfl rfl fun u β W hW hn fr hfr K hK => ?_
      simp only [frameL, putL, Act.put, List.setIfInBounds_toArray, List.set_cons_zero, List.set_cons_succ, Nat.zero_add, Nat.reduceAdd] at hfr
      subst hfr
      have e7 : u 7 = .int .u8 5 := Have.get (k := 7) hn rfl
      simp only [e7] at hK
      have HK := Lib.hid hK
      clear hK hn
      go_simp
      refine (kind_5 _).mono ?_
      rintro e w1 ⟨rfl, rfl⟩
      have h9 := HK.out _ (Below.refl _ _)
      revert h9
      clear HK
      go_simp
      try exact id
    refine StepsL.cons ?_ ?_
    · refine FreeStep.val [] _ rfl rfl fun u β W hW hn fr hfr K hK => ?_
      simp only [frameL, putL, Act.put, List.setIfInBounds_toArray, List.set_cons_zero, List.set_cons_succ, Nat.zero_add, Nat.reduceAdd] at hfr
      subst hfr
      have c0 := cellL HC.out.2.2.2.2.1 hW
      have c1 := cellL HC.out.2.2.2.2.2 hW
      have HK := Lib.hid hK
      clear hK hn
      go_simp
      have h9 := HK.out
      revert h9
      clear HK
      go_simp
      try exact id
    refine StepsL.cons ?_ ?_
    · refine FreeStep.val [] _ rfl rfl fun u β W hW hn fr hfr K hK => ?_
      simp only [frameL, putL, Act.put, List.setIfInBounds_toArray, List.set_cons_zero, List.set_cons_succ, Nat.zero_add, Nat.reduceAdd] at hfr
      subst hfr
      have e6 : u 6 = .slice (some ⟨g1, 0, none⟩) 2 k1 := Have.get (k := 6) hn rfl
      have e8 : u 8 = .int .i64 1 := Have.get (k := 8) hn rfl
      simp only [e6, e8] at hK
      have HK := Lib.hid hK
      clear hK hn
      go_simp
      have h9 := HK.out
      revert h9
      clear HK
      go_simp
      try exact id
    intro u β W9 hW hn hdis hbnd fr hfr K hK
    simp only [frameL, putL, Act.put, List.setIfInBounds_toArray, List.set_cons_zero, List.set_cons_succ, Nat.zero_add, Nat.reduceAdd] at hfr
    subst hfr
    have e9 : u 9 = .agg #[.int .i64 tz, .string out] := Have.get (k := 9) hn rfl
    have e10 : u 10 = .pointer (some ⟨g1, 2, none⟩) := Have.get (k := 10) hn rfl
    have HK := Lib.hid hK
    clear hn hdis hbnd hK
    obtain ⟨⟨x1, c1⟩, ⟨x2, c2⟩, z1, z2, hA, hB⟩ := HP9.out W9 hW
    have l0 : g1 < W9.heap.size := Nat.lt_of_lt_of_le hg1 hW.size
    have HP := Lib.hid (And.intro hA hB)
    clear hW HC HP9 hA hB
    go_simp
    refine HK.out _ _ ?_
    clear HK
    generalize u 0 = s0 at *
    generalize u 1 = s1 at *
    generalize u 2 = s2 at *
    generalize u 3 = s3 at *
    generalize u 4 = s4 at *
    generalize u 5 = s5 at *
    generalize u 6 = s6 at *
    generalize u 7 = s7 at *
    generalize u 8 = s8 at *
    generalize u 9 = s9 at *
    generalize u 10 = s10 at *
    go_wp2
    go_end0
    exact ⟨rfl, HP.out⟩
end Go.Proofs.Ytmkamodmnplclaa
