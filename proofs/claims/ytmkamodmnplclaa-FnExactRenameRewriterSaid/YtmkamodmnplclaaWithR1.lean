/- The closures of rewriterWith, of the program. -/
import Derived.Test.YtmkamodmnplclaaRep
import Derived.Test.YtmkamodmnplclaaSym
import Derived.Test.YtmkamodmnplclaaFree
import Derived.Test.YtmkamodmnplclaaFree1
import Derived.Test.YtmkamodmnplclaaMapped
import Derived.BigQuiet
import Derived.Deep.QuietTactic
import Derived.Deep.RegionWith
import Derived.Laws.EntriesVeiled
namespace Go.Proofs.Ytmkamodmnplclaa
open Go.RowKit
set_option linter.unusedVariables false


theorem entersO {P : Program} {f : FuncId} {fn : Func} {c : Code} (hf : P.funcs[f]? = some fn) (hname : (fn.name == "runtime.NumGoroutine") = false) (hb : fn.body = some c) (args : Array Value) (w : World) :
    (callFunc f args).run P w = .ok (.enter f args) w := by
  have h1 : fn.name ≠ "runtime.NumGoroutine" := by simpa using hname
  simp [callFunc, hf, h1, hb]
theorem cellL {w W : World} {p : Addr} {v : Value} (h : w.cell? p = some v) (hb : Below w.heap.size w W) : W.cell? p = some v := (hb.cell (World.block_lt_of_cell? _ _ h)).trans h
theorem sym_base {b b' : Nat} (hb : b' ≤ b) (w : World) (v : Value) (x : List Int) (bs : List Nat) (h : SymE b w v x bs) : SymE b' w v x bs := ⟨row_base h.1 hb, h.2⟩
theorem cfR1 (args : Array Value) (w : World) : (callFunc 83 args).run Try.prog w = .ok (.enter 83 args) w :=
  entersO (fn := Try.f83) (by kernel_rfl) (by kernel_rfl) rfl args w
theorem cfR2 (args : Array Value) (w : World) : (callFunc 84 args).run Try.prog w = .ok (.enter 84 args) w :=
  entersO (fn := Try.f84) (by kernel_rfl) (by kernel_rfl) rfl args w
theorem cfR3 (args : Array Value) (w : World) : (callFunc 85 args).run Try.prog w = .ok (.enter 85 args) w :=
  entersO (fn := Try.f85) (by kernel_rfl) (by kernel_rfl) rfl args w
theorem impl_bothCalls (w : World) : Calls Try.prog 89 #[] w (NewPost SymE [0, 1] w) := by
  go_enter Try.func89, Try.ntmps89
  go_wp2
  go_ret
  exact ⟨_, [w.heap.size], rfl, rowE_lit 2 (Bx.new w _ _) (Nat.le_refl _) rfl rfl rfl (by unfold maxLen; omega), (Below.refl _ _).alloc (Nat.le_refl _) _⟩
theorem impl_bothReturns (w : World) : Calls Try.prog 91 #[] w (NewPost SymE [2, 3] w) := by
  go_enter Try.func91, Try.ntmps91
  go_wp2
  go_ret
  exact ⟨_, [w.heap.size], rfl, rowE_lit 2 (Bx.new w _ _) (Nat.le_refl _) rfl rfl rfl (by unfold maxLen; omega), (Below.refl _ _).alloc (Nat.le_refl _) _⟩
theorem impl_bothLetters (w : World) : Calls Try.prog 93 #[] w (NewPost SymE [4, 5] w) := by
  go_enter Try.func93, Try.ntmps93
  go_wp2
  go_ret
  exact ⟨_, [w.heap.size], rfl, rowE_lit 2 (Bx.new w _ _) (Nat.le_refl _) rfl rfl rfl (by unfold maxLen; omega), (Below.refl _ _).alloc (Nat.le_refl _) _⟩
set_option maxHeartbeats 6400000 in
set_option maxRecDepth 100000 in
theorem rw_push (x s : Int) (T8 : Nat) (w : World) (hx : 0 ≤ x ∧ x ≤ 5) (h : w.cell? ⟨T8, 0, none⟩ = some (.int .i64 s)) :
    Calls Try.prog 83 #[.int .u8 x, .pointer (some ⟨T8, 0, none⟩)] w (fun e w' => e = .returned (.agg #[.int .i64 s, .int .i64 0, .string ⟨#[byteOf x]⟩]) ∧ Below w.heap.size w w') := by
  have Hx := Lib.hid hx
  have hlt := World.block_lt_of_cell? _ _ h
  have hlt' : T8 < w.heap.size := hlt
  clear hx hlt
  obtain ⟨t, ht⟩ : ∃ t, t = (⟨#[byteOf x]⟩ : ByteArray) := ⟨_, rfl⟩
  have Ht := Lib.hid (fun W => impl_text x W Hx.out)
  rw [← ht] at Ht ⊢
  clear ht
  go_enter Try.func83, Try.ntmps83
  go_upto_region 1 with fail
  go_region_with (go_at_call 56; refine (Ht.out _).mono ?_; rintro e w' ⟨rfl, rfl⟩)
  all_goals
    go_wp2
    have hb := Bx.new w 75 #[.int .i64 s, .int .i64 0, .string t]
    have c0 : (w.alloc (.cells #[.int .i64 s, .int .i64 0, .string t] 75)).drew.cell? ⟨w.heap.size, 0, none⟩ = some (.int .i64 s) := hb.cell 0 _ rfl
    have c1 : (w.alloc (.cells #[.int .i64 s, .int .i64 0, .string t] 75)).drew.cell? ⟨w.heap.size, 1, none⟩ = some (.int .i64 0) := hb.cell 1 _ rfl
    have c2 : (w.alloc (.cells #[.int .i64 s, .int .i64 0, .string t] 75)).drew.cell? ⟨w.heap.size, 2, none⟩ = some (.string t) := hb.cell 2 _ rfl
    exact bodyPost_ret (v := .agg #[.int .i64 s, .int .i64 0, .string t]) (by simp [results, Try.results83, go_sem, c0, c1, c2]) rfl ⟨rfl, below_drewN ((Below.refl _ _).alloc (Nat.le_refl _) _) 1⟩

set_option maxHeartbeats 6400000 in
set_option maxRecDepth 100000 in
theorem rw_stay (x s : Int) (T8 : Nat) (w : World) (hx : 0 ≤ x ∧ x ≤ 5) (h : w.cell? ⟨T8, 0, none⟩ = some (.int .i64 s)) :
    Calls Try.prog 84 #[.int .u8 x, .pointer (some ⟨T8, 0, none⟩)] w (fun e w' => e = .returned (.agg #[.int .i64 s, .string ⟨#[byteOf x]⟩]) ∧ Below w.heap.size w w') := by
  have Hx := Lib.hid hx
  have hlt := World.block_lt_of_cell? _ _ h
  have hlt' : T8 < w.heap.size := hlt
  clear hx hlt
  obtain ⟨t, ht⟩ : ∃ t, t = (⟨#[byteOf x]⟩ : ByteArray) := ⟨_, rfl⟩
  have Ht := Lib.hid (fun W => impl_text x W Hx.out)
  rw [← ht] at Ht ⊢
  clear ht
  go_enter Try.func84, Try.ntmps84
  go_upto_region 1 with fail
  go_region_with (go_at_call 56; refine (Ht.out _).mono ?_; rintro e w' ⟨rfl, rfl⟩)
  all_goals
    go_wp2
    have hb := Bx.new w 78 #[.int .i64 s, .string t]
    have c0 : (w.alloc (.cells #[.int .i64 s, .string t] 78)).drew.cell? ⟨w.heap.size, 0, none⟩ = some (.int .i64 s) := hb.cell 0 _ rfl
    have c1 : (w.alloc (.cells #[.int .i64 s, .string t] 78)).drew.cell? ⟨w.heap.size, 1, none⟩ = some (.string t) := hb.cell 1 _ rfl
    exact bodyPost_ret (v := .agg #[.int .i64 s, .string t]) (by simp [results, Try.results84, go_sem, c0, c1]) rfl ⟨rfl, below_drewN ((Below.refl _ _).alloc (Nat.le_refl _) _) 1⟩

set_option maxHeartbeats 6400000 in
set_option maxRecDepth 100000 in
theorem alone_om (s : Int) (t : ByteArray) (w : World) : Calls Try.prog 87 #[.agg #[.int .i64 s, .string t]] w (fun e w' => ∃ v bs, e = .returned v ∧ LitF w.heap.size 78 #[.int .i64 s, .string t] 1 w' v () bs ∧ Below w.heap.size w w') := by
  go_enter Try.func87, Try.ntmps87
  go_wp2
  go_ret
  have t := LitF.new (base := w.heap.size) 78 #[.int .i64 s, .string t] 1 (w.alloc (.cells #[.int .i64 s, .string t] 78)) (by simp)
  rw [World.size_alloc] at t
  exact ⟨_, _, rfl, t, ((Below.refl _ _).alloc (Nat.le_refl _) _).alloc (by simp) _⟩

set_option maxHeartbeats 6400000 in
set_option maxRecDepth 100000 in
theorem rw_any1 (x s : Int) (T8 T10 T4 : Nat) (w : World) (hx : 0 ≤ x ∧ x ≤ 5) (h10 : w.cell? ⟨T10, 0, none⟩ = some (.func (.func 84) #[] #[.pointer (some ⟨T8, 0, none⟩)])) (h8 : w.cell? ⟨T8, 0, none⟩ = some (.int .i64 s)) (h4 : w.cell? ⟨T4, 0, none⟩ = some (.int .i64 1)) :
    Calls Try.prog 85 #[.int .u8 x, .pointer (some ⟨T10, 0, none⟩), .pointer (some ⟨T4, 0, none⟩)] w (NewPost OmE (List.replicate 2 (s, ⟨#[byteOf x]⟩)) w) := by
  have HC := Lib.hid (And.intro h10 (And.intro h8 h4))
  have HS0 := fun W (h : W.cell? ⟨T8, 0, none⟩ = some (.int .i64 s)) => rw_stay x s T8 W hx h
  have l10 : T10 < w.heap.size := World.block_lt_of_cell? _ _ h10
  have l4 : T4 < w.heap.size := World.block_lt_of_cell? _ _ h4
  obtain ⟨t, ht⟩ : ∃ t, t = (⟨#[byteOf x]⟩ : ByteArray) := ⟨_, rfl⟩
  rw [← ht] at HS0 ⊢
  have HS := Lib.hid HS0
  clear ht hx h10 h8 h4 HS0
  go_enter Try.func85, Try.ntmps85
  go_upto_region 1 with fail
  refine wp_region_free (by kernel_rfl) [
      .val [] (fun _ => .func (.func 84) #[] #[.pointer (some ⟨T8, 0, none⟩)]),
      .val [] (fun _ => .int .u8 x),
      .val [] (fun _ => .agg #[.int .i64 s, .string t]),
      .own (LitF w.heap.size 78 #[.int .i64 s, .string t] 1) (),
      .val [] (fun _ => .int .i64 1),
      .val [] (fun _ => .int .i64 2),
      .own (OmE w.heap.size) (List.replicate 2 (s, t)),
      .val [6] (fun u => u 6)] ?hp ?hfw ?deps ?oks ?steps ?tail
  case hp => kernel_rfl
  case hfw => kernel_rfl
  case deps => kernel_rfl
  case oks =>
    intro F hF
    simp only [List.mem_cons, List.not_mem_nil, or_false] at hF
    rcases hF with rfl | rfl | rfl | rfl | rfl | rfl | rfl | rfl
    all_goals first | trivial | exact ⟨_, litf_ok _ _ _ _⟩ | exact ⟨_, om_ok _⟩
  case steps =>
    refine Steps.cons ?_ ?_
    · refine FreeStep.val [] _ rfl rfl fun u β W hW hn fr hfr K hK => ?_
      simp only [frameL, putL, Act.put, List.setIfInBounds_toArray, List.set_cons_zero, List.set_cons_succ, Nat.zero_add, Nat.reduceAdd] at hfr
      subst hfr
      have c0 := cellL HC.out.1 hW
      have HK := Lib.hid hK
      clear hK hn
      go_simp
      have h9 := HK.out
      revert h9
      clear HK
      go_simp
      try exact id
    refine Steps.cons ?_ ?_
    · refine FreeStep.val [] _ rfl rfl fun u β W hW hn fr hfr K hK => ?_
      simp only [frameL, putL, Act.put, List.setIfInBounds_toArray, List.set_cons_zero, List.set_cons_succ, Nat.zero_add, Nat.reduceAdd] at hfr
      subst hfr
      have HK := Lib.hid hK
      clear hK hn
      go_simp
      have h9 := HK.out
      revert h9
      clear HK
      go_simp
      try exact id
    refine Steps.cons ?_ ?_
    · refine FreeStep.calm [] _ rfl rfl fun u β W hW hn fr hfr K hK => ?_
      simp only [frameL, putL, Act.put, List.setIfInBounds_toArray, List.set_cons_zero, List.set_cons_succ, Nat.zero_add, Nat.reduceAdd] at hfr
      subst hfr
      have e0 : u 0 = .func (.func 84) #[] #[.pointer (some ⟨T8, 0, none⟩)] := Have.get (k := 0) hn rfl
      have e1 : u 1 = .int .u8 x := Have.get (k := 1) hn rfl
      simp only [e0, e1] at hK
      have hcf := cfR2
      have HQ := Lib.hid (HS.out W (cellL HC.out.2.1 hW))
      have HK := Lib.hid hK
      clear hK hn
      go_simp
      refine HQ.out.mono ?_
      rintro e w1 ⟨rfl, hb1⟩
      have h9 := HK.out _ hb1
      revert h9
      clear HK
      go_simp
      try exact id
    refine Steps.cons ?_ ?_
    · refine FreeStep.own (base := w.heap.size) rfl (litf_ok _ _ _ _) fun u β W hW hn fr hfr K hK => ?_
      simp only [frameL, putL, Act.put, List.setIfInBounds_toArray, List.set_cons_zero, List.set_cons_succ, Nat.zero_add, Nat.reduceAdd] at hfr
      subst hfr
      have e2 : u 2 = .agg #[.int .i64 s, .string t] := Have.get (k := 2) hn rfl
      simp only [e2] at hK
      have hsz := hW.size
      have HK := Lib.hid hK
      clear hK hn
      go_simp
      refine (alone_om _ _ _).mono ?_
      rintro e w1 ⟨v1, bs1, rfl, ⟨g1, e1, hx1, e2, hl1⟩, hb1⟩
      exact HK.out v1 bs1 w1 hb1 ⟨g1, e1, hx1, e2, Nat.le_trans hsz hl1⟩ (fun b hb => by rw [e2, List.mem_singleton] at hb; rw [hb]; exact hl1)
    refine Steps.cons ?_ ?_
    · refine FreeStep.val [] _ rfl rfl fun u β W hW hn fr hfr K hK => ?_
      simp only [frameL, putL, Act.put, List.setIfInBounds_toArray, List.set_cons_zero, List.set_cons_succ, Nat.zero_add, Nat.reduceAdd] at hfr
      subst hfr
      have c0 := cellL HC.out.2.2 hW
      have HK := Lib.hid hK
      clear hK hn
      go_simp
      have h9 := HK.out
      revert h9
      clear HK
      go_simp
      try exact id
    refine Steps.cons ?_ ?_
    · refine FreeStep.val [] _ rfl rfl fun u β W hW hn fr hfr K hK => ?_
      simp only [frameL, putL, Act.put, List.setIfInBounds_toArray, List.set_cons_zero, List.set_cons_succ, Nat.zero_add, Nat.reduceAdd] at hfr
      subst hfr
      have e4 : u 4 = .int .i64 1 := Have.get (k := 4) hn rfl
      simp only [e4] at hK
      have HK := Lib.hid hK
      clear hK hn
      go_simp
      have h9 := HK.out
      revert h9
      clear HK
      go_simp
      try exact id
    refine Steps.cons ?_ ?_
    · refine FreeStep.own (base := w.heap.size) rfl (om_ok _) fun u β W hW hn fr hfr K hK => ?_
      simp only [frameL, putL, Act.put, List.setIfInBounds_toArray, List.set_cons_zero, List.set_cons_succ, Nat.zero_add, Nat.reduceAdd] at hfr
      subst hfr
      have e5 : u 5 = .int .i64 2 := Have.get (k := 5) hn rfl
      have f3 : LitF w.heap.size 78 #[.int .i64 s, .string t] 1 W (u 3) () (β 3) := Have.get (k := 3) hn rfl
      obtain ⟨g3, hv3, hx3, _, _⟩ := f3
      simp only [e5, hv3] at hK
      have hsz := hW.size
      have HQ := Lib.hid (impl_repeat 2 g3 (s, t) W (by omega) hx3)
      have HK := Lib.hid hK
      clear hK hn hx3
      go_simp
      refine HQ.out.mono ?_
      rintro e w1 ⟨v1, bs1, rfl, E1, hb1⟩
      exact HK.out v1 bs1 w1 hb1 (oms_base hsz _ _ _ _ E1) (fun b hb => ((om_ok _).lt E1 b hb).1)
    refine Steps.cons ?_ ?_
    · refine FreeStep.val [6] _ rfl rfl fun u β W hW hn fr hfr K hK => ?_
      simp only [frameL, putL, Act.put, List.setIfInBounds_toArray, List.set_cons_zero, List.set_cons_succ, Nat.zero_add, Nat.reduceAdd] at hfr
      subst hfr
      have hon : only [6] u 6 = u 6 := rfl
      simp only [hon] at hK
      have HK := Lib.hid hK
      clear hK hn hon
      go_simp
      exact HK.out
    exact Steps.nil
  case tail =>
    intro u_ β W hW hn hdis hbnd
    have z0 : u_ 0 = .func (.func 84) #[] #[.pointer (some ⟨T8, 0, none⟩)] := Have.get (k := 0) hn rfl
    have z1 : u_ 1 = .int .u8 x := Have.get (k := 1) hn rfl
    have z2 : u_ 2 = .agg #[.int .i64 s, .string t] := Have.get (k := 2) hn rfl
    have z4 : u_ 4 = .int .i64 1 := Have.get (k := 4) hn rfl
    have z5 : u_ 5 = .int .i64 2 := Have.get (k := 5) hn rfl
    have hf6 : OmE w.heap.size W (u_ 6) (List.replicate 2 (s, t)) (β 6) := Have.get (k := 6) hn rfl
    have z7 : u_ 7 = u_ 6 := Have.get (k := 7) hn rfl
    obtain ⟨A6, k6, g6⟩ := RowE.slice hf6
    rw [g6] at z7 hf6
    rw [← frameL_eq (by kernel_rfl)]
    clear hn hdis hbnd
    generalize u_ 3 = u3
    generalize u_ 6 = u6 at *
    simp only [frameL, putL, Act.put, List.setIfInBounds_toArray, List.set_cons_zero, List.set_cons_succ, Nat.zero_add, Nat.reduceAdd, z0, z1, z2, z4, z5, z7]
    clear z0 z1 z2 z4 z5 z7
    go_wp2
    go_ret
    exact ⟨_, _, rfl, hf6, hW⟩

set_option maxHeartbeats 6400000 in
set_option maxRecDepth 100000 in
theorem rw_any2 (x s : Int) (T8 T10 T4 : Nat) (w : World) (hx : 0 ≤ x ∧ x ≤ 5) (h10 : w.cell? ⟨T10, 0, none⟩ = some (.func (.func 84) #[] #[.pointer (some ⟨T8, 0, none⟩)])) (h8 : w.cell? ⟨T8, 0, none⟩ = some (.int .i64 s)) (h4 : w.cell? ⟨T4, 0, none⟩ = some (.int .i64 2)) :
    Calls Try.prog 85 #[.int .u8 x, .pointer (some ⟨T10, 0, none⟩), .pointer (some ⟨T4, 0, none⟩)] w (NewPost OmE (List.replicate 3 (s, ⟨#[byteOf x]⟩)) w) := by
  have HC := Lib.hid (And.intro h10 (And.intro h8 h4))
  have HS0 := fun W (h : W.cell? ⟨T8, 0, none⟩ = some (.int .i64 s)) => rw_stay x s T8 W hx h
  have l10 : T10 < w.heap.size := World.block_lt_of_cell? _ _ h10
  have l4 : T4 < w.heap.size := World.block_lt_of_cell? _ _ h4
  obtain ⟨t, ht⟩ : ∃ t, t = (⟨#[byteOf x]⟩ : ByteArray) := ⟨_, rfl⟩
  rw [← ht] at HS0 ⊢
  have HS := Lib.hid HS0
  clear ht hx h10 h8 h4 HS0
  go_enter Try.func85, Try.ntmps85
  go_upto_region 1 with fail
  refine wp_region_free (by kernel_rfl) [
      .val [] (fun _ => .func (.func 84) #[] #[.pointer (some ⟨T8, 0, none⟩)]),
      .val [] (fun _ => .int .u8 x),
      .val [] (fun _ => .agg #[.int .i64 s, .string t]),
      .own (LitF w.heap.size 78 #[.int .i64 s, .string t] 1) (),
      .val [] (fun _ => .int .i64 2),
      .val [] (fun _ => .int .i64 3),
      .own (OmE w.heap.size) (List.replicate 3 (s, t)),
      .val [6] (fun u => u 6)] ?hp ?hfw ?deps ?oks ?steps ?tail
  case hp => kernel_rfl
  case hfw => kernel_rfl
  case deps => kernel_rfl
  case oks =>
    intro F hF
    simp only [List.mem_cons, List.not_mem_nil, or_false] at hF
    rcases hF with rfl | rfl | rfl | rfl | rfl | rfl | rfl | rfl
    all_goals first | trivial | exact ⟨_, litf_ok _ _ _ _⟩ | exact ⟨_, om_ok _⟩
  case steps =>
    refine Steps.cons ?_ ?_
    · refine FreeStep.val [] _ rfl rfl fun u β W hW hn fr hfr K hK => ?_
      simp only [frameL, putL, Act.put, List.setIfInBounds_toArray, List.set_cons_zero, List.set_cons_succ, Nat.zero_add, Nat.reduceAdd] at hfr
      subst hfr
      have c0 := cellL HC.out.1 hW
      have HK := Lib.hid hK
      clear hK hn
      go_simp
      have h9 := HK.out
      revert h9
      clear HK
      go_simp
      try exact id
    refine Steps.cons ?_ ?_
    · refine FreeStep.val [] _ rfl rfl fun u β W hW hn fr hfr K hK => ?_
      simp only [frameL, putL, Act.put, List.setIfInBounds_toArray, List.set_cons_zero, List.set_cons_succ, Nat.zero_add, Nat.reduceAdd] at hfr
      subst hfr
      have HK := Lib.hid hK
      clear hK hn
      go_simp
      have h9 := HK.out
      revert h9
      clear HK
      go_simp
      try exact id
    refine Steps.cons ?_ ?_
    · refine FreeStep.calm [] _ rfl rfl fun u β W hW hn fr hfr K hK => ?_
      simp only [frameL, putL, Act.put, List.setIfInBounds_toArray, List.set_cons_zero, List.set_cons_succ, Nat.zero_add, Nat.reduceAdd] at hfr
      subst hfr
      have e0 : u 0 = .func (.func 84) #[] #[.pointer (some ⟨T8, 0, none⟩)] := Have.get (k := 0) hn rfl
      have e1 : u 1 = .int .u8 x := Have.get (k := 1) hn rfl
      simp only [e0, e1] at hK
      have hcf := cfR2
      have HQ := Lib.hid (HS.out W (cellL HC.out.2.1 hW))
      have HK := Lib.hid hK
      clear hK hn
      go_simp
      refine HQ.out.mono ?_
      rintro e w1 ⟨rfl, hb1⟩
      have h9 := HK.out _ hb1
      revert h9
      clear HK
      go_simp
      try exact id
    refine Steps.cons ?_ ?_
    · refine FreeStep.own (base := w.heap.size) rfl (litf_ok _ _ _ _) fun u β W hW hn fr hfr K hK => ?_
      simp only [frameL, putL, Act.put, List.setIfInBounds_toArray, List.set_cons_zero, List.set_cons_succ, Nat.zero_add, Nat.reduceAdd] at hfr
      subst hfr
      have e2 : u 2 = .agg #[.int .i64 s, .string t] := Have.get (k := 2) hn rfl
      simp only [e2] at hK
      have hsz := hW.size
      have HK := Lib.hid hK
      clear hK hn
      go_simp
      refine (alone_om _ _ _).mono ?_
      rintro e w1 ⟨v1, bs1, rfl, ⟨g1, e1, hx1, e2, hl1⟩, hb1⟩
      exact HK.out v1 bs1 w1 hb1 ⟨g1, e1, hx1, e2, Nat.le_trans hsz hl1⟩ (fun b hb => by rw [e2, List.mem_singleton] at hb; rw [hb]; exact hl1)
    refine Steps.cons ?_ ?_
    · refine FreeStep.val [] _ rfl rfl fun u β W hW hn fr hfr K hK => ?_
      simp only [frameL, putL, Act.put, List.setIfInBounds_toArray, List.set_cons_zero, List.set_cons_succ, Nat.zero_add, Nat.reduceAdd] at hfr
      subst hfr
      have c0 := cellL HC.out.2.2 hW
      have HK := Lib.hid hK
      clear hK hn
      go_simp
      have h9 := HK.out
      revert h9
      clear HK
      go_simp
      try exact id
    refine Steps.cons ?_ ?_
    · refine FreeStep.val [] _ rfl rfl fun u β W hW hn fr hfr K hK => ?_
      simp only [frameL, putL, Act.put, List.setIfInBounds_toArray, List.set_cons_zero, List.set_cons_succ, Nat.zero_add, Nat.reduceAdd] at hfr
      subst hfr
      have e4 : u 4 = .int .i64 2 := Have.get (k := 4) hn rfl
      simp only [e4] at hK
      have HK := Lib.hid hK
      clear hK hn
      go_simp
      have h9 := HK.out
      revert h9
      clear HK
      go_simp
      try exact id
    refine Steps.cons ?_ ?_
    · refine FreeStep.own (base := w.heap.size) rfl (om_ok _) fun u β W hW hn fr hfr K hK => ?_
      simp only [frameL, putL, Act.put, List.setIfInBounds_toArray, List.set_cons_zero, List.set_cons_succ, Nat.zero_add, Nat.reduceAdd] at hfr
      subst hfr
      have e5 : u 5 = .int .i64 3 := Have.get (k := 5) hn rfl
      have f3 : LitF w.heap.size 78 #[.int .i64 s, .string t] 1 W (u 3) () (β 3) := Have.get (k := 3) hn rfl
      obtain ⟨g3, hv3, hx3, _, _⟩ := f3
      simp only [e5, hv3] at hK
      have hsz := hW.size
      have HQ := Lib.hid (impl_repeat 3 g3 (s, t) W (by omega) hx3)
      have HK := Lib.hid hK
      clear hK hn hx3
      go_simp
      refine HQ.out.mono ?_
      rintro e w1 ⟨v1, bs1, rfl, E1, hb1⟩
      exact HK.out v1 bs1 w1 hb1 (oms_base hsz _ _ _ _ E1) (fun b hb => ((om_ok _).lt E1 b hb).1)
    refine Steps.cons ?_ ?_
    · refine FreeStep.val [6] _ rfl rfl fun u β W hW hn fr hfr K hK => ?_
      simp only [frameL, putL, Act.put, List.setIfInBounds_toArray, List.set_cons_zero, List.set_cons_succ, Nat.zero_add, Nat.reduceAdd] at hfr
      subst hfr
      have hon : only [6] u 6 = u 6 := rfl
      simp only [hon] at hK
      have HK := Lib.hid hK
      clear hK hn hon
      go_simp
      exact HK.out
    exact Steps.nil
  case tail =>
    intro u_ β W hW hn hdis hbnd
    have z0 : u_ 0 = .func (.func 84) #[] #[.pointer (some ⟨T8, 0, none⟩)] := Have.get (k := 0) hn rfl
    have z1 : u_ 1 = .int .u8 x := Have.get (k := 1) hn rfl
    have z2 : u_ 2 = .agg #[.int .i64 s, .string t] := Have.get (k := 2) hn rfl
    have z4 : u_ 4 = .int .i64 2 := Have.get (k := 4) hn rfl
    have z5 : u_ 5 = .int .i64 3 := Have.get (k := 5) hn rfl
    have hf6 : OmE w.heap.size W (u_ 6) (List.replicate 3 (s, t)) (β 6) := Have.get (k := 6) hn rfl
    have z7 : u_ 7 = u_ 6 := Have.get (k := 7) hn rfl
    obtain ⟨A6, k6, g6⟩ := RowE.slice hf6
    rw [g6] at z7 hf6
    rw [← frameL_eq (by kernel_rfl)]
    clear hn hdis hbnd
    generalize u_ 3 = u3
    generalize u_ 6 = u6 at *
    simp only [frameL, putL, Act.put, List.setIfInBounds_toArray, List.set_cons_zero, List.set_cons_succ, Nat.zero_add, Nat.reduceAdd, z0, z1, z2, z4, z5, z7]
    clear z0 z1 z2 z4 z5 z7
    go_wp2
    go_ret
    exact ⟨_, _, rfl, hf6, hW⟩

end Go.Proofs.Ytmkamodmnplclaa
