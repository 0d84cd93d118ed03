/- l03Of of the model: a checker as choices. -/
import Derived.Test.YticmekdfdilcpaaTriM
import Derived.Test.YticmekdfdilcpaaMapped
import Derived.Deep.AppendLies
import Derived.Deep.Cut
import Derived.StillTailTactics
namespace Go.Proofs.Yticmekdfdilcpaa
open Go.RowKit
set_option linter.unusedVariables false
theorem res_of (tm : Array Value) (w : World) (B : Nat) (s0 : Int) (A0 A1 A2 A3 A4 : Option Addr) (n0 n1 n2 n3 n4 k0 k1 k2 k3 k4 : Nat) (h : tm.getD 2 undef = .pointer (some ⟨B, 0, none⟩))
    (y0 : w.cell? ⟨B, 0, none⟩ = some (.int .i64 s0)) (y1 : w.cell? ⟨B, 1, none⟩ = some (.slice A0 n0 k0)) (y2 : w.cell? ⟨B, 2, none⟩ = some (.slice A1 n1 k1)) (y3 : w.cell? ⟨B, 3, none⟩ = some (.slice A2 n2 k2)) (y4 : w.cell? ⟨B, 4, none⟩ = some (.slice A3 n3 k3)) (y5 : w.cell? ⟨B, 5, none⟩ = some (.slice A4 n4 k4)) :
    (results Try.f49 tm).run Try.prog w = .ok (.agg #[.int .i64 s0, .slice A0 n0 k0, .slice A1 n1 k1, .slice A2 n2 k2, .slice A3 n3 k3, .slice A4 n4 k4]) w := by
  have h' : tm[2]?.getD undef = .pointer (some ⟨B, 0, none⟩) := by simpa using h
  simp [results, Try.results49, go_sem, h', y0, y1, y2, y3, y4, y5]
set_option maxHeartbeats 51200000 in
set_option maxRecDepth 100000 in
theorem spec_of {base Bc n ga ka gc kc gr kr gi ki : Nat} {s0 s1 : Int} {c : Ck} {b1 b2 b3 b4 : List Nat} (w : World) (hokc : OkC c) (hs0 : c.stack = s0) (hs1 : c.start = s1) (hn : n = c.accept.length)
    (hbc : Bx w Bc 46 #[.int .i64 s0, .int .i64 s1, .slice (some ⟨ga, 0, none⟩) n ka, .slice (some ⟨gc, 0, none⟩) n kc, .slice (some ⟨gr, 0, none⟩) n kr, .slice (some ⟨gi, 0, none⟩) n ki])
    (h1 : BoolsE base w (.slice (some ⟨ga, 0, none⟩) n ka) c.accept b1) (h2 : Push2E base w (.slice (some ⟨gc, 0, none⟩) n kc) c.call b2) (h3 : Ints3E base w (.slice (some ⟨gr, 0, none⟩) n kr) c.ret b3) (h4 : Ints2E base w (.slice (some ⟨gi, 0, none⟩) n ki) c.inner b4) :
    Calls Try.prog 49 #[.pointer (some ⟨Bc, 0, none⟩)] w (NewPost ChE (chOf c) w) := by
  have hres : chOf c = { stack := s0, starts := one1 s1, accept := c.accept, call := ones2 c.call, ret := ones3 c.ret, inner := ones2 c.inner } := by rw [← hs0, ← hs1]; rfl
  rw [hres]
  have n40 : 1 ≤ n ∧ n ≤ 40 := by rw [hn]; exact ⟨hokc.n1, hokc.n2⟩
  have Hst := Lib.hid (fun (s : Nat) (hs : s < n) => st_at h1 h2 h3 h4 hokc (by rw [← hn]; exact hs))
  have HL := Lib.hid (lens_okC hokc)
  have LC := Lib.hid (show c.call.length = n by rw [hn, hokc.lc])
  have LR := Lib.hid (show c.ret.length = n by rw [hn, hokc.lr])
  have LI := Lib.hid (show c.inner.length = n by rw [hn, hokc.li])
  have HN := Lib.hid hn
  have H1 := Lib.hid h1
  have HBc := Lib.hid hbc
  have lbc := hbc.lt
  have hres0 := Bx.new w 33 #[.int .i64 0, .slice none 0 0, .slice none 0 0, .slice none 0 0, .slice none 0 0, .slice none 0 0]
  have hB0 := (Below.refl w.heap.size w).alloc (Nat.le_refl _) (.cells #[.int .i64 0, .slice none 0 0, .slice none 0 0, .slice none 0 0, .slice none 0 0, .slice none 0 0] 33)
  have cb := hbc.later hB0
  have H0 := Lib.hid (And.intro hres0 hB0)
  obtain ⟨x0, x1, x2, x3, x4, x5, xl⟩ := id cb.all6
  clear hres hs0 hs1 hn hokc hbc h1 h2 h3 h4 cb hres0 hB0
  go_enter Try.func49, Try.ntmps49
  go_upto_region 1 with fail
  obtain ⟨W0, hW0⟩ : ∃ W0, W0 = w.alloc (.cells #[.int .i64 0, .slice none 0 0, .slice none 0 0, .slice none 0 0, .slice none 0 0, .slice none 0 0] 33) := ⟨_, rfl⟩
  have hW0s : W0.heap.size = w.heap.size + 1 := by rw [hW0]; simp
  rw [← hW0] at H0 x0 x1 x2 x3 x4 x5 ⊢
  clear hW0
  obtain ⟨i0, hi0, hz0_, hz1_, hz2_⟩ := info_parts toInfo_bool
  refine wp_region_free_last (by kernel_rfl) [
      .val [] (fun _ => .pointer (some ⟨Bc, 0, none⟩)),
      .val [] (fun _ => .pointer (some ⟨Bc, 0, none⟩)),
      .val [] (fun _ => .pointer (some ⟨Bc, 0, none⟩)),
      .val [] (fun _ => .int .i64 s0),
      .val [] (fun _ => .pointer (some ⟨Bc, 0, none⟩)),
      .val [] (fun _ => .pointer (some ⟨Bc, 0, none⟩)),
      .val [] (fun _ => .pointer (some ⟨Bc, 1, none⟩)),
      .val [] (fun _ => .int .i64 s1),
      .own (IntsE W0.heap.size) (one1 s1),
      .own (EmptyE W0.heap.size 4) (),
      .val [] (fun _ => .pointer (some ⟨Bc, 0, none⟩)),
      .val [] (fun _ => .pointer (some ⟨Bc, 0, none⟩)),
      .val [] (fun _ => .pointer (some ⟨Bc, 2, none⟩)),
      .val [] (fun _ => .slice (some ⟨ga, 0, none⟩) n ka),
      .own (BoolsE W0.heap.size) c.accept,
      .val [8, 14] (fun u => .agg #[.int .i64 s0, u 8, u 14, .slice none 0 0, .slice none 0 0, .slice none 0 0]),
      .own (PtrE W0.heap.size 33 #[.int .i64 0, .slice none 0 0, .slice none 0 0, .slice none 0 0, .slice none 0 0, .slice none 0 0]) ()] ?hp ?hfw ?deps ?oks ?hl ?hpos ?steps
  case hp => kernel_rfl
  case hfw => kernel_rfl
  case deps => kernel_rfl
  case hl => kernel_rfl
  case hpos => kernel_rfl
  case oks =>
    intro F hF
    simp only [List.mem_cons, List.not_mem_nil, or_false] at hF
    rcases hF with rfl | rfl | rfl | rfl | rfl | rfl | rfl | rfl | rfl | rfl | rfl | rfl | rfl | rfl | rfl | rfl | rfl
    · trivial
    · trivial
    · trivial
    · trivial
    · trivial
    · trivial
    · trivial
    · trivial
    · exact ⟨_, ints_ok _⟩
    · exact ⟨_, empty_ok _ _⟩
    · trivial
    · trivial
    · trivial
    · trivial
    · exact ⟨_, bools_ok _⟩
    · trivial
    · exact ⟨_, ptr_ok _ _ _⟩
  case steps =>
    refine StepsL.cons ?_ ?_
    · refine FreeStep.val [] _ rfl rfl fun u β W hW hn fr hfr K hK => ?_
      simp only [frameL, putL, Act.put, List.setIfInBounds_toArray, List.set_cons_zero, List.set_cons_succ, Nat.zero_add, Nat.reduceAdd] at hfr
      subst hfr
      have HK := Lib.hid hK
      clear hK hn
      go_simp
      have h9 := HK.out
      revert h9
      clear HK
      go_simp
      try exact id
    refine StepsL.cons ?_ ?_
    · refine FreeStep.val [] _ rfl rfl fun u β W hW hn fr hfr K hK => ?_
      simp only [frameL, putL, Act.put, List.setIfInBounds_toArray, List.set_cons_zero, List.set_cons_succ, Nat.zero_add, Nat.reduceAdd] at hfr
      subst hfr
      have e0 : u 0 = .pointer (some ⟨Bc, 0, none⟩) := Have.get (k := 0) hn rfl
      simp only [e0] at hK
      have HK := Lib.hid hK
      clear hK hn
      go_simp
      have h9 := HK.out
      revert h9
      clear HK
      go_simp
      try exact id
    refine StepsL.cons ?_ ?_
    · refine FreeStep.val [] _ rfl rfl fun u β W hW hn fr hfr K hK => ?_
      simp only [frameL, putL, Act.put, List.setIfInBounds_toArray, List.set_cons_zero, List.set_cons_succ, Nat.zero_add, Nat.reduceAdd] at hfr
      subst hfr
      have e1 : u 1 = .pointer (some ⟨Bc, 0, none⟩) := Have.get (k := 1) hn rfl
      simp only [e1] at hK
      have HK := Lib.hid hK
      clear hK hn
      go_simp
      have h9 := HK.out
      revert h9
      clear HK
      go_simp
      try exact id
    refine StepsL.cons ?_ ?_
    · refine FreeStep.val [] _ rfl rfl fun u β W hW hn fr hfr K hK => ?_
      simp only [frameL, putL, Act.put, List.setIfInBounds_toArray, List.set_cons_zero, List.set_cons_succ, Nat.zero_add, Nat.reduceAdd] at hfr
      subst hfr
      have e2 : u 2 = .pointer (some ⟨Bc, 0, none⟩) := Have.get (k := 2) hn rfl
      simp only [e2] at hK
      have c0 := cellL x0 hW
      have HK := Lib.hid hK
      clear hK hn
      go_simp
      have h9 := HK.out
      revert h9
      clear HK
      go_simp
      try exact id
    refine StepsL.cons ?_ ?_
    · refine FreeStep.val [] _ rfl rfl fun u β W hW hn fr hfr K hK => ?_
      simp only [frameL, putL, Act.put, List.setIfInBounds_toArray, List.set_cons_zero, List.set_cons_succ, Nat.zero_add, Nat.reduceAdd] at hfr
      subst hfr
      have HK := Lib.hid hK
      clear hK hn
      go_simp
      have h9 := HK.out
      revert h9
      clear HK
      go_simp
      try exact id
    refine StepsL.cons ?_ ?_
    · refine FreeStep.val [] _ rfl rfl fun u β W hW hn fr hfr K hK => ?_
      simp only [frameL, putL, Act.put, List.setIfInBounds_toArray, List.set_cons_zero, List.set_cons_succ, Nat.zero_add, Nat.reduceAdd] at hfr
      subst hfr
      have e4 : u 4 = .pointer (some ⟨Bc, 0, none⟩) := Have.get (k := 4) hn rfl
      simp only [e4] at hK
      have HK := Lib.hid hK
      clear hK hn
      go_simp
      have h9 := HK.out
      revert h9
      clear HK
      go_simp
      try exact id
    refine StepsL.cons ?_ ?_
    · refine FreeStep.val [] _ rfl rfl fun u β W hW hn fr hfr K hK => ?_
      simp only [frameL, putL, Act.put, List.setIfInBounds_toArray, List.set_cons_zero, List.set_cons_succ, Nat.zero_add, Nat.reduceAdd] at hfr
      subst hfr
      have e5 : u 5 = .pointer (some ⟨Bc, 0, none⟩) := Have.get (k := 5) hn rfl
      simp only [e5] at hK
      have HK := Lib.hid hK
      clear hK hn
      go_simp
      have h9 := HK.out
      revert h9
      clear HK
      go_simp
      try exact id
    refine StepsL.cons ?_ ?_
    · refine FreeStep.val [] _ rfl rfl fun u β W hW hn fr hfr K hK => ?_
      simp only [frameL, putL, Act.put, List.setIfInBounds_toArray, List.set_cons_zero, List.set_cons_succ, Nat.zero_add, Nat.reduceAdd] at hfr
      subst hfr
      have e6 : u 6 = .pointer (some ⟨Bc, 1, none⟩) := Have.get (k := 6) hn rfl
      simp only [e6] at hK
      have c0 := cellL x1 hW
      have HK := Lib.hid hK
      clear hK hn
      go_simp
      have h9 := HK.out
      revert h9
      clear HK
      go_simp
      try exact id
    refine StepsL.cons ?_ ?_
    · refine FreeStep.own (base := W0.heap.size) rfl (ints_ok _) fun u β W hW hn fr hfr K hK => ?_
      simp only [frameL, putL, Act.put, List.setIfInBounds_toArray, List.set_cons_zero, List.set_cons_succ, Nat.zero_add, Nat.reduceAdd] at hfr
      subst hfr
      have e7 : u 7 = .int .i64 s1 := Have.get (k := 7) hn rfl
      simp only [e7] at hK
      have hsz := hW.size
      have HK := Lib.hid hK
      clear hK hn
      go_simp
      exact HK.out _ [W.heap.size] _ ((Below.refl _ _).alloc (Nat.le_refl _) _) (rowE_lit 1 (Bx.new W _ _) hsz rfl rfl rfl (by unfold maxLen; omega)) (fun b hb => by rw [List.mem_singleton.1 hb]; exact Nat.le_refl _)
    refine StepsL.cons ?_ ?_
    · refine FreeStep.own (base := W0.heap.size) rfl (empty_ok _ _) fun u β W hW hn fr hfr K hK => ?_
      simp only [frameL, putL, Act.put, List.setIfInBounds_toArray, List.set_cons_zero, List.set_cons_succ, Nat.zero_add, Nat.reduceAdd] at hfr
      subst hfr
      have hsz := hW.size
      have HK := Lib.hid hK
      clear hK hn
      go_simp
      exact HK.out _ [W.heap.size] _ ((Below.refl _ _).alloc (Nat.le_refl _) _) ⟨W.heap.size, rfl, Bx.new _ _ _, rfl, hsz⟩ (fun b hb => by rw [List.mem_singleton.1 hb]; exact Nat.le_refl _)
    refine StepsL.cons ?_ ?_
    · refine FreeStep.val [] _ rfl rfl fun u β W hW hn fr hfr K hK => ?_
      simp only [frameL, putL, Act.put, List.setIfInBounds_toArray, List.set_cons_zero, List.set_cons_succ, Nat.zero_add, Nat.reduceAdd] at hfr
      subst hfr
      have HK := Lib.hid hK
      clear hK hn
      go_simp
      have h9 := HK.out
      revert h9
      clear HK
      go_simp
      try exact id
    refine StepsL.cons ?_ ?_
    · refine FreeStep.val [] _ rfl rfl fun u β W hW hn fr hfr K hK => ?_
      simp only [frameL, putL, Act.put, List.setIfInBounds_toArray, List.set_cons_zero, List.set_cons_succ, Nat.zero_add, Nat.reduceAdd] at hfr
      subst hfr
      have e10 : u 10 = .pointer (some ⟨Bc, 0, none⟩) := Have.get (k := 10) hn rfl
      simp only [e10] at hK
      have HK := Lib.hid hK
      clear hK hn
      go_simp
      have h9 := HK.out
      revert h9
      clear HK
      go_simp
      try exact id
    refine StepsL.cons ?_ ?_
    · refine FreeStep.val [] _ rfl rfl fun u β W hW hn fr hfr K hK => ?_
      simp only [frameL, putL, Act.put, List.setIfInBounds_toArray, List.set_cons_zero, List.set_cons_succ, Nat.zero_add, Nat.reduceAdd] at hfr
      subst hfr
      have e11 : u 11 = .pointer (some ⟨Bc, 0, none⟩) := Have.get (k := 11) hn rfl
      simp only [e11] at hK
      have HK := Lib.hid hK
      clear hK hn
      go_simp
      have h9 := HK.out
      revert h9
      clear HK
      go_simp
      try exact id
    refine StepsL.cons ?_ ?_
    · refine FreeStep.val [] _ rfl rfl fun u β W hW hn fr hfr K hK => ?_
      simp only [frameL, putL, Act.put, List.setIfInBounds_toArray, List.set_cons_zero, List.set_cons_succ, Nat.zero_add, Nat.reduceAdd] at hfr
      subst hfr
      have e12 : u 12 = .pointer (some ⟨Bc, 2, none⟩) := Have.get (k := 12) hn rfl
      simp only [e12] at hK
      have c0 := cellL x2 hW
      have HK := Lib.hid hK
      clear hK hn
      go_simp
      have h9 := HK.out
      revert h9
      clear HK
      go_simp
      try exact id
    refine StepsL.cons ?_ ?_
    · refine FreeStep.own (base := W0.heap.size) rfl (bools_ok _) fun u β W hW hn fr hfr K hK => ?_
      simp only [frameL, putL, Act.put, List.setIfInBounds_toArray, List.set_cons_zero, List.set_cons_succ, Nat.zero_add, Nat.reduceAdd] at hfr
      subst hfr
      have f9 : (EmptyE W0.heap.size 4) W (u 9) () (β 9) := Have.get (k := 9) hn rfl
      have e13 : u 13 = .slice (some ⟨ga, 0, none⟩) n ka := Have.get (k := 13) hn rfl
      obtain ⟨b8, g8, hb8, _, _⟩ := f9
      have hsz := hW.size
      have hrow := (bools_ok _).later H1.out (H0.out.2.trans (hW.mono H0.out.2.size))
      have hszW := hW.size
      have HK := Lib.hid hK
      clear hK hn
      refine step_append_grows rfl _ _ 23 rfl 4 i0 (.bool false) 1 1 Try.underlying23 hi0 hz0_ hz1_ hz2_ rfl (by decide) (some ⟨b8, 0, none⟩) 0 0 [] g8 (fun h => by cases h) rfl (fun b hb j u hu => by simp at hu) ⟨ga, 0, none⟩ n ka _ e13 ?_ (RowE.news hrow) ?_ (by omega) (by unfold maxLen; omega) (by omega) ?_
      · rw [HN.out]; exact hrow.1.1
      · intro u hu; simp only [List.mem_flatMap, List.mem_singleton] at hu; obtain ⟨x, _, rfl⟩ := hu; rfl
      · intro v' w' hown hgr
        have hb' : Below W.heap.size W w' := ⟨hgr.os, hgr.tape, hgr.output, hgr.size, fun k hk => hgr.block k hk (by simp)⟩
        have hE : BoolsE W.heap.size w' v' c.accept v'.ownBlock.toList := ⟨by rw [← HN.out]; simpa using hown, rfl⟩
        exact HK.out v' _ w' hb' (bools_base hszW _ _ _ _ hE) (fun b hb => ((bools_ok _).lt hE b hb).1)
    refine StepsL.cons ?_ ?_
    · refine FreeStep.val [8, 14] _ rfl rfl fun u β W hW hn fr hfr K hK => ?_
      simp only [frameL, putL, Act.put, List.setIfInBounds_toArray, List.set_cons_zero, List.set_cons_succ, Nat.zero_add, Nat.reduceAdd] at hfr
      subst hfr
      have e3 : u 3 = .int .i64 s0 := Have.get (k := 3) hn rfl
      have f8 : (IntsE W0.heap.size) W (u 8) (one1 s1) (β 8) := Have.get (k := 8) hn rfl
      have f14 : (BoolsE W0.heap.size) W (u 14) c.accept (β 14) := Have.get (k := 14) hn rfl
      obtain ⟨A8, k8, g8⟩ := RowE.slice f8
      obtain ⟨A14, k14, g14⟩ := RowE.slice f14
      have hon8 : only [8, 14] u 8 = u 8 := rfl
      have hon14 : only [8, 14] u 14 = u 14 := rfl
      simp only [hon14, hon8, e3, g8, g14] at hK
      have HK := Lib.hid hK
      clear hK hn hon8 hon14 f8 f14
      go_simp
      exact HK.out
    refine StepsL.cons ?_ ?_
    · refine FreeStep.own (base := W0.heap.size) rfl (ptr_ok _ _ _) fun u β W hW hn fr hfr K hK => ?_
      simp only [frameL, putL, Act.put, List.setIfInBounds_toArray, List.set_cons_zero, List.set_cons_succ, Nat.zero_add, Nat.reduceAdd] at hfr
      subst hfr
      have hsz := hW.size
      have HK := Lib.hid hK
      clear hK hn
      go_simp
      exact HK.out _ [W.heap.size] _ ((Below.refl _ _).alloc (Nat.le_refl _) _) ⟨W.heap.size, rfl, Bx.new _ _ _, rfl, hsz⟩ (fun b hb => by rw [List.mem_singleton.1 hb]; exact Nat.le_refl _)
    intro u β W hW hn hdis hbnd fr hfr K hK
    simp only [frameL, putL, Act.put, List.setIfInBounds_toArray, List.set_cons_zero, List.set_cons_succ, Nat.zero_add, Nat.reduceAdd] at hfr
    subst hfr
    have z0 : u 0 = .pointer (some ⟨Bc, 0, none⟩) := Have.get (k := 0) hn rfl
    have z1 : u 1 = .pointer (some ⟨Bc, 0, none⟩) := Have.get (k := 1) hn rfl
    have z2 : u 2 = .pointer (some ⟨Bc, 0, none⟩) := Have.get (k := 2) hn rfl
    have z3 : u 3 = .int .i64 s0 := Have.get (k := 3) hn rfl
    have z4 : u 4 = .pointer (some ⟨Bc, 0, none⟩) := Have.get (k := 4) hn rfl
    have z5 : u 5 = .pointer (some ⟨Bc, 0, none⟩) := Have.get (k := 5) hn rfl
    have z6 : u 6 = .pointer (some ⟨Bc, 1, none⟩) := Have.get (k := 6) hn rfl
    have z7 : u 7 = .int .i64 s1 := Have.get (k := 7) hn rfl
    have f8 : (IntsE W0.heap.size) W (u 8) (one1 s1) (β 8) := Have.get (k := 8) hn rfl
    have f9 : (EmptyE W0.heap.size 4) W (u 9) () (β 9) := Have.get (k := 9) hn rfl
    have z10 : u 10 = .pointer (some ⟨Bc, 0, none⟩) := Have.get (k := 10) hn rfl
    have z11 : u 11 = .pointer (some ⟨Bc, 0, none⟩) := Have.get (k := 11) hn rfl
    have z12 : u 12 = .pointer (some ⟨Bc, 2, none⟩) := Have.get (k := 12) hn rfl
    have z13 : u 13 = .slice (some ⟨ga, 0, none⟩) n ka := Have.get (k := 13) hn rfl
    have f14 : (BoolsE W0.heap.size) W (u 14) c.accept (β 14) := Have.get (k := 14) hn rfl
    have z15 : u 15 = .agg #[.int .i64 s0, u 8, u 14, .slice none 0 0, .slice none 0 0, .slice none 0 0] := Have.get (k := 15) hn rfl
    have f16 : (PtrE W0.heap.size 33 #[.int .i64 0, .slice none 0 0, .slice none 0 0, .slice none 0 0, .slice none 0 0, .slice none 0 0]) W (u 16) () (β 16) := Have.get (k := 16) hn rfl
    obtain ⟨A8, m8, k8, g8⟩ : ∃ A m k, u 8 = .slice A m k := by obtain ⟨A, k, h⟩ := RowE.slice f8; exact ⟨_, _, _, h⟩
    obtain ⟨A14, m14, k14, g14⟩ : ∃ A m k, u 14 = .slice A m k := by obtain ⟨A, k, h⟩ := RowE.slice f14; exact ⟨_, _, _, h⟩
    obtain ⟨bm, g16, hbm, hb16, hlm⟩ := f16
    rw [g8] at f8
    rw [g14] at f14
    have hd1 : ∀ b ∈ β 8, b ∉ β 14 := hdis 8 14 (by decide) (by decide) (by decide)
    have hd2 : ∀ b ∈ β 8, b ∉ β 16 := hdis 8 16 (by decide) (by decide) (by decide)
    have hd3 : ∀ b ∈ β 14, b ∉ β 16 := hdis 14 16 (by decide) (by decide) (by decide)
    simp only [z0, z1, z2, z3, z4, z5, z6, z7, z10, z11, z12, z13, z15, g8, g14, g16]
    rw [hb16] at hd2 hd3
    have HF := Lib.hid (And.intro f8 (And.intro f14 (And.intro hd1 (And.intro hd2 (And.intro hd3 (And.intro hlm (And.intro hbm (H0.out.2.trans (hW.mono H0.out.2.size)))))))))
    have HR0 := Lib.hid (H0.out.1.later hW)
    have hszW := hW.size
    obtain ⟨c0, c1, c2, c3, c4, c5, cl⟩ := id hbm.all6
    have d0 := hbm.frozen 0
    have d1 := hbm.frozen 1
    have d2 := hbm.frozen 2
    have d3 := hbm.frozen 3
    have d4 := hbm.frozen 4
    have d5 := hbm.frozen 5
    have HK := Lib.hid hK
    clear hK hn hdis hbnd z0 z1 z2 z3 z4 z5 z6 z7 z10 z11 z12 z13 z15 f8 f9 f14 hbm hb16 hlm hd1 hd2 hd3 g8 g14 g16
    go_simp
    refine HK.out _ _ ?_
    clear HK
    clear c0 c1 c2 c3 c4 c5 cl d0 d1 d2 d3 d4 d5
    obtain ⟨f8, f14, hd1, hd2, hd3, hlm, hbm, hBW⟩ := HF.out
    have q0_ := hbm.set 0 (.int .i64 s0)
    have q1_ := q0_.set 1 (.slice A8 m8 k8)
    have q2_ := q1_.set 2 (.slice A14 m14 k14)
    have q3_ := q2_.set 3 (.slice none 0 0)
    have q4_ := q3_.set 4 (.slice none 0 0)
    have q5_ := q4_.set 5 (.slice none 0 0)
    have hbl := hbm.lt
    obtain ⟨X1, hX1⟩ : ∃ X, X = ((((((W.setCell ⟨bm, 0, none⟩ (.int .i64 s0)).setCell ⟨bm, 1, none⟩ (.slice A8 m8 k8)).setCell ⟨bm, 2, none⟩ (.slice A14 m14 k14)).setCell ⟨bm, 3, none⟩ (.slice none 0 0)).setCell ⟨bm, 4, none⟩ (.slice none 0 0)).setCell ⟨bm, 5, none⟩ (.slice none 0 0)) := ⟨_, rfl⟩
    have hXs : X1.heap.size = W.heap.size := by rw [hX1]; simp
    have hfr : ∀ (V : World) (i : Nat) (v : Value) (b : Nat), b ≠ bm → (V.setCell ⟨bm, i, none⟩ v).heap[b]? = V.heap[b]? := fun V i v b hb => Below.heap_setCell V ⟨bm, i, none⟩ v b hb
    have hkeep : ∀ b, b ≠ bm → X1.heap[b]? = W.heap[b]? := fun b hb => by rw [hX1, hfr _ _ _ b hb, hfr _ _ _ b hb, hfr _ _ _ b hb, hfr _ _ _ b hb, hfr _ _ _ b hb, hfr _ _ _ b hb]
    have hwm : w.heap.size ≤ bm := by omega
    have hBX : Below w.heap.size w X1 := by
      rw [hX1]
      exact ((((((hBW.setCell (p := ⟨bm, 0, none⟩) hwm _).setCell (p := ⟨bm, 1, none⟩) hwm _).setCell (p := ⟨bm, 2, none⟩) hwm _).setCell (p := ⟨bm, 3, none⟩) hwm _).setCell (p := ⟨bm, 4, none⟩) hwm _).setCell (p := ⟨bm, 5, none⟩) hwm _)
    rw [← hX1] at q5_ ⊢
    have F8 : IntsE W0.heap.size X1 (.slice A8 m8 k8) (one1 s1) (β 8) := (ints_ok _).kept f8 fun b hb => hkeep b (fun e => hd2 b hb (List.mem_singleton.2 e))
    have F14 : BoolsE W0.heap.size X1 (.slice A14 m14 k14) c.accept (β 14) := (bools_ok _).kept f14 fun b hb => hkeep b (fun e => hd3 b hb (List.mem_singleton.2 e))
    have hR0 := HR0.out.same (hkeep w.heap.size (by omega))
    have HA := Lib.hid (And.intro F8 (And.intro F14 (And.intro hd1 (And.intro (fun b hb e => hd2 b hb (List.mem_singleton.2 e) : ∀ b ∈ β 8, b = bm → False) (And.intro (fun b hb e => hd3 b hb (List.mem_singleton.2 e) : ∀ b ∈ β 14, b = bm → False) hR0)))))
    have HCh0 := Lib.hid (show ChAt bm (.int .i64 s0) (.slice A8 m8 k8) (.slice A14 m14 k14) X1 X1 (.slice none 0 0) (.slice none 0 0) (.slice none 0 0) [] [] [] [] [] [] from ⟨q5_, ⟨ManyE.nil _ _ _ _, ManyE.nil _ _ _ _, ManyE.nil _ _ _ _, by simp, by simp, by simp⟩, Turned.refl _ _, by omega⟩)
    have HBX := Lib.hid hBX
    have hwX : w.heap.size + 1 ≤ X1.heap.size := by omega
    have hbX : bm < X1.heap.size := by omega
    have h0m : W0.heap.size ≤ bm := by omega
    clear q0_ q1_ q2_ q3_ q4_ q5_ hX1 hXs hfr hkeep hBX F8 F14 hR0 f8 f14 hd1 hd2 hd3 hlm hbm hBW HF HR0 hszW hbl hW
    generalize β 8 = e8 at HA
    generalize β 14 = e14 at HA
    clear x0 x1 x2 x3 x4 x5
    generalize u 0 = zz0; generalize u 1 = zz1; generalize u 2 = zz2; generalize u 3 = zz3; generalize u 4 = zz4; generalize u 5 = zz5; generalize u 6 = zz6; generalize u 7 = zz7; generalize u 8 = zz8; generalize u 9 = zz9; generalize u 10 = zz10; generalize u 11 = zz11; generalize u 12 = zz12; generalize u 13 = zz13; generalize u 14 = zz14; generalize u 15 = zz15; generalize u 16 = zz16
    obtain ⟨x0, x1, x2, x3, x4, x5, xl2⟩ := (HBc.out.later HBX.out).all6
    go_wp2
    go_loopw [4] (fun i wr => ∃ (s : Nat) (vC vR vI : Value) (e1 e2 e3 : List Nat), s ≤ n ∧ i = .int .i64 s ∧ ChAt bm (.int .i64 s0) (.slice A8 m8 k8) (.slice A14 m14 k14) X1 wr vC vR vI (on2 c.call s) (on3 c.ret s) (on2 c.inner s) e1 e2 e3) (fun i _ => n - (intOf i).toNat)
    case atStart => exact ⟨0, _, _, _, _, _, _, Nat.zero_le _, rfl, HCh0.out⟩
    case round =>
      clear HCh0 x0 x1 x2 x3 x4 x5 xl xl2
      obtain ⟨s, vC, vR, vI, e1, e2, e3, hs, rfl, hCh⟩ := hrel
      have hBr := hCh.tur.below HBX.out (by omega) (fun b hb => by rw [List.mem_singleton.1 hb]; omega)
      obtain ⟨x0, x1, x2, x3, x4, x5, xl⟩ := (HBc.out.later hBr).all6
      have hsX := hCh.tur.size
      by_cases hsn : s < n
      case neg =>
        have e : s = n := by omega
        subst e
        obtain ⟨F8, F14, hd1, hd2, hd3, hR0⟩ := HA.out
        have hoff8 : ∀ b ∈ e8, b ∉ [bm] := fun b hb h => hd2 b hb (List.mem_singleton.1 h)
        have hoff14 : ∀ b ∈ e14, b ∉ [bm] := fun b hb h => hd3 b hb (List.mem_singleton.1 h)
        have G8 := (ints_ok _).off F8 hCh.tur hoff8
        have G14 := (bools_ok _).off F14 hCh.tur hoff14
        have hRw := hR0.off hCh.tur (by simp; omega)
        obtain ⟨Ac, mc, kc', rfl⟩ : ∃ A m k, vC = .slice A m k := by obtain ⟨A, k, h⟩ := ManyE.slice hCh.tri.p; exact ⟨_, _, _, h⟩
        obtain ⟨Ar, mr, kr', rfl⟩ : ∃ A m k, vR = .slice A m k := by obtain ⟨A, k, h⟩ := ManyE.slice hCh.tri.r; exact ⟨_, _, _, h⟩
        obtain ⟨Ai, mi, ki', rfl⟩ : ∃ A m k, vI = .slice A m k := by obtain ⟨A, k, h⟩ := ManyE.slice hCh.tri.i; exact ⟨_, _, _, h⟩
        have hbx := hCh.box
        have htri := hCh.tri
        rw [on2_all LC.out, on3_all LR.out, on2_all LI.out] at htri
        have hlt := htri.lts (push2_ok _) (ints3_ok _) (ints2_ok _)
        have hl8 := (ints_ok _).lt F8
        have hl14 := (bools_ok _).lt F14
        have HZ := Lib.hid (And.intro G8 (And.intro G14 (And.intro hd1 (And.intro htri (And.intro hlt (And.intro hl8 (And.intro hl14 (And.intro hRw hBr))))))))
        obtain ⟨y0, y1, y2, y3, y4, y5, yl⟩ := id hbx.all6
        have t3 := hRw
        obtain ⟨c0, c1, c2, c3, c4, c5, cl⟩ := id t3.all6
        have q0 := t3.frozen 0
        have q1 := t3.frozen 1
        have q2 := t3.frozen 2
        have q3 := t3.frozen 3
        have q4 := t3.frozen 4
        have q5 := t3.frozen 5
        clear F8 F14 hd1 hd2 hd3 hR0 hoff8 hoff14 G8 G14 hRw hCh hbx htri hlt hl8 hl14 t3 hBr
        go_wp2
        clear c0 c1 c2 c3 c4 c5 cl q0 q1 q2 q3 q4 q5 y0 y1 y2 y3 y4 y5 yl x0 x1 x2 x3 x4 x5 xl
        obtain ⟨G8, G14, hd1, htri, hlt, hl8, hl14, t3, hB⟩ := HZ.out
        have x0_ := t3.set 0 (.int .i64 s0)
        have x1_ := x0_.set 1 (.slice A8 m8 k8)
        have x2_ := x1_.set 2 (.slice A14 m14 k14)
        have x3_ := x2_.set 3 (.slice Ac mc kc')
        have x4_ := x3_.set 4 (.slice Ar mr kr')
        have x5_ := x4_.set 5 (.slice Ai mi ki')
        have y0 := x5_.cell 0 (.int .i64 s0) rfl
        have y1 := x5_.cell 1 (.slice A8 m8 k8) rfl
        have y2 := x5_.cell 2 (.slice A14 m14 k14) rfl
        have y3 := x5_.cell 3 (.slice Ac mc kc') rfl
        have y4 := x5_.cell 4 (.slice Ar mr kr') rfl
        have y5 := x5_.cell 5 (.slice Ai mi ki') rfl
        have hlo : w.heap.size ≤ w.heap.size := Nat.le_refl _
        have hBf := ((((((hB.setCell (p := ⟨w.heap.size, 0, none⟩) hlo (.int .i64 s0)).setCell (p := ⟨w.heap.size, 1, none⟩) hlo (.slice A8 m8 k8)).setCell (p := ⟨w.heap.size, 2, none⟩) hlo (.slice A14 m14 k14)).setCell (p := ⟨w.heap.size, 3, none⟩) hlo (.slice Ac mc kc')).setCell (p := ⟨w.heap.size, 4, none⟩) hlo (.slice Ar mr kr')).setCell (p := ⟨w.heap.size, 5, none⟩) hlo (.slice Ai mi ki'))
        obtain ⟨Wf, hWf⟩ : ∃ Wf, Wf = ((((((wr.setCell ⟨w.heap.size, 0, none⟩ (.int .i64 s0)).setCell ⟨w.heap.size, 1, none⟩ (.slice A8 m8 k8)).setCell ⟨w.heap.size, 2, none⟩ (.slice A14 m14 k14)).setCell ⟨w.heap.size, 3, none⟩ (.slice Ac mc kc')).setCell ⟨w.heap.size, 4, none⟩ (.slice Ar mr kr')).setCell ⟨w.heap.size, 5, none⟩ (.slice Ai mi ki')) := ⟨_, rfl⟩
        have hfr : ∀ (V : World) (i : Nat) (v : Value) (b : Nat), w.heap.size + 1 ≤ b → (V.setCell ⟨w.heap.size, i, none⟩ v).heap[b]? = V.heap[b]? := fun V i v b hb => Below.heap_setCell V ⟨w.heap.size, i, none⟩ v b (fun e => by
          have h2 : b = w.heap.size := e
          omega)
        have hkeep : ∀ b, w.heap.size + 1 ≤ b → Wf.heap[b]? = wr.heap[b]? := fun b hb => by rw [hWf, hfr _ _ _ b hb, hfr _ _ _ b hb, hfr _ _ _ b hb, hfr _ _ _ b hb, hfr _ _ _ b hb, hfr _ _ _ b hb]
        rw [← hWf] at hBf x5_ y0 y1 y2 y3 y4 y5 ⊢
        have F8 := ints_base (b' := w.heap.size) (by omega) _ _ _ _ ((ints_ok _).kept G8 fun b hb => hkeep b (by have := (hl8 b hb).1; omega))
        have F14 := bools_base (b' := w.heap.size) (by omega) _ _ _ _ ((bools_ok _).kept G14 fun b hb => hkeep b (by have := (hl14 b hb).1; omega))
        have Fp := pushes3_base (b' := w.heap.size) (by omega) _ _ _ _ ((push3_ok _).kept htri.p fun b hb => hkeep b (by have := (hlt.1 b hb).1; omega))
        have Fr := ints4_base (b' := w.heap.size) (by omega) _ _ _ _ ((ints4_ok _).kept htri.r fun b hb => hkeep b (by have := (hlt.2.1 b hb).1; omega))
        have Fi := ints3_base (b' := w.heap.size) (by omega) _ _ _ _ ((ints3_ok _).kept htri.i fun b hb => hkeep b (by have := (hlt.2.2 b hb).1; omega))
        have dd : ∀ (x y : List Nat), x.Nodup → y.Nodup → (∀ b ∈ x, b ∉ y) → (x ++ y).Nodup := fun x y h1 h2 h3 => List.nodup_append.2 ⟨h1, h2, fun b hb b' hb' e => h3 b hb (e ▸ hb')⟩
        have hz : ∀ x : List Nat, (∀ k ∈ x, k < X1.heap.size) → ∀ b ∈ x, b ∉ e1 ++ (e2 ++ e3) := fun x hx b hb h => by
          have hb2 := hx b hb
          rcases List.mem_append.1 h with h | h
          · have := (hlt.1 b h).1; omega
          · rcases List.mem_append.1 h with h | h
            · have := (hlt.2.1 b h).1; omega
            · have := (hlt.2.2 b h).1; omega
        have hnd : (e8 ++ (e14 ++ (e1 ++ (e2 ++ e3)))).Nodup := by
          refine dd _ _ ((ints_ok _).nodup G8) (dd _ _ ((bools_ok _).nodup G14) (dd _ _ ((push3_ok _).nodup htri.p) (dd _ _ ((ints4_ok _).nodup htri.r) ((ints3_ok _).nodup htri.i) htri.d23) ?_) (hz _ fun k hk => (hl14 k hk).2)) ?_
          · intro b hb h
            rcases List.mem_append.1 h with h | h
            · exact htri.d12 b hb h
            · exact htri.d13 b hb h
          · intro b hb h
            rcases List.mem_append.1 h with h | h
            · exact hd1 b hb h
            · exact hz _ (fun k hk => (hl8 k hk).2) b hb h
        have FIN : ChE w.heap.size Wf (.agg #[.int .i64 s0, .slice A8 m8 k8, .slice A14 m14 k14, .slice Ac mc kc', .slice Ar mr kr', .slice Ai mi ki']) { stack := s0, starts := one1 s1, accept := c.accept, call := ones2 c.call, ret := ones3 c.ret, inner := ones2 c.inner } (e8 ++ (e14 ++ (e1 ++ (e2 ++ e3)))) := ⟨_, _, _, _, _, _, _, _, _, _, rfl, F8, F14, Fp, Fr, Fi, rfl, hnd⟩
        clear hWf hkeep hfr x0_ x1_ x2_ x3_ x4_ x5_ F8 F14 Fp Fr Fi G8 G14 htri hlt hl8 hl14 t3 hB HZ
        exact bodyPost_ret (v := .agg #[.int .i64 s0, .slice A8 m8 k8, .slice A14 m14 k14, .slice Ac mc kc', .slice Ar mr kr', .slice Ai mi ki']) (res_of _ _ w.heap.size s0 _ _ _ _ _ _ _ _ _ _ _ _ _ _ _ rfl y0 y1 y2 y3 y4 y5) rfl ⟨_, _, rfl, FIN, hBf⟩
      case pos =>
      obtain ⟨av, cs, rs, ns, gp, kp, g2, k2, gj, kj, ha_, hcs_, hrs_, hns_, hSt⟩ := Hst.out s hsn
      have lcs := HL.out.1 cs (List.mem_of_getElem? hcs_)
      have lrs := (HL.out.2.1 rs (List.mem_of_getElem? hrs_)).1
      have l81 := (HL.out.2.1 rs (List.mem_of_getElem? hrs_)).2
      have lns := HL.out.2.2 ns (List.mem_of_getElem? hns_)
      have sC := on2_succ hcs_
      have sR := on3_succ hrs_
      have sI := on2_succ hns_
      have zC := on2_len (xs := c.call) (k := s) (by rw [LC.out]; omega)
      have zR := on3_len (xs := c.ret) (k := s) (by rw [LR.out]; omega)
      have zI := on2_len (xs := c.inner) (k := s) (by rw [LI.out]; omega)
      have HSucc := Lib.hid (And.intro sC (And.intro sR (And.intro sI (And.intro zC (And.intro zR zI)))))
      have HLs := Lib.hid (And.intro lcs (And.intro lrs (And.intro lns l81)))
      have HCh := Lib.hid (And.intro hCh hBr)
      have HSt := Lib.hid hSt
      have hTri0 := TriK.new wr.heap.size wr rfl
      have hb3 : Below wr.heap.size wr (((wr.alloc (.cells #[] 94)).alloc (.cells #[] 38)).alloc (.cells #[] 22)) := (((Below.refl _ _).alloc (Nat.le_refl _) _).alloc (by simp) _).alloc (by simp; omega) _
      have HTri0 := Lib.hid (And.intro hTri0 hb3)
      clear ha_ hcs_ hrs_ hns_ hSt lcs lrs lns l81 sC sR sI zC zR zI hCh hTri0 hb3
      go_wp2_with fail
      clear x0 x1 x2 x3 x4 x5 xl hBr
      generalize wr = w2 at *
      have hw2 : w.heap.size ≤ w2.heap.size := by omega
      go_loopw [5, 6, 7, 8] (fun vp vr vi i wr => ∃ (k : Nat) (d1 d2 d3 : List Nat), k ≤ 2 ∧ i = .int .i64 k ∧ TriK w2.heap.size wr vp vr vi (on1 cs k) (on2 rs k) (on1 ns k) d1 d2 d3 ∧ Below w2.heap.size w2 wr) (fun _ _ _ i _ => 2 - (intOf i).toNat)
      case atStart => exact ⟨0, _, _, _, by omega, rfl, HTri0.out.1, HTri0.out.2⟩
      case round =>
        clear HTri0
        obtain ⟨k, d1, d2, d3, hk, rfl, hTri, hBk⟩ := hrel
        have hBw := HCh.out.2.trans (hBk.mono hw2)
        have hsk := hBk.size
        obtain ⟨x0, x1, x2, x3, x4, x5, xl⟩ := (HBc.out.later hBw).all6
        by_cases hk2 : k < 2
        case neg =>
          have e : k = 2 := by omega
          subst e
          rw [on1_all HLs.out.1, on2_all HLs.out.2.1, on1_all HLs.out.2.2.1] at hTri
          have hC := HCh.out.1.later hBk
          have hkl := hTri.lts (push_ok _) (ints2_ok _) (ints_ok _)
          have hl0 := HCh.out.1.tri.lts (push2_ok _) (ints3_ok _) (ints2_ok _)
          obtain ⟨Ap, mp_, kpp, rfl⟩ : ∃ A m k, u5 = .slice A m k := by obtain ⟨A, k, h⟩ := ManyE.slice hTri.p; exact ⟨_, _, _, h⟩
          obtain ⟨Aq, mq_, kqq, rfl⟩ : ∃ A m k, u6 = .slice A m k := by obtain ⟨A, k, h⟩ := ManyE.slice hTri.r; exact ⟨_, _, _, h⟩
          obtain ⟨Au, mu_, kuu, rfl⟩ : ∃ A m k, u7 = .slice A m k := by obtain ⟨A, k, h⟩ := ManyE.slice hTri.i; exact ⟨_, _, _, h⟩
          obtain ⟨Ac, kc', hvc⟩ := ManyE.slice hC.tri.p
          rw [HSucc.out.2.2.2.1] at hvc
          subst hvc
          obtain ⟨Ar, kr', hvr⟩ := ManyE.slice hC.tri.r
          rw [HSucc.out.2.2.2.2.1] at hvr
          subst hvr
          obtain ⟨Ai, ki', hvi⟩ := ManyE.slice hC.tri.i
          rw [HSucc.out.2.2.2.2.2] at hvi
          subst hvi
          have HK := Lib.hid (And.intro hTri (And.intro hkl (And.intro hl0 (And.intro hC hBw))))
          clear hTri hkl hl0 hC hBw x0 x1 x2 x3 x4 x5 xl
          obtain ⟨hTri, hkl, hl0, hC, hBw⟩ := HK.out
          have hal0 := (Below.refl wr.heap.size wr).alloc (Nat.le_refl _) (.cells #[.slice Ap mp_ kpp] 44)
          have hC0 := hC.later hal0
          have hrow0 := hC0.tri.p.held
          rw [HSucc.out.2.2.2.1] at hrow0
          obtain ⟨vs0, hrow0, _⟩ := hrow0
          obtain ⟨y0, y1, y2, y3, y4, y5, yl⟩ := id hC0.box.all6
          have f3_ := hC0.box.frozen 3
          obtain ⟨i0_, hi0_, ho0_, hp0_, hq0_⟩ := info_parts toInfo_pushes2
          have hsz0 := hC.tur.size
          have hWZ0 : X1.heap.size ≤ (wr.alloc (.cells #[.slice Ap mp_ kpp] 44)).heap.size := by simp only [World.size_alloc]; omega
          have HC0 := Lib.hid (And.intro hC0 hrow0)
          obtain ⟨z0_, z1_, z2_, z3_, z4_, z5_, zl_⟩ := id hC.box.all6
          clear hC hC0 hal0
          go_wp2_with (at_builtin; refine wpList_append_lies _ rfl _ _ 31 rfl X1.heap.size 44 i0_ (.slice none 0 0) 1 24 Try.underlying31 hi0_ ho0_ hp0_ hq0_ rfl (by decide) _ s _ rfl HC0.out.2 ⟨wr.heap.size, 0, none⟩ 1 1 [.slice Ap mp_ kpp] rfl rfl (World.news_of_block (Bx.new wr _ _)) (one_sing rfl) (by decide) ?c1 ?c2 ?c3 _ rfl ?_)
          case c1 => unfold maxLen; omega
          case c2 => omega
          case c3 => exact hWZ0
          intro g0_ cap0_ wa0 hown hg5 hat hltg
          have hat' : (Value.slice Ac s kc').ownBlock = some g0_ ∨ g0_ = (wr.alloc (.cells #[.slice Ap mp_ kpp] 44)).heap.size := by simp only [World.size_alloc]; exact hat
          have hm0 : ∀ k, (Value.slice Ac s kc').ownBlock = some k → k ∈ e1 := HC0.out.1.tri.p.held.choose_spec.2
          have hu0 : Push2E X1.heap.size (wr.alloc (.cells #[.slice Ap mp_ kpp] 44)) (.slice Ap mp_ kpp) (ones cs) d1 := (push2_ok _).later (pushes2_base (by omega) _ _ _ _ hTri.p) ((Below.refl _ _).alloc (Nat.le_refl _) _)
          obtain ⟨ec, hCn0, hec⟩ := HC0.out.1.call HSucc.out.2.2.2.1 hu0 (sepZ (fun k hk => (hl0.1 k hk).2) (fun k hk => (hkl.1 k hk).1)) (sepZ (fun k hk => (hl0.2.1 k hk).2) (fun k hk => (hkl.1 k hk).1)) (sepZ (fun k hk => (hl0.2.2 k hk).2) (fun k hk => (hkl.1 k hk).1)) HC0.out.2 hown hg5 hat'
          have hbx0 : Bx wa0 bm 33 _ := HC0.out.1.box.same (hg5.block bm HC0.out.1.box.lt (fun e' => by have h1_ := hm0 bm e'.symm; have h2_ := (HC0.out.1.tri.lts (push2_ok _) (ints3_ok _) (ints2_ok _)).1 bm h1_; omega))
          have hNN0 : wr.heap.size + 1 ≤ wa0.heap.size := by have h1_ := hg5.size; simp only [World.size_alloc] at h1_; exact h1_
          have hkp1 : ∀ b, w2.heap.size ≤ b → b < wr.heap.size → (wa0.setCell ⟨bm, 3, none⟩ (.slice (some ⟨g0_, 0, none⟩) (s + 1) cap0_)).heap[b]? = wr.heap[b]? := fun b h1_ h2_ => by
            rw [Below.heap_setCell wa0 ⟨bm, 3, none⟩ (.slice (some ⟨g0_, 0, none⟩) (s + 1) cap0_) b (fun e' => by have h3_ : b = bm := e'; omega)]
            rw [hg5.block b (by simp only [World.size_alloc]; omega) (fun e' => by have h3_ := (hl0.1 b (hm0 b e'.symm)).2; omega)]
            rw [Below.heap_alloc wr _ b (by omega)]
          obtain ⟨y0_, y1_, y2_, y3_, y4_, y5_, yl_⟩ := id hbx0.all6
          have f0__ := hbx0.frozen 0
          have f1__ := hbx0.frozen 1
          have f2__ := hbx0.frozen 2
          have f3__ := hbx0.frozen 3
          have f4__ := hbx0.frozen 4
          have f5__ := hbx0.frozen 5
          clear y0 y1 y2 y3 y4 y5 yl f3_ z0_ z1_ z2_ z3_ z4_ z5_ zl_
          clear hown hg5 hat hat' hltg hu0
          go_upto_region 20 with fail
          clear f0__ f1__ f2__ f3__ f4__ f5__ y0_ y1_ y2_ y3_ y4_ y5_ yl_ hbx0
          obtain ⟨wb1, hwb1⟩ : ∃ W, W = wa0.setCell ⟨bm, 3, none⟩ (.slice (some ⟨g0_, 0, none⟩) (s + 1) cap0_) := ⟨_, rfl⟩
          have hws1 : wr.heap.size + 1 ≤ wb1.heap.size := by rw [hwb1]; simp; omega
          rw [← hwb1] at hCn0 hkp1 ⊢
          have hC := hCn0
          clear hwb1 hNN0 hCn0 HC0
          have hal1 := (Below.refl wb1.heap.size wb1).alloc (Nat.le_refl _) (.cells #[.slice Aq mq_ kqq] 26)
          have hC1 := hC.later hal1
          have hrow1 := hC1.tri.r.held
          rw [HSucc.out.2.2.2.2.1] at hrow1
          obtain ⟨vs1, hrow1, _⟩ := hrow1
          obtain ⟨y0, y1, y2, y3, y4, y5, yl⟩ := id hC1.box.all6
          have f4_ := hC1.box.frozen 4
          obtain ⟨i1_, hi1_, ho1_, hp1_, hq1_⟩ := info_parts toInfo_ints3
          have hsz1 := hC.tur.size
          have hWZ1 : X1.heap.size ≤ (wb1.alloc (.cells #[.slice Aq mq_ kqq] 26)).heap.size := by simp only [World.size_alloc]; omega
          have HC1 := Lib.hid (And.intro hC1 hrow1)
          obtain ⟨z0_, z1_, z2_, z3_, z4_, z5_, zl_⟩ := id hC.box.all6
          clear hC hC1 hal1
          go_wp2_with (at_builtin; refine wpList_append_lies _ rfl _ _ 25 rfl X1.heap.size 26 i1_ (.slice none 0 0) 1 24 Try.underlying25 hi1_ ho1_ hp1_ hq1_ rfl (by decide) _ s _ rfl HC1.out.2 ⟨wb1.heap.size, 0, none⟩ 1 1 [.slice Aq mq_ kqq] rfl rfl (World.news_of_block (Bx.new wb1 _ _)) (one_sing rfl) (by decide) ?c1 ?c2 ?c3 _ rfl ?_)
          case c1 => unfold maxLen; omega
          case c2 => omega
          case c3 => exact hWZ1
          intro g1_ cap1_ wa1 hown hg5 hat hltg
          have hat' : (Value.slice Ar s kr').ownBlock = some g1_ ∨ g1_ = (wb1.alloc (.cells #[.slice Aq mq_ kqq] 26)).heap.size := by simp only [World.size_alloc]; exact hat
          have hm1 : ∀ k, (Value.slice Ar s kr').ownBlock = some k → k ∈ e2 := HC1.out.1.tri.r.held.choose_spec.2
          have hu1 : Ints3E X1.heap.size (wb1.alloc (.cells #[.slice Aq mq_ kqq] 26)) (.slice Aq mq_ kqq) (ones2 rs) d2 := (ints3_ok _).later ((ints3_ok _).kept (ints3_base (by omega) _ _ _ _ hTri.r) fun b hb => hkp1 b (hkl.2.1 b hb).1 (hkl.2.1 b hb).2) ((Below.refl _ _).alloc (Nat.le_refl _) _)
          obtain ⟨er, hCn1, her⟩ := HC1.out.1.ret HSucc.out.2.2.2.2.1 hu1 (sepL hec (sepZ (fun k hk => (hl0.1 k hk).2) (fun k hk => (hkl.2.1 k hk).1)) hTri.d12 (fun k hk => by have := (hkl.2.1 k hk).2; simp only [World.size_alloc]; omega)) (sepZ (fun k hk => (hl0.2.1 k hk).2) (fun k hk => (hkl.2.1 k hk).1)) (sepZ (fun k hk => (hl0.2.2 k hk).2) (fun k hk => (hkl.2.1 k hk).1)) HC1.out.2 hown hg5 hat'
          have hbx1 : Bx wa1 bm 33 _ := HC1.out.1.box.same (hg5.block bm HC1.out.1.box.lt (fun e' => by have h1_ := hm1 bm e'.symm; have h2_ := (HC1.out.1.tri.lts (push2_ok _) (ints3_ok _) (ints2_ok _)).2.1 bm h1_; omega))
          have hNN1 : wb1.heap.size + 1 ≤ wa1.heap.size := by have h1_ := hg5.size; simp only [World.size_alloc] at h1_; exact h1_
          have hkp2 : ∀ b, w2.heap.size ≤ b → b < wr.heap.size → (wa1.setCell ⟨bm, 4, none⟩ (.slice (some ⟨g1_, 0, none⟩) (s + 1) cap1_)).heap[b]? = wr.heap[b]? := fun b h1_ h2_ => by
            rw [Below.heap_setCell wa1 ⟨bm, 4, none⟩ (.slice (some ⟨g1_, 0, none⟩) (s + 1) cap1_) b (fun e' => by have h3_ : b = bm := e'; omega)]
            rw [hg5.block b (by simp only [World.size_alloc]; omega) (fun e' => by have h3_ := (hl0.2.1 b (hm1 b e'.symm)).2; omega)]
            rw [Below.heap_alloc wb1 _ b (by omega)]
            exact hkp1 b h1_ h2_
          obtain ⟨y0_, y1_, y2_, y3_, y4_, y5_, yl_⟩ := id hbx1.all6
          have f0__ := hbx1.frozen 0
          have f1__ := hbx1.frozen 1
          have f2__ := hbx1.frozen 2
          have f3__ := hbx1.frozen 3
          have f4__ := hbx1.frozen 4
          have f5__ := hbx1.frozen 5
          clear y0 y1 y2 y3 y4 y5 yl f4_ z0_ z1_ z2_ z3_ z4_ z5_ zl_
          clear hown hg5 hat hat' hltg hu1
          go_upto_region 21 with fail
          clear f0__ f1__ f2__ f3__ f4__ f5__ y0_ y1_ y2_ y3_ y4_ y5_ yl_ hbx1
          obtain ⟨wb2, hwb2⟩ : ∃ W, W = wa1.setCell ⟨bm, 4, none⟩ (.slice (some ⟨g1_, 0, none⟩) (s + 1) cap1_) := ⟨_, rfl⟩
          have hws2 : wb1.heap.size + 1 ≤ wb2.heap.size := by rw [hwb2]; simp; omega
          rw [← hwb2] at hCn1 hkp2 ⊢
          have hC := hCn1
          clear hwb2 hNN1 hCn1 HC1
          have hal2 := (Below.refl wb2.heap.size wb2).alloc (Nat.le_refl _) (.cells #[.slice Au mu_ kuu] 38)
          have hC2 := hC.later hal2
          have hrow2 := hC2.tri.i.held
          rw [HSucc.out.2.2.2.2.2] at hrow2
          obtain ⟨vs2, hrow2, _⟩ := hrow2
          obtain ⟨y0, y1, y2, y3, y4, y5, yl⟩ := id hC2.box.all6
          have f5_ := hC2.box.frozen 5
          obtain ⟨i2_, hi2_, ho2_, hp2_, hq2_⟩ := info_parts toInfo_ints2
          have hsz2 := hC.tur.size
          have hWZ2 : X1.heap.size ≤ (wb2.alloc (.cells #[.slice Au mu_ kuu] 38)).heap.size := by simp only [World.size_alloc]; omega
          have HC2 := Lib.hid (And.intro hC2 hrow2)
          obtain ⟨z0_, z1_, z2_, z3_, z4_, z5_, zl_⟩ := id hC.box.all6
          clear hC hC2 hal2
          go_wp2_with (at_builtin; refine wpList_append_lies _ rfl _ _ 26 rfl X1.heap.size 38 i2_ (.slice none 0 0) 1 24 Try.underlying26 hi2_ ho2_ hp2_ hq2_ rfl (by decide) _ s _ rfl HC2.out.2 ⟨wb2.heap.size, 0, none⟩ 1 1 [.slice Au mu_ kuu] rfl rfl (World.news_of_block (Bx.new wb2 _ _)) (one_sing rfl) (by decide) ?c1 ?c2 ?c3 _ rfl ?_)
          case c1 => unfold maxLen; omega
          case c2 => omega
          case c3 => exact hWZ2
          intro g2_ cap2_ wa2 hown hg5 hat hltg
          have hat' : (Value.slice Ai s ki').ownBlock = some g2_ ∨ g2_ = (wb2.alloc (.cells #[.slice Au mu_ kuu] 38)).heap.size := by simp only [World.size_alloc]; exact hat
          have hm2 : ∀ k, (Value.slice Ai s ki').ownBlock = some k → k ∈ e3 := HC2.out.1.tri.i.held.choose_spec.2
          have hu2 : Ints2E X1.heap.size (wb2.alloc (.cells #[.slice Au mu_ kuu] 38)) (.slice Au mu_ kuu) (ones ns) d3 := (ints2_ok _).later ((ints2_ok _).kept (ints2_base (by omega) _ _ _ _ hTri.i) fun b hb => hkp2 b (hkl.2.2 b hb).1 (hkl.2.2 b hb).2) ((Below.refl _ _).alloc (Nat.le_refl _) _)
          obtain ⟨ei, hCn2, hei⟩ := HC2.out.1.inner HSucc.out.2.2.2.2.2 hu2 (sepL hec (sepZ (fun k hk => (hl0.1 k hk).2) (fun k hk => (hkl.2.2 k hk).1)) hTri.d13 (fun k hk => by have := (hkl.2.2 k hk).2; simp only [World.size_alloc]; omega)) (sepL her (sepZ (fun k hk => (hl0.2.1 k hk).2) (fun k hk => (hkl.2.2 k hk).1)) hTri.d23 (fun k hk => by have := (hkl.2.2 k hk).2; simp only [World.size_alloc]; omega)) (sepZ (fun k hk => (hl0.2.2 k hk).2) (fun k hk => (hkl.2.2 k hk).1)) HC2.out.2 hown hg5 hat'
          have hbx2 : Bx wa2 bm 33 _ := HC2.out.1.box.same (hg5.block bm HC2.out.1.box.lt (fun e' => by have h1_ := hm2 bm e'.symm; have h2_ := (HC2.out.1.tri.lts (push2_ok _) (ints3_ok _) (ints2_ok _)).2.2 bm h1_; omega))
          have hNN2 : wb2.heap.size + 1 ≤ wa2.heap.size := by have h1_ := hg5.size; simp only [World.size_alloc] at h1_; exact h1_
          obtain ⟨y0_, y1_, y2_, y3_, y4_, y5_, yl_⟩ := id hbx2.all6
          have f0__ := hbx2.frozen 0
          have f1__ := hbx2.frozen 1
          have f2__ := hbx2.frozen 2
          have f3__ := hbx2.frozen 3
          have f4__ := hbx2.frozen 4
          have f5__ := hbx2.frozen 5
          clear y0 y1 y2 y3 y4 y5 yl f5_ z0_ z1_ z2_ z3_ z4_ z5_ zl_
          clear hown hg5 hat hat' hltg hu2
          go_wp2_with fail
          clear f0__ f1__ f2__ f3__ f4__ f5__ y0_ y1_ y2_ y3_ y4_ y5_ yl_ hbx2
          have HCn := Lib.hid (show ChAt bm _ _ _ X1 _ _ _ _ (on2 c.call (s + 1)) (on3 c.ret (s + 1)) (on2 c.inner (s + 1)) _ _ _ from by rw [HSucc.out.1, HSucc.out.2.1, HSucc.out.2.2.1]; exact hCn2)
          clear hCn2 hTri hkl hl0 hBw HC2
          go_roundw
          case rel => exact ⟨s + 1, _, _, _, _, _, _, by omega, by go_num, HCn.out⟩
          case measure => simp [intOf]; omega
        case pos =>
        obtain ⟨p, hp⟩ : ∃ x, cs[k]? = some x := ⟨_, List.getElem?_eq_getElem (by rw [HLs.out.1]; exact hk2)⟩
        obtain ⟨r, hr⟩ : ∃ x, rs[k]? = some x := ⟨_, List.getElem?_eq_getElem (by rw [HLs.out.2.1]; exact hk2)⟩
        obtain ⟨zn, hz⟩ : ∃ x, ns[k]? = some x := ⟨_, List.getElem?_eq_getElem (by rw [HLs.out.2.2.1]; exact hk2)⟩
        have l81 := HLs.out.2.2.2 r (List.mem_of_getElem? hr)
        have lx1 := on1_len (xs := cs) (k := k) (by rw [HLs.out.1]; omega)
        have lx2 := on2_len (xs := rs) (k := k) (by rw [HLs.out.2.1]; omega)
        have lx3 := on1_len (xs := ns) (k := k) (by rw [HLs.out.2.2.1]; omega)
        have HZ := Lib.hid (And.intro lx1 (And.intro lx2 (And.intro lx3 (And.intro (on1_succ hp) (And.intro (on2_succ hr) (on1_succ hz))))))
        obtain ⟨Ap, kpp, hvp⟩ := ManyE.slice hTri.p
        rw [lx1] at hvp
        subst hvp
        obtain ⟨Ar, kpr, hvr⟩ := ManyE.slice hTri.r
        rw [lx2] at hvr
        subst hvr
        obtain ⟨Ai, kpi, hvi⟩ := ManyE.slice hTri.i
        rw [lx3] at hvi
        subst hvi
        have hSt := HSt.out
        obtain ⟨g3, k3, l3, hc3, hv3⟩ := hSt.rc k r hr
        obtain ⟨lr, hlr⟩ : ∃ x, x = r.length := ⟨_, rfl⟩
        rw [← hlr] at hc3 l81
        have HF := Lib.hid (fun (W : World) (hW : Below w.heap.size w W) => show (W.cell? ⟨gc, s, none⟩ = some (.slice (some ⟨gp, 0, none⟩) 2 kp) ∧ W.cell? ⟨gp, k * 2, none⟩ = some (.int .i64 p.1) ∧ W.cell? ⟨gp, k * 2 + 1, none⟩ = some (.int .i64 p.2)) ∧ (W.cell? ⟨gr, s, none⟩ = some (.slice (some ⟨g2, 0, none⟩) 2 k2) ∧ W.cell? ⟨g2, k, none⟩ = some (.slice (some ⟨g3, 0, none⟩) lr k3)) ∧ (∀ (x : Nat) z, r[x]? = some z → W.cell? ⟨g3, x, none⟩ = some (.int .i64 z)) ∧ (W.cell? ⟨gi, s, none⟩ = some (.slice (some ⟨gj, 0, none⟩) 2 kj) ∧ W.cell? ⟨gj, k, none⟩ = some (.int .i64 zn)) from
          ⟨⟨(hW.cell (p := ⟨gc, s, none⟩) hSt.lc).trans hSt.cc, (hW.cell (p := ⟨gp, k * 2, none⟩) hSt.lp).trans (hSt.pc k p hp).1, (hW.cell (p := ⟨gp, k * 2 + 1, none⟩) hSt.lp).trans (hSt.pc k p hp).2⟩, ⟨(hW.cell (p := ⟨gr, s, none⟩) hSt.lr).trans hSt.cr, (hW.cell (p := ⟨g2, k, none⟩) hSt.l2).trans hc3⟩, fun x z hz => (hW.cell (p := ⟨g3, x, none⟩) l3).trans (hv3 x z hz), ⟨(hW.cell (p := ⟨gi, s, none⟩) hSt.li).trans hSt.ci, (hW.cell (p := ⟨gj, k, none⟩) hSt.lj).trans (hSt.ic k zn hz)⟩⟩)
        have HRx := Lib.hid (And.intro hlr (fun (x : Nat) (hx : x < lr) => show ∃ z, r[x]? = some z from ⟨_, List.getElem?_eq_getElem (by rw [← hlr]; exact hx)⟩))
        have hk3 : (k : Int) < 2 := by omega
        have hdk : decide ((k : Int) < 2) = true := decide_eq_true hk3
        obtain ⟨p0, p1⟩ := p
        dsimp only at HF
        have HT := Lib.hid (And.intro hTri (And.intro hBk hBw))
        have hrow := hTri.p.held
        rw [HZ.out.1] at hrow
        obtain ⟨vs, hrow, _⟩ := hrow
        have Hrow := Lib.hid hrow
        obtain ⟨⟨cc, cp, cq⟩, ⟨cr, cr2⟩, _, ci, cj⟩ := HF.out wr hBw
        clear hp hr hz lx1 lx2 lx3 hSt hc3 hv3 l3 hlr hTri hBk hrow hBw
        obtain ⟨i1_, hi1_, hp0_, hp1_, hp2_⟩ := info_parts toInfo_pushes
        obtain ⟨i2_, hi2_, hq0_, hq1_, hq2_⟩ := info_parts toInfo_ints
        obtain ⟨i3_, hi3_, hr0_, hr1_, hr2_⟩ := info_parts toInfo_ints2
        go_wp2_with (at_builtin; refine wpList_append_lies _ rfl _ _ 44 rfl w2.heap.size 94 i1_ (.slice none 0 0) 1 24 Try.underlying44 hi1_ hp0_ hp1_ hp2_ rfl (by decide) _ k _ rfl ((Hrow.out.alloc (.cells #[.int .i64 p0, .int .i64 p1] 97)).alloc (.cells #[.slice (some ⟨wr.heap.size, 0, none⟩) 1 1] 94)) ⟨wr.heap.size + 1, 0, none⟩ 1 1 [.slice (some ⟨wr.heap.size, 0, none⟩) 1 1] rfl rfl (news2 wr _ _ _) (one_sing rfl) (by decide) ?c1 ?c2 ?c3 _ rfl ?_)
        case c1 => unfold maxLen; omega
        case c2 => omega
        case c3 => simp only [World.size_alloc]; omega
        intro ga_ cap1_ w6 hown hg5 hat hltg
        have hb2_ : Below wr.heap.size wr ((wr.alloc (.cells #[.int .i64 p0, .int .i64 p1] 97)).alloc (.cells #[.slice (some ⟨wr.heap.size, 0, none⟩) 1 1] 94)) := ((Below.refl _ _).alloc (Nat.le_refl _) _).alloc (by simp) _
        have hx1_ := (Bx.new wr 97 #[.int .i64 p0, .int .i64 p1]).alloc (.cells #[.slice (some ⟨wr.heap.size, 0, none⟩) 1 1] 94)
        have hE_ : PushE w2.heap.size ((wr.alloc (.cells #[.int .i64 p0, .int .i64 p1] 97)).alloc (.cells #[.slice (some ⟨wr.heap.size, 0, none⟩) 1 1] 94)) (.slice (some ⟨wr.heap.size, 0, none⟩) 1 1) (one1 (p0, p1)) [wr.heap.size] := rowE_lit 1 hx1_ (by omega) rfl rfl rfl (by unfold maxLen; omega)
        obtain ⟨hTri, hBk, hBw⟩ := HT.out
        have hkl := hTri.lts (push_ok _) (ints2_ok _) (ints_ok _)
        have hm_ : ∀ b ∈ [wr.heap.size], wr.heap.size ≤ b := fun b hb => by rw [List.mem_singleton.1 hb]; exact Nat.le_refl _
        have ht2 := hTri.later (push_ok _) (ints2_ok _) (ints_ok _) hb2_
        obtain ⟨d1', ht6, _⟩ := ht2.addP (push_ok _) (ints2_ok _) (ints_ok _) HZ.out.1 hE_ (sepZ (fun k hk => (hkl.1 k hk).2) hm_) (sepZ (fun k hk => (hkl.2.1 k hk).2) hm_) (sepZ (fun k hk => (hkl.2.2 k hk).2) hm_) ((Hrow.out.alloc (.cells #[.int .i64 p0, .int .i64 p1] 97)).alloc (.cells #[.slice (some ⟨wr.heap.size, 0, none⟩) 1 1] 94)) hown hg5 (by simp only [World.size_alloc]; exact hat)
        rw [← HZ.out.2.2.2.1] at ht6
        have hBk6 : Below w2.heap.size w2 w6 := ht2.belowP (push_ok _) (hBk.trans (hb2_.mono hsk)) (Nat.le_refl _) (by simp only [World.size_alloc]; omega) hg5
        have hBw6 := HCh.out.2.trans (hBk6.mono hw2)
        have hs6 := hBk6.size
        have HT6 := Lib.hid (And.intro ht6 (And.intro hBk6 hBw6))
        clear hown hg5 hat hltg hb2_ hx1_ hE_ hTri hBk hBw hkl hm_ ht2 ht6 hBk6 HT Hrow x0 x1 x2 x3 x4 x5 xl cc cp cq cr cr2 ci cj hBw6
        have e30 : ∃ e, Ints2E w6.heap.size (w6.alloc (.cells #[] 22)) (.slice (some ⟨w6.heap.size, 0, none⟩) 0 0) (on1 r 0) e := ⟨_, many_empty _ _ (Bx.new w6 22 #[]) (Nat.le_refl _)⟩
        have hb6 : Below w6.heap.size w6 (w6.alloc (.cells #[] 22)) := (Below.refl _ _).alloc (Nat.le_refl _) _
        have H30 := Lib.hid (And.intro e30 hb6)
        have h6w : w.heap.size ≤ w6.heap.size := by omega
        clear e30 hb6
        go_wp2_with fail
        generalize wr = wk at *
        go_loopw [9, 10] (fun v i wr => ∃ x : Nat, x ≤ lr ∧ i = .int .i64 x ∧ (∃ e, Ints2E w6.heap.size wr v (on1 r x) e) ∧ Below w6.heap.size w6 wr) (fun _ i _ => lr - (intOf i).toNat)
        case atStart => exact ⟨0, Nat.zero_le _, rfl, H30.out.1, H30.out.2⟩
        case round =>
          clear H30
          obtain ⟨x, hx, rfl, ⟨e, hE⟩, hB6⟩ := hrel
          have hBx := HT6.out.2.2.trans (hB6.mono h6w)
          have hs7 := hB6.size
          obtain ⟨x0, x1, x2, x3, x4, x5, xl⟩ := (HBc.out.later hBx).all6
          obtain ⟨⟨cc, cp, cq⟩, ⟨cr, cr2⟩, hvx, ci, cj⟩ := HF.out wr hBx
          have lx := on1_len (xs := r) (k := x) (by rw [← HRx.out.1]; exact hx)
          obtain ⟨Av, kv, hvv⟩ := ManyE.slice hE
          rw [lx] at hvv
          subst hvv
          have hrow := hE.held
          rw [lx] at hrow
          obtain ⟨vs, hrow, _⟩ := hrow
          by_cases hxl : x < lr
          case pos =>
            obtain ⟨z, hz⟩ := HRx.out.2 x hxl
            have cx := hvx x z hz
            have hsx := on1_succ hz
            have HX := Lib.hid (And.intro hE (And.intro hB6 (And.intro hrow (And.intro lx hsx))))
            clear hE hB6 hrow lx hsx hvx hBx hz
            go_wp2_with (at_builtin; refine wpList_append_lies _ rfl _ _ 38 rfl w6.heap.size 22 i2_ (.slice none 0 0) 1 24 Try.underlying38 hi2_ hq0_ hq1_ hq2_ rfl (by decide) _ x _ rfl ((HX.out.2.2.1.alloc (.cells #[.int .i64 z] 2)).alloc (.cells #[.slice (some ⟨wr.heap.size, 0, none⟩) 1 1] 22)) ⟨wr.heap.size + 1, 0, none⟩ 1 1 [.slice (some ⟨wr.heap.size, 0, none⟩) 1 1] rfl rfl (news2 wr _ _ _) (one_sing rfl) (by decide) ?c1 ?c2 ?c3 _ rfl ?_)
            case c1 => unfold maxLen; omega
            case c2 => omega
            case c3 => simp only [World.size_alloc]; omega
            intro gb_ cap2_ w7 hown hg5 hat hltg
            obtain ⟨hE, hB6, hrow, lx, hsx⟩ := HX.out
            have hb2_ : Below wr.heap.size wr ((wr.alloc (.cells #[.int .i64 z] 2)).alloc (.cells #[.slice (some ⟨wr.heap.size, 0, none⟩) 1 1] 22)) := ((Below.refl _ _).alloc (Nat.le_refl _) _).alloc (by simp) _
            have hx1_ := (Bx.new wr 2 #[.int .i64 z]).alloc (.cells #[.slice (some ⟨wr.heap.size, 0, none⟩) 1 1] 22)
            have hE_ : IntsE w6.heap.size ((wr.alloc (.cells #[.int .i64 z] 2)).alloc (.cells #[.slice (some ⟨wr.heap.size, 0, none⟩) 1 1] 22)) (.slice (some ⟨wr.heap.size, 0, none⟩) 1 1) (one1 z) [wr.heap.size] := rowE_lit 1 hx1_ (by omega) rfl rfl rfl (by unfold maxLen; omega)
            have hE2 := (ints2_ok _).later hE hb2_
            have hel := (ints2_ok _).lt hE
            have hhe := hE2.held.choose_spec.2
            obtain ⟨e', hE7, _⟩ := many_grow (ints_ok _) hE2 lx ((hrow.alloc (.cells #[.int .i64 z] 2)).alloc (.cells #[.slice (some ⟨wr.heap.size, 0, none⟩) 1 1] 22)) hE_ (fun k hk h => by rw [List.mem_singleton.1 h] at hk; have := (hel _ hk).2; omega) hown hg5 rfl (by simp only [World.size_alloc]; exact hat)
            rw [← hsx] at hE7
            have hB7 : Below w6.heap.size w6 w7 := (hB6.trans (hb2_.mono hs7)).grown hg5 (by simp only [World.size_alloc]; omega) (fun k hk => (hel k (hhe k hk)).1)
            have H7 := Lib.hid (And.intro hE7 hB7)
            clear hE hB6 hrow lx hsx hb2_ hx1_ hE_ hE2 hel hhe hE7 hB7 hown hg5 hat hltg HX x0 x1 x2 x3 x4 x5 xl cc cp cq cr cr2 ci cj cx
            go_wp2
            go_roundw
            case rel => exact ⟨x + 1, by omega, by go_num, ⟨_, H7.out.1⟩, H7.out.2⟩
            case measure => simp [intOf]; omega
          case neg =>
          have e_ : x = lr := by omega
          subst e_
          rw [on1_all HRx.out.1.symm] at hE
          clear hvx
          obtain ⟨ht6, hBk6, hBw6⟩ := HT6.out
          have hal := (Below.refl wr.heap.size wr).alloc (Nat.le_refl _) (.cells #[.slice Av x kv] 38)
          have ht7 := ht6.later (push_ok _) (ints2_ok _) (ints_ok _) (W' := wr) (hB6)
          have ht8 := ht7.later (push_ok _) (ints2_ok _) (ints_ok _) hal
          have hrowR := ht8.r.held
          rw [HZ.out.2.1] at hrowR
          obtain ⟨vs2, hrowR, _⟩ := hrowR
          have hB8 := hBk6.trans ((hB6.trans (hal.mono hs7)).mono hs6)
          have hEr : Ints2E w2.heap.size (wr.alloc (.cells #[.slice Av x kv] 38)) (.slice Av x kv) (ones r) e := ints2_base hs6 _ _ _ _ ((ints2_ok _).later hE hal)
          have hel := (ints2_ok _).lt hE
          have HY := Lib.hid (And.intro ht6 (And.intro ht8 (And.intro hrowR (And.intro hB8 (And.intro hEr hel)))))
          clear ht6 hBk6 hBw6 hal ht7 ht8 hrowR hB8 hEr hel hE hB6 hrow lx hBx
          go_wp2_with (at_builtin; refine wpList_append_lies _ rfl _ _ 26 rfl w2.heap.size 38 i3_ (.slice none 0 0) 1 24 Try.underlying26 hi3_ hr0_ hr1_ hr2_ rfl (by decide) _ k _ rfl HY.out.2.2.1 ⟨wr.heap.size, 0, none⟩ 1 1 [.slice Av x kv] rfl rfl (World.news_of_block (Bx.new wr _ _)) (one_sing rfl) (by decide) ?c1 ?c2 ?c3 _ rfl ?_)
          case c1 => unfold maxLen; omega
          case c2 => omega
          case c3 => simp only [World.size_alloc]; omega
          intro gd_ cap3_ w8 hown hg5 hat hltg
          obtain ⟨ht6, ht8, hrowR, hB8, hEr, hel⟩ := HY.out
          have hkl := ht6.lts (push_ok _) (ints2_ok _) (ints_ok _)
          have hs_ : ∀ d : List Nat, (∀ k ∈ d, w2.heap.size ≤ k ∧ k < w6.heap.size) → ∀ k ∈ d, k ∉ e := fun d hd => sepZ (fun k hk => (hd k hk).2) (fun k hk => (hel k hk).1)
          obtain ⟨d2', ht9, _⟩ := ht8.rot.addP (ints2_ok _) (ints_ok _) (push_ok _) HZ.out.2.1 hEr (hs_ _ hkl.2.1) (hs_ _ hkl.2.2) (hs_ _ hkl.1) hrowR hown hg5 (by simp only [World.size_alloc]; exact hat)
          have ht9 := ht9.rot.rot
          rw [← HZ.out.2.2.2.2.1] at ht9
          have hB9 : Below w2.heap.size w2 w8 := ht8.rot.belowP (ints2_ok _) hB8 (Nat.le_refl _) (by simp only [World.size_alloc]; omega) hg5
          have hs9 := hB9.size
          have hBw9 := HCh.out.2.trans (hB9.mono hw2)
          obtain ⟨x0, x1, x2, x3, x4, x5, xl⟩ := (HBc.out.later hBw9).all6
          obtain ⟨⟨cc, cp, cq⟩, ⟨cr, cr2⟩, _, ci, cj⟩ := HF.out w8 hBw9
          have hrowI := ht9.i.held
          rw [HZ.out.2.2.1] at hrowI
          obtain ⟨vs3, hrowI, _⟩ := hrowI
          have HW := Lib.hid (And.intro ht9 (And.intro hB9 hrowI))
          clear ht6 ht8 hrowR hB8 hEr hel hkl hs_ ht9 hB9 hBw9 hrowI hown hg5 hat hltg HY HT6
          go_wp2_with (at_builtin; refine wpList_append_lies _ rfl _ _ 38 rfl w2.heap.size 22 i2_ (.slice none 0 0) 1 24 Try.underlying38 hi2_ hq0_ hq1_ hq2_ rfl (by decide) _ k _ rfl ((HW.out.2.2.alloc (.cells #[.int .i64 zn] 2)).alloc (.cells #[.slice (some ⟨w8.heap.size, 0, none⟩) 1 1] 22)) ⟨w8.heap.size + 1, 0, none⟩ 1 1 [.slice (some ⟨w8.heap.size, 0, none⟩) 1 1] rfl rfl (news2 w8 _ _ _) (one_sing rfl) (by decide) ?c1 ?c2 ?c3 _ rfl ?_)
          case c1 => unfold maxLen; omega
          case c2 => omega
          case c3 => simp only [World.size_alloc]; omega
          intro ge_ cap4_ w10 hown hg5 hat hltg
          obtain ⟨ht9, hB9, hrowI⟩ := HW.out
          have hb2_ : Below w8.heap.size w8 ((w8.alloc (.cells #[.int .i64 zn] 2)).alloc (.cells #[.slice (some ⟨w8.heap.size, 0, none⟩) 1 1] 22)) := ((Below.refl _ _).alloc (Nat.le_refl _) _).alloc (by simp) _
          have hx1_ := (Bx.new w8 2 #[.int .i64 zn]).alloc (.cells #[.slice (some ⟨w8.heap.size, 0, none⟩) 1 1] 22)
          have hE_ : IntsE w2.heap.size ((w8.alloc (.cells #[.int .i64 zn] 2)).alloc (.cells #[.slice (some ⟨w8.heap.size, 0, none⟩) 1 1] 22)) (.slice (some ⟨w8.heap.size, 0, none⟩) 1 1) (one1 zn) [w8.heap.size] := rowE_lit 1 hx1_ (by omega) rfl rfl rfl (by unfold maxLen; omega)
          have hkl := ht9.lts (push_ok _) (ints2_ok _) (ints_ok _)
          have hm_ : ∀ b ∈ [w8.heap.size], w8.heap.size ≤ b := fun b hb => by rw [List.mem_singleton.1 hb]; exact Nat.le_refl _
          have ht10 := ht9.later (push_ok _) (ints2_ok _) (ints_ok _) hb2_
          obtain ⟨d3', ht11, _⟩ := ht10.rot.rot.addP (ints_ok _) (push_ok _) (ints2_ok _) HZ.out.2.2.1 hE_ (sepZ (fun k hk => (hkl.2.2 k hk).2) hm_) (sepZ (fun k hk => (hkl.1 k hk).2) hm_) (sepZ (fun k hk => (hkl.2.1 k hk).2) hm_) ((hrowI.alloc (.cells #[.int .i64 zn] 2)).alloc (.cells #[.slice (some ⟨w8.heap.size, 0, none⟩) 1 1] 22)) hown hg5 (by simp only [World.size_alloc]; exact hat)
          have ht11 := ht11.rot
          rw [← HZ.out.2.2.2.2.2] at ht11
          have hB11 : Below w2.heap.size w2 w10 := ht10.rot.rot.belowP (ints_ok _) (hB9.trans (hb2_.mono hs9)) (Nat.le_refl _) (by simp only [World.size_alloc]; omega) hg5
          have H11 := Lib.hid (And.intro ht11 hB11)
          clear ht9 hB9 hrowI hb2_ hx1_ hE_ hkl hm_ ht10 ht11 hB11 hown hg5 hat hltg HW x0 x1 x2 x3 x4 x5 xl cc cp cq cr cr2 ci cj
          go_wp2
          go_roundw
          case rel => exact ⟨k + 1, _, _, _, by omega, by go_num, H11.out.1, H11.out.2⟩
          case measure => simp [intOf]; omega
end Go.Proofs.Yticmekdfdilcpaa
