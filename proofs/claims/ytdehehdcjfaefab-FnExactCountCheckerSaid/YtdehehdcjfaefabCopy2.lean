/- l02Copy of the model, its first statement. -/
import Derived.Test.YtdehehdcjfaefabCopy1
import Derived.Test.YtdehehdcjfaefabGrow
import Derived.Deep.AppendLies
namespace Go.Proofs.Ytdehehdcjfaefab
open Go.RowKit
set_option linter.unusedVariables false

set_option maxHeartbeats 3200000 in
set_option maxRecDepth 100000 in
theorem spec_own2 {base : Nat} {v : Value} {xs : List Int} {bs : List Nat} (w : World) (hn : 1 ≤ xs.length ∧ xs.length ≤ 100) (h : IntsE base w v xs bs) : Calls Try.prog 78 #[v] w (NewPost IntsE xs w) := by
  obtain ⟨i0, hi, hz0, hz1, hz2⟩ := info_parts toInfo_i64
  obtain ⟨A, ka, rfl⟩ := RowE.slice h
  obtain ⟨g, rfl, hg, _⟩ := RowE.head h (j := 0) (by omega)
  have hb0 := (Below.refl w.heap.size w).alloc (Nat.le_refl _) (.cells #[] 2)
  have hnews := RowE.news ((ints_ok _).later h hb0)
  have hlen := h.1.1
  have hone : ∀ u ∈ (xs.flatMap fun x => [Value.int .i64 x]), u.oneCell' = true := by
    intro u hu; simp only [List.mem_flatMap, List.mem_singleton] at hu; obtain ⟨x, _, rfl⟩ := hu; rfl
  have hrow : (w.alloc (.cells #[] 2)).ownsRow w.heap.size 2 1 (.slice (some ⟨w.heap.size, 0, none⟩) 0 0) 0 [] := by
    simpa using World.ownsRow_lit (base := w.heap.size) (e := 2) (size := 1) w #[] 0 (Nat.le_refl _) (by unfold maxLen; omega) (by simp)
  have Hn := Lib.hid (And.intro hnews (And.intro hlen (And.intro hone hrow)))
  obtain ⟨n, hn'⟩ : ∃ n, n = xs.length := ⟨_, rfl⟩
  rw [← hn'] at hn ⊢
  have HN := Lib.hid hn'
  have HB := Lib.hid hb0
  clear h hnews hlen hone hrow hb0 hn'
  go_enter Try.func78, Try.ntmps78
  go_wp2_with (at_builtin; refine wpList_append_lies _ rfl _ _ 38 rfl w.heap.size 2 i0 (.int .i64 0) 1 8 Try.underlying38 hi hz0 hz1 hz2 rfl (by decide) _ 0 [] rfl Hn.out.2.2.2 ⟨g, 0, none⟩ n ka _ rfl ?c0 Hn.out.1 Hn.out.2.2.1 ?c4 ?c1 ?c2 ?c3 _ rfl ?_)
  case c0 => rw [HN.out]; exact Hn.out.2.1
  case c4 => omega
  case c1 => unfold maxLen; omega
  case c2 => omega
  case c3 => simp
  intro g1 cap1 w5 hown hg5 hat hltg
  have hB6 := HB.out.grown hg5 (by simp) (fun k hk => by
    have : k = w.heap.size := by simpa [Value.ownBlock, eq_comm] using hk
    omega)
  have hE : IntsE w.heap.size w5 (.slice (some ⟨g1, 0, none⟩) n cap1) xs [g1] := ⟨by rw [← HN.out]; simpa using hown, rfl⟩
  clear hown hg5 hat
  go_wp2
  go_ret
  exact ⟨_, _, rfl, by simpa using hE, hB6⟩

/-- A slice of one value, in a block of its own. -/
def OneE (base : Nat) (T : TypeId) (r : Value) : EP Unit := fun w v _ bs => ∃ b, v = .slice (some ⟨b, 0, none⟩) 1 1 ∧ Bx w b T #[r] ∧ bs = [b] ∧ base ≤ b
theorem one_ok (base : Nat) (T : TypeId) (r : Value) : EP.Ok base (OneE base T r) where
  kept := by rintro w w' v x bs ⟨b, rfl, hb, rfl, hl⟩ hs; exact ⟨b, rfl, hb.same (hs b (by simp)), rfl, hl⟩
  lt := by rintro w v x bs ⟨b, rfl, hb, rfl, hl⟩ k hk; rw [List.mem_singleton.1 hk]; exact ⟨hl, hb.lt⟩
  nodup := by rintro w v x bs ⟨b, rfl, hb, rfl, hl⟩; simp
theorem one_sing2 {v : Value} (h : v.oneCell' = true) : ∀ u ∈ [v], u.oneCell' = true := by intro u hu; rw [List.mem_singleton.1 hu]; exact h
theorem cell_later' {w W : World} {p : Addr} {v : Value} (h : w.cell? p = some v) (hb : Below w.heap.size w W) : W.cell? p = some v := (hb.cell (World.block_lt_of_cell? _ _ h)).trans h

set_option maxHeartbeats 6400000 in
set_option maxRecDepth 100000 in
theorem spec_copy {base B : Nat} {va vc vr vi : Value} {c : Ck} {b1 b2 b3 b4 : List Nat} (w : World) (hbd : BdC c) (hpos : 1 ≤ c.accept.length ∧ c.accept.length ≤ 40) (hlc : c.call.length ≤ 40 ∧ ∀ x ∈ c.call, x.length = 2) (hlr : c.ret.length ≤ 40 ∧ ∀ x ∈ c.ret, x.length ≤ 40 ∧ ∀ y ∈ x, 1 ≤ y.length ∧ y.length ≤ 100) (hli : c.inner.length ≤ 40 ∧ ∀ x ∈ c.inner, x.length = 2) (hbx : Bx w B 31 #[.int .i64 c.stack, .int .i64 c.start, va, vc, vr, vi])
    (h1 : BoolsE base w va c.accept b1) (h2 : Push2E base w vc c.call b2) (h3 : Ints3E base w vr c.ret b3) (h4 : Ints2E base w vi c.inner b4) :
    Calls Try.prog 37 #[.pointer (some ⟨B, 0, none⟩)] w (NewPost CkE c w) := by
  obtain ⟨i0, hi, hz0, hz1, hz2⟩ := info_parts toInfo_bool
  obtain ⟨A, ka, rfl⟩ := RowE.slice h1
  obtain ⟨g, rfl, hg, _⟩ := RowE.head h1 (j := 0) (by omega)
  obtain ⟨n, hn'⟩ : ∃ n, n = c.accept.length := ⟨_, rfl⟩
  rw [← hn'] at h1 hbx hpos
  obtain ⟨Cc, kc, rfl⟩ := ManyE.slice h2
  obtain ⟨Ci, ki, rfl⟩ := ManyE.slice h4
  obtain ⟨Cr, kr0, rfl⟩ := ManyE.slice h3
  obtain ⟨mr, hmr'⟩ : ∃ m, m = c.ret.length := ⟨_, rfl⟩
  rw [← hmr'] at h3 hbx hlr
  have hmr40 := hlr.1
  have Hlr := Lib.hid hlr.2
  have Hmr := Lib.hid hmr'
  clear hmr' hlr
  obtain ⟨m, hm'⟩ : ∃ m, m = c.call.length := ⟨_, rfl⟩
  obtain ⟨mi, hmi'⟩ : ∃ m, m = c.inner.length := ⟨_, rfl⟩
  rw [← hm'] at h2 hbx hlc
  rw [← hmi'] at h4 hbx hli
  have hm40 := hlc.1
  have Hlc := Lib.hid hlc.2
  have Hli := Lib.hid hli
  have Hm := Lib.hid hm'
  have Hmi := Lib.hid hmi'
  clear hm' hmi' hlc hli
  have H1 := Lib.hid h1
  have H2 := Lib.hid h2
  have H3 := Lib.hid h3
  have H4 := Lib.hid h4
  have Hbx := Lib.hid hbx
  have Hbd := Lib.hid hbd
  have Hpos := Lib.hid hpos
  have Hn := Lib.hid hn'
  clear h1 h2 h3 h4 hbx hbd hpos hn'
  go_enter Try.func37, Try.ntmps37
  go_upto_region 1 with fail
  obtain ⟨Wr, hWr⟩ : ∃ Wr, Wr = w.alloc (.cells #[.int .i64 0, .int .i64 0, .slice none 0 0, .slice none 0 0, .slice none 0 0, .slice none 0 0] 31) := ⟨_, rfl⟩
  rw [← hWr]
  have hBr : Below w.heap.size w Wr := by rw [hWr]; exact (Below.refl _ _).alloc (Nat.le_refl _) _
  have hres : Bx Wr w.heap.size 31 #[.int .i64 0, .int .i64 0, .slice none 0 0, .slice none 0 0, .slice none 0 0, .slice none 0 0] := by rw [hWr]; exact Bx.new _ _ _
  have hbx := Hbx.out.later hBr
  have HR := Lib.hid (And.intro hres hBr)
  clear hWr hres
  refine wp_region_free_last (by kernel_rfl) [
    .val [] (fun _ => .pointer (some ⟨B, 0, none⟩)),
    .val [] (fun _ => .pointer (some ⟨B, 0, none⟩)),
    .val [] (fun _ => .pointer (some ⟨B, 0, none⟩)),
    .val [] (fun _ => .int .i64 c.stack),
    .val [] (fun _ => .pointer (some ⟨B, 0, none⟩)),
    .val [] (fun _ => .pointer (some ⟨B, 0, none⟩)),
    .val [] (fun _ => .pointer (some ⟨B, 1, none⟩)),
    .val [] (fun _ => .int .i64 c.start),
    .own (EmptyE Wr.heap.size 4) (),
    .val [] (fun _ => .pointer (some ⟨B, 0, none⟩)),
    .val [] (fun _ => .pointer (some ⟨B, 0, none⟩)),
    .val [] (fun _ => .pointer (some ⟨B, 2, none⟩)),
    .val [] (fun _ => .slice (some ⟨g, 0, none⟩) n ka),
    .own (BoolsE Wr.heap.size) c.accept,
    .val [3, 7, 13] (fun u => .agg #[u 3, u 7, u 13, .slice none 0 0, .slice none 0 0, .slice none 0 0]),
    .own (PtrE Wr.heap.size 31 #[.int .i64 0, .int .i64 0, .slice none 0 0, .slice none 0 0, .slice none 0 0, .slice none 0 0]) ()] ?hp ?hfw ?deps ?oks ?hl ?hpos ?steps
  case hp => kernel_rfl
  case hfw => kernel_rfl
  case deps => kernel_rfl
  case hl => kernel_rfl
  case hpos => kernel_rfl
  case oks =>
    intro F hF
    simp only [List.mem_cons, List.not_mem_nil, or_false] at hF
    rcases hF with rfl | rfl | rfl | rfl | rfl | rfl | rfl | rfl | rfl | rfl | rfl | rfl | rfl | rfl | rfl | rfl
    all_goals first | trivial | exact ⟨_, bools_ok _⟩ | exact ⟨_, empty_ok _ _⟩ | exact ⟨_, ptr_ok _ _ _⟩
  case steps =>
    refine StepsL.cons ?_ ?_
    · refine FreeStep.val [] _ rfl rfl fun u β W hW hn fr hfr K hK => ?_
      simp only [frameL, putL, Act.put, List.setIfInBounds_toArray, List.set_cons_zero, List.set_cons_succ, Nat.zero_add, Nat.reduceAdd] at hfr
      subst hfr
      have HK := Lib.hid hK
      clear hK hn
      go_simp
      exact HK.out
    refine StepsL.cons ?_ ?_
    · refine FreeStep.val [] _ rfl rfl fun u β W hW hn fr hfr K hK => ?_
      simp only [frameL, putL, Act.put, List.setIfInBounds_toArray, List.set_cons_zero, List.set_cons_succ, Nat.zero_add, Nat.reduceAdd] at hfr
      subst hfr
      have e0 : u 0 = .pointer (some ⟨B, 0, none⟩) := Have.get (k := 0) hn rfl
      simp only [e0] at hK
      have HK := Lib.hid hK
      clear hK hn
      go_simp
      exact HK.out
    refine StepsL.cons ?_ ?_
    · refine FreeStep.val [] _ rfl rfl fun u β W hW hn fr hfr K hK => ?_
      simp only [frameL, putL, Act.put, List.setIfInBounds_toArray, List.set_cons_zero, List.set_cons_succ, Nat.zero_add, Nat.reduceAdd] at hfr
      subst hfr
      have e1 : u 1 = .pointer (some ⟨B, 0, none⟩) := Have.get (k := 1) hn rfl
      simp only [e1] at hK
      have HK := Lib.hid hK
      clear hK hn
      go_simp
      exact HK.out
    refine StepsL.cons ?_ ?_
    · refine FreeStep.val [] _ rfl rfl fun u β W hW hn fr hfr K hK => ?_
      simp only [frameL, putL, Act.put, List.setIfInBounds_toArray, List.set_cons_zero, List.set_cons_succ, Nat.zero_add, Nat.reduceAdd] at hfr
      subst hfr
      have e2 : u 2 = .pointer (some ⟨B, 0, none⟩) := Have.get (k := 2) hn rfl
      simp only [e2] at hK
      have c0 : W.cell? ⟨B, 0, none⟩ = some (.int .i64 c.stack) := (hbx.later hW).cell 0 _ rfl
      have HK := Lib.hid hK
      clear hK hn
      go_simp
      exact HK.out
    refine StepsL.cons ?_ ?_
    · refine FreeStep.val [] _ rfl rfl fun u β W hW hn fr hfr K hK => ?_
      simp only [frameL, putL, Act.put, List.setIfInBounds_toArray, List.set_cons_zero, List.set_cons_succ, Nat.zero_add, Nat.reduceAdd] at hfr
      subst hfr
      have HK := Lib.hid hK
      clear hK hn
      go_simp
      exact HK.out
    refine StepsL.cons ?_ ?_
    · refine FreeStep.val [] _ rfl rfl fun u β W hW hn fr hfr K hK => ?_
      simp only [frameL, putL, Act.put, List.setIfInBounds_toArray, List.set_cons_zero, List.set_cons_succ, Nat.zero_add, Nat.reduceAdd] at hfr
      subst hfr
      have e4 : u 4 = .pointer (some ⟨B, 0, none⟩) := Have.get (k := 4) hn rfl
      simp only [e4] at hK
      have HK := Lib.hid hK
      clear hK hn
      go_simp
      exact HK.out
    refine StepsL.cons ?_ ?_
    · refine FreeStep.val [] _ rfl rfl fun u β W hW hn fr hfr K hK => ?_
      simp only [frameL, putL, Act.put, List.setIfInBounds_toArray, List.set_cons_zero, List.set_cons_succ, Nat.zero_add, Nat.reduceAdd] at hfr
      subst hfr
      have e5 : u 5 = .pointer (some ⟨B, 0, none⟩) := Have.get (k := 5) hn rfl
      simp only [e5] at hK
      have HK := Lib.hid hK
      clear hK hn
      go_simp
      exact HK.out
    refine StepsL.cons ?_ ?_
    · refine FreeStep.val [] _ rfl rfl fun u β W hW hn fr hfr K hK => ?_
      simp only [frameL, putL, Act.put, List.setIfInBounds_toArray, List.set_cons_zero, List.set_cons_succ, Nat.zero_add, Nat.reduceAdd] at hfr
      subst hfr
      have e6 : u 6 = .pointer (some ⟨B, 1, none⟩) := Have.get (k := 6) hn rfl
      simp only [e6] at hK
      have c0 : W.cell? ⟨B, 1, none⟩ = some (.int .i64 c.start) := (hbx.later hW).cell 1 _ rfl
      have HK := Lib.hid hK
      clear hK hn
      go_simp
      exact HK.out
    refine StepsL.cons ?_ ?_
    · refine FreeStep.own (base := Wr.heap.size) rfl (empty_ok _ _) fun u β W hW hn fr hfr K hK => ?_
      simp only [frameL, putL, Act.put, List.setIfInBounds_toArray, List.set_cons_zero, List.set_cons_succ, Nat.zero_add, Nat.reduceAdd] at hfr
      subst hfr
      have hsz := hW.size
      have HK := Lib.hid hK
      clear hK hn
      go_simp
      exact HK.out _ [W.heap.size] _ ((Below.refl _ _).alloc (Nat.le_refl _) _) ⟨W.heap.size, rfl, Bx.new _ _ _, rfl, hsz⟩ (fun b hb => by rw [List.mem_singleton.1 hb]; exact Nat.le_refl _)
    refine StepsL.cons ?_ ?_
    · refine FreeStep.val [] _ rfl rfl fun u β W hW hn fr hfr K hK => ?_
      simp only [frameL, putL, Act.put, List.setIfInBounds_toArray, List.set_cons_zero, List.set_cons_succ, Nat.zero_add, Nat.reduceAdd] at hfr
      subst hfr
      have HK := Lib.hid hK
      clear hK hn
      go_simp
      exact HK.out
    refine StepsL.cons ?_ ?_
    · refine FreeStep.val [] _ rfl rfl fun u β W hW hn fr hfr K hK => ?_
      simp only [frameL, putL, Act.put, List.setIfInBounds_toArray, List.set_cons_zero, List.set_cons_succ, Nat.zero_add, Nat.reduceAdd] at hfr
      subst hfr
      have e9 : u 9 = .pointer (some ⟨B, 0, none⟩) := Have.get (k := 9) hn rfl
      simp only [e9] at hK
      have HK := Lib.hid hK
      clear hK hn
      go_simp
      exact HK.out
    refine StepsL.cons ?_ ?_
    · refine FreeStep.val [] _ rfl rfl fun u β W hW hn fr hfr K hK => ?_
      simp only [frameL, putL, Act.put, List.setIfInBounds_toArray, List.set_cons_zero, List.set_cons_succ, Nat.zero_add, Nat.reduceAdd] at hfr
      subst hfr
      have e10 : u 10 = .pointer (some ⟨B, 0, none⟩) := Have.get (k := 10) hn rfl
      simp only [e10] at hK
      have HK := Lib.hid hK
      clear hK hn
      go_simp
      exact HK.out
    refine StepsL.cons ?_ ?_
    · refine FreeStep.val [] _ rfl rfl fun u β W hW hn fr hfr K hK => ?_
      simp only [frameL, putL, Act.put, List.setIfInBounds_toArray, List.set_cons_zero, List.set_cons_succ, Nat.zero_add, Nat.reduceAdd] at hfr
      subst hfr
      have e11 : u 11 = .pointer (some ⟨B, 2, none⟩) := Have.get (k := 11) hn rfl
      simp only [e11] at hK
      have c0 : W.cell? ⟨B, 2, none⟩ = some (.slice (some ⟨g, 0, none⟩) n ka) := (hbx.later hW).cell 2 _ rfl
      have HK := Lib.hid hK
      clear hK hn
      go_simp
      exact HK.out
    refine StepsL.cons ?_ ?_
    · refine FreeStep.own (base := Wr.heap.size) rfl (bools_ok _) fun u β W hW hn fr hfr K hK => ?_
      simp only [frameL, putL, Act.put, List.setIfInBounds_toArray, List.set_cons_zero, List.set_cons_succ, Nat.zero_add, Nat.reduceAdd] at hfr
      subst hfr
      have e12 : u 12 = .slice (some ⟨g, 0, none⟩) n ka := Have.get (k := 12) hn rfl
      have f8 : EmptyE Wr.heap.size 4 W (u 8) () (β 8) := Have.get (k := 8) hn rfl
      obtain ⟨b8, g8, hb8, _, _⟩ := f8
      have hrow := (bools_ok _).later H1.out (hBr.trans (hW.mono hBr.size))
      have hszW := hW.size
      have HK := Lib.hid hK
      clear hK hn
      refine step_append_grows rfl _ _ 22 rfl 4 i0 (.bool false) 1 1 Try.underlying22 hi hz0 hz1 hz2 rfl (by decide) (some ⟨b8, 0, none⟩) 0 0 [] g8 (fun h => by cases h) rfl (fun b hb j u hu => by simp at hu) ⟨g, 0, none⟩ n ka _ e12 ?_ (RowE.news hrow) ?_ (by have := Hpos.out; omega) (by unfold maxLen; have := Hpos.out; omega) (by have := Hpos.out; omega) ?_
      · rw [Hn.out]; exact hrow.1.1
      · intro u hu; simp only [List.mem_flatMap, List.mem_singleton] at hu; obtain ⟨x, _, rfl⟩ := hu; rfl
      · intro v' w' hown hgr
        have hb' : Below W.heap.size W w' := ⟨hgr.os, hgr.tape, hgr.output, hgr.size, fun k hk => hgr.block k hk (by simp)⟩
        have hE : BoolsE W.heap.size w' v' c.accept v'.ownBlock.toList := ⟨by rw [← Hn.out]; simpa using hown, rfl⟩
        exact HK.out v' _ w' hb' (bools_base hszW _ _ _ _ hE) (fun b hb => ((bools_ok _).lt hE b hb).1)
    refine StepsL.cons ?_ ?_
    · refine FreeStep.val [3, 7, 13] _ rfl rfl fun u β W hW hn fr hfr K hK => ?_
      simp only [frameL, putL, Act.put, List.setIfInBounds_toArray, List.set_cons_zero, List.set_cons_succ, Nat.zero_add, Nat.reduceAdd] at hfr
      subst hfr
      have e3 : u 3 = .int .i64 c.stack := Have.get (k := 3) hn rfl
      have e7 : u 7 = .int .i64 c.start := Have.get (k := 7) hn rfl
      have f13 : BoolsE Wr.heap.size W (u 13) _ (β 13) := Have.get (k := 13) hn rfl
      obtain ⟨A13, k13, g13⟩ := RowE.slice f13
      have hon : only [3, 7, 13] u 3 = u 3 ∧ only [3, 7, 13] u 7 = u 7 ∧ only [3, 7, 13] u 13 = u 13 := ⟨rfl, rfl, rfl⟩
      simp only [hon.1, hon.2.1, hon.2.2, e3, e7, g13] at hK
      have HK := Lib.hid hK
      clear hK hn hon
      go_simp
      exact HK.out
    refine StepsL.cons ?_ ?_
    · refine FreeStep.own (base := Wr.heap.size) rfl (ptr_ok _ _ _) fun u β W hW hn fr hfr K hK => ?_
      simp only [frameL, putL, Act.put, List.setIfInBounds_toArray, List.set_cons_zero, List.set_cons_succ, Nat.zero_add, Nat.reduceAdd] at hfr
      subst hfr
      have hsz := hW.size
      have HK := Lib.hid hK
      clear hK hn
      go_simp
      exact HK.out _ [W.heap.size] _ ((Below.refl _ _).alloc (Nat.le_refl _) _) ⟨W.heap.size, rfl, Bx.new _ _ _, rfl, hsz⟩ (fun b hb => by rw [List.mem_singleton.1 hb]; exact Nat.le_refl _)
    intro u β W hW hn hdis hbnd fr hfr K hK
    simp only [frameL, putL, Act.put, List.setIfInBounds_toArray, List.set_cons_zero, List.set_cons_succ, Nat.zero_add, Nat.reduceAdd] at hfr
    subst hfr
    have f13 : BoolsE Wr.heap.size W (u 13) _ (β 13) := Have.get (k := 13) hn rfl
    have f15 : PtrE Wr.heap.size 31 #[.int .i64 0, .int .i64 0, .slice none 0 0, .slice none 0 0, .slice none 0 0, .slice none 0 0] W (u 15) () (β 15) := Have.get (k := 15) hn rfl
    have e3 : u 3 = .int .i64 c.stack := Have.get (k := 3) hn rfl
    have e7 : u 7 = .int .i64 c.start := Have.get (k := 7) hn rfl
    have e14 : u 14 = .agg #[u 3, u 7, u 13, .slice none 0 0, .slice none 0 0, .slice none 0 0] := Have.get (k := 14) hn rfl
    obtain ⟨A13, k13, g13⟩ := RowE.slice f13
    obtain ⟨b, g15, hb15, hbb, hlb⟩ := f15
    rw [e3, e7, g13] at e14
    rw [g13] at f13
    have hnb : b ∉ β 13 := fun h => hdis 13 15 (by decide) (by decide) (by decide) b h (by rw [hbb]; simp)
    obtain ⟨hres, hBr0⟩ := HR.out
    have hBW := hW
    obtain ⟨c0, c1, c2, c3, c4, c5, cl⟩ := id hb15.all6
    have q0 := hb15.frozen 0
    have q1 := hb15.frozen 1
    have q2 := hb15.frozen 2
    have q3 := hb15.frozen 3
    have q4 := hb15.frozen 4
    have q5 := hb15.frozen 5
    have hwb : Wr.heap.size ≤ b := hlb
    have HRs := Lib.hid (And.intro hres hBr0)
    have HbxW := Lib.hid (Hbx.out.later hBr0)
    have H2W := Lib.hid ((push2_ok _).later H2.out hBr0)
    have H3W := Lib.hid ((ints3_ok _).later H3.out hBr0)
    have H4W := Lib.hid ((ints2_ok _).later H4.out hBr0)
    have HF := Lib.hid (And.intro f13 (And.intro hnb (And.intro hBW (And.intro hb15 (And.intro hwb (And.intro (Nat.le_refl Wr.heap.size) hK))))))
    clear f13 hnb hBW hb15 hK hn hdis hbnd e3 e7 g13 hbb hlb hres hBr0 hBr hbx
    go_simp
    refine HF.out.2.2.2.2.2.2 _ _ ?_
    obtain ⟨f13, hnb, hBW, hbx, hwb, hsz, _⟩ := HF.out
    have x5 := (((((hbx.set 0 (.int .i64 c.stack)).set 1 (.int .i64 c.start)).set 2 (.slice A13 c.accept.length k13)).set 3 (.slice none 0 0)).set 4 (.slice none 0 0)).set 5 (.slice none 0 0)
    obtain ⟨Wf, hWf⟩ : ∃ Wf, Wf = (((((W.setCell ⟨b, 0, none⟩ (.int .i64 c.stack)).setCell ⟨b, 1, none⟩ (.int .i64 c.start)).setCell ⟨b, 2, none⟩ (.slice A13 c.accept.length k13)).setCell ⟨b, 3, none⟩ (.slice none 0 0)).setCell ⟨b, 4, none⟩ (.slice none 0 0)).setCell ⟨b, 5, none⟩ (.slice none 0 0) := ⟨_, rfl⟩
    have hkeep : ∀ k, k ≠ b → Wf.heap[k]? = W.heap[k]? := fun k hk => by
      rw [hWf, Below.heap_setCell _ _ _ k hk, Below.heap_setCell _ _ _ k hk, Below.heap_setCell _ _ _ k hk, Below.heap_setCell _ _ _ k hk, Below.heap_setCell _ _ _ k hk, Below.heap_setCell _ _ _ k hk]
    have hBf : Below Wr.heap.size Wr Wf := by
      rw [hWf]
      exact (((((hBW.setCell (p := ⟨b, 0, none⟩) hwb _).setCell (p := ⟨b, 1, none⟩) hwb _).setCell (p := ⟨b, 2, none⟩) hwb _).setCell (p := ⟨b, 3, none⟩) hwb _).setCell (p := ⟨b, 4, none⟩) hwb _).setCell (p := ⟨b, 5, none⟩) hwb _
    rw [← hWf] at x5 ⊢
    have hC : CopyAt Wr Wf b c { stack := c.stack, start := c.start, accept := c.accept, call := c.call.take 0, ret := c.ret.take 0, inner := c.inner.take 0 } := by
      refine ⟨_, _, _, _, β 13, [], [], [], x5, bools_base hsz _ _ _ _ ((bools_ok _).kept f13 fun k hk => hkeep k (fun e => hnb (e ▸ hk))), ?_, ?_, ?_, ?_, ?_, hwb, hBf⟩
      · simpa using ManyE.nil _ _ _ _
      · simpa using ManyE.nil _ _ _ _
      · simpa using ManyE.nil _ _ _ _
      · simpa using (bools_ok _).nodup f13
      · simpa using hnb
    have HC := Lib.hid hC
    clear hkeep hBf x5 hWf f13 hnb hBW hbx hwb hsz HF HR c0 c1 c2 c3 c4 c5 cl q0 q1 q2 q3 q4 q5 g15 e14 hW hC
    generalize u 0 = s0; generalize u 1 = s1; generalize u 2 = s2; generalize u 3 = s3; generalize u 4 = s4; generalize u 5 = s5; generalize u 6 = s6; generalize u 7 = s7; generalize u 8 = s8
    generalize u 9 = s9; generalize u 10 = s10; generalize u 11 = s11; generalize u 12 = s12; generalize u 13 = s13
    go_wp2_with fail
    go_loopw [4] (fun i wr => ∃ j : Nat, j ≤ m ∧ i = .int .i64 j ∧ CopyAt Wr wr b c { stack := c.stack, start := c.start, accept := c.accept, call := c.call.take j, ret := c.ret.take 0, inner := c.inner.take 0 }) (fun i _ => m - (intOf i).toNat)
    case atStart => exact ⟨0, Nat.zero_le _, rfl, HC.out⟩
    case round =>
      obtain ⟨j, hj, rfl, hC⟩ := hrel
      obtain ⟨va', vc', vr', vi', d1, d2, d3, d4, xb, f1, f2, f3, f4, hnd, hnb, hwb, hBw⟩ := hC.ex
      dsimp only at f1 f2 f3 f4
      have hbw := HbxW.out.later hBw
      obtain ⟨y0, y1, y2, y3, y4, y5, yl⟩ := id hbw.all6
      by_cases hlt : j < m
      · obtain ⟨x, hx⟩ : ∃ x, c.call[j]? = some x := ⟨_, List.getElem?_eq_getElem (by rw [← Hm.out]; exact hlt)⟩
        have hxl := Hlc.out x (List.mem_of_getElem? hx)
        obtain ⟨gc, _, ur, dr, hv, hcr, hEr, hgc, _⟩ := ((push2_ok _).later H2W.out hBw).at_ (push_ok _) hx
        simp only [Value.slice.injEq] at hv
        obtain ⟨rfl, h8, h9⟩ := hv
        clear h8 h9
        obtain ⟨Ar, kr, rfl⟩ := RowE.slice hEr
        rw [hxl] at hEr hcr
        obtain ⟨gr, rfl, hgr, _⟩ := RowE.head hEr (j := 0) (by omega)
        obtain ⟨A', k', rfl⟩ := ManyE.slice f2
        have hlj : (c.call.take j).length = j := by rw [List.length_take]; have := Hm.out; omega
        rw [hlj] at f2 xb
        have HX := Lib.hid (And.intro hx (And.intro hxl (And.intro hEr (And.intro f1 (And.intro f2 (And.intro f3 (And.intro f4 (And.intro hnd (And.intro hnb (And.intro hwb (And.intro hBw (And.intro xb hbw))))))))))))
        clear hx f1 f2 f3 f4 hnd hnb hC hEr hxl
        obtain ⟨p0, hp, hp0, hp1, hp2⟩ := info_parts toInfo_push
        obtain ⟨r0, hr0, hr1, hr2, hr3⟩ := info_parts toInfo_pushes
        go_upto_region 5 with fail
        refine wp_region_free_seq (by kernel_rfl) [
          .val [] (fun _ => .pointer (some ⟨b, 3, none⟩)),
          .val [] (fun _ => .slice A' j k'),
          .own (EmptyE wr.heap.size 71) (),
          .val [] (fun _ => .pointer (some ⟨B, 0, none⟩)),
          .val [] (fun _ => .pointer (some ⟨B, 0, none⟩)),
          .val [] (fun _ => .pointer (some ⟨B, 3, none⟩)),
          .val [] (fun _ => .slice (some ⟨gc, 0, none⟩) m kc),
          .val [] (fun _ => .int .i64 (j : Int)),
          .val [] (fun _ => .pointer (some ⟨gc, j, none⟩)),
          .val [] (fun _ => .slice (some ⟨gr, 0, none⟩) 2 kr),
          .own (PushE wr.heap.size) x,
          .dep 10 (fun r => OneE wr.heap.size 69 r) ()] 12 ?hp ?hfw ?deps ?oks ?hforced ?hf ?steps ?tail
        case hp => kernel_rfl
        case hfw => kernel_rfl
        case deps => kernel_rfl
        case hforced => kernel_rfl
        case hf => kernel_rfl
        case oks =>
          intro F hF
          simp only [List.mem_cons, List.not_mem_nil, or_false] at hF
          rcases hF with rfl | rfl | rfl | rfl | rfl | rfl | rfl | rfl | rfl | rfl | rfl | rfl
          all_goals first | trivial | exact ⟨_, push_ok _⟩ | exact ⟨_, empty_ok _ _⟩ | exact fun v => ⟨_, one_ok _ _ v⟩
        case steps =>
          refine Steps.cons ?_ ?_
          · intro _
            refine FreeStep.val [] _ rfl rfl fun u β W hW hn fr hfr K hK => ?_
            simp only [frameL, putL, Act.put, List.setIfInBounds_toArray, List.set_cons_zero, List.set_cons_succ, Nat.zero_add, Nat.reduceAdd] at hfr
            subst hfr
            have HK := Lib.hid hK
            clear hK hn
            go_simp
            exact HK.out
          refine Steps.cons ?_ ?_
          · intro _
            refine FreeStep.val [] _ rfl rfl fun u β W hW hn fr hfr K hK => ?_
            simp only [frameL, putL, Act.put, List.setIfInBounds_toArray, List.set_cons_zero, List.set_cons_succ, Nat.zero_add, Nat.reduceAdd] at hfr
            subst hfr
            have e0 : u 0 = .pointer (some ⟨b, 3, none⟩) := Have.get (k := 0) hn rfl
            simp only [e0] at hK
            have c0 : W.cell? ⟨b, 3, none⟩ = some (.slice A' j k') := (HX.out.2.2.2.2.2.2.2.2.2.2.2.1.later hW).cell 3 _ rfl
            have HK := Lib.hid hK
            clear hK hn
            go_simp
            exact HK.out
          refine Steps.cons ?_ ?_
          · intro _
            refine FreeStep.own (base := wr.heap.size) rfl (empty_ok _ _) fun u β W hW hn fr hfr K hK => ?_
            simp only [frameL, putL, Act.put, List.setIfInBounds_toArray, List.set_cons_zero, List.set_cons_succ, Nat.zero_add, Nat.reduceAdd] at hfr
            subst hfr
            have hsz := hW.size
            have HK := Lib.hid hK
            clear hK hn
            go_simp
            exact HK.out _ [W.heap.size] _ ((Below.refl _ _).alloc (Nat.le_refl _) _) ⟨W.heap.size, rfl, Bx.new _ _ _, rfl, hsz⟩ (fun b hb => by rw [List.mem_singleton.1 hb]; exact Nat.le_refl _)
          refine Steps.cons ?_ ?_
          · intro _
            refine FreeStep.val [] _ rfl rfl fun u β W hW hn fr hfr K hK => ?_
            simp only [frameL, putL, Act.put, List.setIfInBounds_toArray, List.set_cons_zero, List.set_cons_succ, Nat.zero_add, Nat.reduceAdd] at hfr
            subst hfr
            have HK := Lib.hid hK
            clear hK hn
            go_simp
            exact HK.out
          refine Steps.cons ?_ ?_
          · intro _
            refine FreeStep.val [] _ rfl rfl fun u β W hW hn fr hfr K hK => ?_
            simp only [frameL, putL, Act.put, List.setIfInBounds_toArray, List.set_cons_zero, List.set_cons_succ, Nat.zero_add, Nat.reduceAdd] at hfr
            subst hfr
            have e3 : u 3 = .pointer (some ⟨B, 0, none⟩) := Have.get (k := 3) hn rfl
            simp only [e3] at hK
            have HK := Lib.hid hK
            clear hK hn
            go_simp
            exact HK.out
          refine Steps.cons ?_ ?_
          · intro _
            refine FreeStep.val [] _ rfl rfl fun u β W hW hn fr hfr K hK => ?_
            simp only [frameL, putL, Act.put, List.setIfInBounds_toArray, List.set_cons_zero, List.set_cons_succ, Nat.zero_add, Nat.reduceAdd] at hfr
            subst hfr
            have e4 : u 4 = .pointer (some ⟨B, 0, none⟩) := Have.get (k := 4) hn rfl
            simp only [e4] at hK
            have HK := Lib.hid hK
            clear hK hn
            go_simp
            exact HK.out
          refine Steps.cons ?_ ?_
          · intro _
            refine FreeStep.val [] _ rfl rfl fun u β W hW hn fr hfr K hK => ?_
            simp only [frameL, putL, Act.put, List.setIfInBounds_toArray, List.set_cons_zero, List.set_cons_succ, Nat.zero_add, Nat.reduceAdd] at hfr
            subst hfr
            have e5 : u 5 = .pointer (some ⟨B, 3, none⟩) := Have.get (k := 5) hn rfl
            simp only [e5] at hK
            have c0 : W.cell? ⟨B, 3, none⟩ = some (.slice (some ⟨gc, 0, none⟩) m kc) := (HX.out.2.2.2.2.2.2.2.2.2.2.2.2.later hW).cell 3 _ rfl
            have HK := Lib.hid hK
            clear hK hn
            go_simp
            exact HK.out
          refine Steps.cons ?_ ?_
          · intro _
            refine FreeStep.val [] _ rfl rfl fun u β W hW hn fr hfr K hK => ?_
            simp only [frameL, putL, Act.put, List.setIfInBounds_toArray, List.set_cons_zero, List.set_cons_succ, Nat.zero_add, Nat.reduceAdd] at hfr
            subst hfr
            have HK := Lib.hid hK
            clear hK hn
            go_simp
            exact HK.out
          refine Steps.cons ?_ ?_
          · intro _
            refine FreeStep.val [] _ rfl rfl fun u β W hW hn fr hfr K hK => ?_
            simp only [frameL, putL, Act.put, List.setIfInBounds_toArray, List.set_cons_zero, List.set_cons_succ, Nat.zero_add, Nat.reduceAdd] at hfr
            subst hfr
            have e6 : u 6 = .slice (some ⟨gc, 0, none⟩) m kc := Have.get (k := 6) hn rfl
            have e7 : u 7 = .int .i64 (j : Int) := Have.get (k := 7) hn rfl
            simp only [e6, e7] at hK
            have HK := Lib.hid hK
            clear hK hn
            go_simp
            exact HK.out
          refine Steps.cons ?_ ?_
          · intro _
            refine FreeStep.val [] _ rfl rfl fun u β W hW hn fr hfr K hK => ?_
            simp only [frameL, putL, Act.put, List.setIfInBounds_toArray, List.set_cons_zero, List.set_cons_succ, Nat.zero_add, Nat.reduceAdd] at hfr
            subst hfr
            have e8 : u 8 = .pointer (some ⟨gc, j, none⟩) := Have.get (k := 8) hn rfl
            simp only [e8] at hK
            have c0 : W.cell? ⟨gc, j, none⟩ = some (.slice (some ⟨gr, 0, none⟩) 2 kr) := cell_later' hcr hW
            have HK := Lib.hid hK
            clear hK hn
            go_simp
            exact HK.out
          refine Steps.cons ?_ ?_
          · intro _
            refine FreeStep.own (base := wr.heap.size) rfl (push_ok _) fun u β W hW hn fr hfr K hK => ?_
            simp only [frameL, putL, Act.put, List.setIfInBounds_toArray, List.set_cons_zero, List.set_cons_succ, Nat.zero_add, Nat.reduceAdd] at hfr
            subst hfr
            have e9 : u 9 = .slice (some ⟨gr, 0, none⟩) 2 kr := Have.get (k := 9) hn rfl
            have f8 : EmptyE wr.heap.size 71 W (u 2) () (β 2) := Have.get (k := 2) hn rfl
            obtain ⟨b8, g8, hb8, _, _⟩ := f8
            have hrow := (push_ok _).later HX.out.2.2.1 hW
            have hszW := hW.size
            have HK := Lib.hid hK
            clear hK hn
            refine step_append_grows rfl _ _ 69 rfl 71 p0 (.agg #[.int .i64 0, .int .i64 0]) 2 16 Try.underlying69 hp hp0 hp1 hp2 rfl (by decide) (some ⟨b8, 0, none⟩) 0 0 [] g8 (fun h => by cases h) rfl (fun b hb j u hu => by simp at hu) ⟨gr, 0, none⟩ 2 kr _ e9 ?_ (RowE.news hrow) ?_ (by omega) (by unfold maxLen; omega) (by omega) ?_
            · have t := hrow.1.1; rw [HX.out.2.1] at t; exact t
            · intro u hu; simp only [List.mem_flatMap] at hu; obtain ⟨x, _, hu⟩ := hu; rcases List.mem_cons.1 hu with rfl | hu; rfl; rw [List.mem_singleton.1 hu]; rfl
            · intro v' w' hown hgr
              have hb' : Below W.heap.size W w' := ⟨hgr.os, hgr.tape, hgr.output, hgr.size, fun k hk => hgr.block k hk (by simp)⟩
              have hE : PushE W.heap.size w' v' x v'.ownBlock.toList := ⟨by rw [HX.out.2.1]; simpa using hown, rfl⟩
              exact HK.out v' _ w' hb' (pushes_base hszW _ _ _ _ hE) (fun b hb => ((push_ok _).lt hE b hb).1)
          refine Steps.cons ?_ ?_
          · intro _
            refine FreeStep.dep (base := wr.heap.size) rfl (by decide) (fun v => one_ok _ _ v) fun u β W hW hn fr hfr K hK => ?_
            simp only [frameL, putL, Act.put, List.setIfInBounds_toArray, List.set_cons_zero, List.set_cons_succ, Nat.zero_add, Nat.reduceAdd] at hfr
            subst hfr
            have f10 : PushE wr.heap.size W (u 10) x (β 10) := Have.get (k := 10) hn rfl
            obtain ⟨A10, k10, g10⟩ := RowE.slice f10
            have hsz := hW.size
            have HK := Lib.hid hK
            have H10 := Lib.hid g10
            clear hK hn f10
            rw [g10] at HK ⊢
            go_simp
            exact HK.out _ [W.heap.size] _ ((Below.refl _ _).alloc (Nat.le_refl _) _) ⟨W.heap.size, rfl, Bx.new _ _ _, rfl, hsz⟩ (fun b hb => by rw [List.mem_singleton.1 hb]; exact Nat.le_refl _)
          exact ⟨fun h => absurd h (by decide), fun h => absurd h (by decide), fun h => absurd h (by decide), trivial⟩
        case tail =>
          intro u β W hW hn hdis hbnd fr hfr
          simp only [frameL, putL, Act.put, List.setIfInBounds_toArray, List.set_cons_zero, List.set_cons_succ, Nat.zero_add, Nat.reduceAdd] at hfr
          subst hfr
          have e1 : u 1 = .slice A' j k' := Have.get (k := 1) hn rfl
          have f10 : PushE wr.heap.size W (u 10) x (β 10) := Have.get (k := 10) hn rfl
          have f11 : OneE wr.heap.size 69 (u 10) W (u 11) () (β 11) := Have.get (k := 11) hn rfl
          obtain ⟨A10, k10, g10⟩ := RowE.slice f10
          obtain ⟨b11, g11, hb11, _, hl11⟩ := f11
          rw [g10] at f10 hb11
          obtain ⟨hx, hxl, hEr, f1, f2, f3, f4, hnd, hnb, hwb, hBw, xb, hbw⟩ := HX.out
          have hlj : (c.call.take j).length = j := by rw [List.length_take]; have := Hm.out; omega
          obtain ⟨vs, hrow', _⟩ := ((push2_ok _).later f2 hW).held
          rw [hlj] at hrow'
          have hszW := hW.size
          have hxbW := xb.later hW
          have hBW := hBw.trans (hW.mono hBw.size)
          have hCC := Lib.hid (fun (w5 : World) (g1 cap1 : Nat) (hown : w5.ownsRow Wr.heap.size 69 1 (.slice (some ⟨g1, 0, none⟩) (j + 1) cap1) (j + 1) (vs ++ [.slice A10 x.length k10])) (hg : W.grownBy w5 (Value.slice A' j k').ownBlock) (hat : (Value.slice A' j k').ownBlock = some g1 ∨ g1 = W.heap.size) =>
            CopyAt.call (d := { stack := c.stack, start := c.start, accept := c.accept, call := c.call.take j, ret := c.ret.take 0, inner := c.inner.take 0 }) xb f1 f2 f3 f4 hnd hnb hwb hBw hW f10 hlj hrow' hown hg rfl hat)
          have hbn := Lib.hid (fun (w5 : World) (hg : W.grownBy w5 (Value.slice A' j k').ownBlock) => show Bx w5 b 31 _ from hxbW.same (hg.block b hxbW.lt (fun e => by
            have h1 := f2.held.choose_spec.2 b e.symm
            simp only [List.mem_append, not_or] at hnb
            exact hnb.2.1 h1)))
          have htk : c.call.take (j + 1) = c.call.take j ++ [x] := by rw [List.take_add_one, hx]; rfl
          have Htk := Lib.hid htk
          have hw0 : Wr.heap.size ≤ W.heap.size := hBW.size
          clear f1 f2 f3 f4 hnd hnb hxbW hBW hx hEr hn hdis hbnd f10 htk hxl
          show wpOps _ _ _ [12, 13, 14] _ _
          rw [wpOps_cons]
          refine wpOp_step rfl (fun K hK => ?_)
          refine step_append_lies _ rfl _ _ 29 rfl Wr.heap.size 69 r0 (.slice none 0 0) 1 24 Try.underlying29 hr0 hr1 hr2 hr3 rfl (by decide) _ j _ e1 hrow' ⟨b11, 0, none⟩ 1 1 [.slice A10 x.length k10] g11 rfl (World.news_of_block hb11) (one_sing2 rfl) (by decide) ?c1 ?c2 ?c3 _ rfl ?_
          case c1 => unfold maxLen; omega
          case c2 => omega
          case c3 => exact hw0
          intro g1 cap1 w5 hown hg5 hat hltg
          refine hK _ _ ?_
          have hC5 := hCC.out w5 g1 cap1 hown hg5 hat
          have hb5 := hbn.out w5 hg5
          have H5 := Lib.hid hC5
          have q3 := hb5.cell 3 _ rfl
          have q4 := hb5.frozen 3
          clear hC5 hb5 hown hg5 hat hK
          rw [wpOps_cons]
          refine wpOp_step rfl (fun K2 hK2 => ?_)
          go_simp
          refine hK2 _ _ ?_
          clear hK2
          rw [wpOps_cons]
          refine wpOp_step rfl (fun K3 hK3 => ?_)
          go_simp
          refine hK3 _ _ ?_
          clear hK3
          unfold wpOps
          go_wp2
          go_roundw
          case rel => exact ⟨j + 1, by omega, by go_num, by rw [Htk.out]; exact H5.out⟩
          case measure => simp [intOf]; omega
      · have e : j = m := by omega
        subst e
        have HC2 := Lib.hid (show CopyAt Wr wr b c { stack := c.stack, start := c.start, accept := c.accept, call := c.call, ret := c.ret.take 0, inner := c.inner.take 0 } by
          have h := hC
          rw [Hm.out, List.take_length] at h
          exact h)
        clear f1 f2 f3 f4 hnd hnb hC HC
        go_wp2_with fail
        go_loopw [5] (fun i wr => ∃ t : Nat, t ≤ mr ∧ i = .int .i64 t ∧ CopyAt Wr wr b c { stack := c.stack, start := c.start, accept := c.accept, call := c.call, ret := c.ret.take t, inner := c.inner.take 0 }) (fun i _ => mr - (intOf i).toNat)
        case atStart => exact ⟨0, Nat.zero_le _, rfl, HC2.out⟩
        case round =>
          obtain ⟨t, ht, rfl, hC⟩ := hrel
          obtain ⟨va', vc', vr', vi', d1, d2, d3, d4, xb, f1, f2, f3, f4, hnd, hnb, hwb, hBw⟩ := hC.ex
          dsimp only at f1 f2 f3 f4
          have hbw := HbxW.out.later hBw
          obtain ⟨y0, y1, y2, y3, y4, y5, yl⟩ := id hbw.all6
          by_cases hlt : t < mr
          · obtain ⟨x, hx⟩ : ∃ x, c.ret[t]? = some x := ⟨_, List.getElem?_eq_getElem (by rw [← Hmr.out]; exact hlt)⟩
            have hxl := Hlr.out x (List.mem_of_getElem? hx)
            obtain ⟨gc, _, ur, dr, hv, hcr, hEr, hgc, _⟩ := ((ints3_ok _).later H3W.out hBw).at_ (ints2_ok _) hx
            simp only [Value.slice.injEq] at hv
            obtain ⟨rfl, h8, h9⟩ := hv
            clear h8 h9
            obtain ⟨Ar, kr, rfl⟩ := ManyE.slice hEr
            obtain ⟨xl, hxl'⟩ : ∃ l, l = x.length := ⟨_, rfl⟩
            rw [← hxl'] at hEr hcr
            obtain ⟨i2, hi2, hz20, hz21, hz22⟩ := info_parts toInfo_ints
            obtain ⟨i3, hi3, hz30, hz31, hz32⟩ := info_parts toInfo_ints2
            have hxl40 : xl ≤ 40 := by rw [hxl']; exact hxl.1
            have HX := Lib.hid (And.intro hx (And.intro hxl (And.intro hEr (And.intro f1 (And.intro f2 (And.intro f3 (And.intro f4 (And.intro hnd (And.intro hnb (And.intro hwb (And.intro hBw (And.intro xb hbw))))))))))))
            have Hxl := Lib.hid hxl'
            have hn0 := (Below.refl wr.heap.size wr).alloc (Nat.le_refl _) (.cells #[] 38)
            have hrow0 : (wr.alloc (.cells #[] 38)).ownsRow wr.heap.size 38 1 (.slice (some ⟨wr.heap.size, 0, none⟩) 0 0) 0 [] := by
              simpa using World.ownsRow_lit (base := wr.heap.size) (e := 38) (size := 1) wr #[] 0 (Nat.le_refl _) (by unfold maxLen; omega) (by simp)
            have HS0 : Hid (Ints2E wr.heap.size (wr.alloc (.cells #[] 38)) (.slice (some ⟨wr.heap.size, 0, none⟩) 0 0) (x.take 0) [wr.heap.size]) := Lib.hid ⟨[], [], by simpa using hrow0, rfl, fun j x u cs h => by simp at h, by simp [Value.ownBlock], by simp⟩
            have HN0 := Lib.hid hn0
            clear hx f1 f2 f3 f4 hnd hnb hC hEr hxl xb hbw hrow0 hn0 hxl'
            obtain ⟨Wo, hWo⟩ : ∃ Wo, Wo = wr := ⟨_, rfl⟩
            have HWo := Lib.hid hWo
            clear hWo
            go_wp2_with fail
            go_loopw [6, 7] (fun sm i wq => ∃ k : Nat, k ≤ xl ∧ i = .int .i64 k ∧ (∃ bs, Ints2E Wo.heap.size wq sm (x.take k) bs) ∧ Below Wo.heap.size Wo wq) (fun _ i _ => xl - (intOf i).toNat)
            case atStart => exact ⟨0, Nat.zero_le _, rfl, by rw [HWo.out]; exact ⟨_, HS0.out⟩, by rw [HWo.out]; exact HN0.out⟩
            case round =>
              obtain ⟨k, hk, rfl, ⟨bs6, hS⟩, hBq⟩ := hrel
              have hBo := hBq
              rw [HWo.out] at hBo
              obtain ⟨hx, hxl, hEr, f1, f2, f3, f4, hnd, hnb, hwb, hBw, xb, hbw⟩ := HX.out
              have hbq := hbw.later hBo
              have hErq := (ints2_ok _).later hEr hBo
              have hc1 := cell_later' hcr hBo
              have z4 := hbq.cell 4 _ rfl
              obtain ⟨A', k', e'⟩ := ManyE.slice hS
              have hlk0 : (x.take k).length = k := by rw [List.length_take]; have := Hxl.out; omega
              rw [hlk0] at e'
              subst e'
              by_cases hlt2 : k < xl
              · obtain ⟨y, hy⟩ : ∃ y, x[k]? = some y := ⟨_, List.getElem?_eq_getElem (by rw [← Hxl.out]; exact hlt2)⟩
                have hyl := hxl.2 y (List.mem_of_getElem? hy)
                obtain ⟨g3, _, u3, y3', hv3, hc3, hE3, hg3, _⟩ := hErq.at_ (ints_ok _) hy
                simp only [Value.slice.injEq] at hv3
                obtain ⟨rfl, h8, h9⟩ := hv3
                clear h8 h9
                have Hq := Lib.hid (spec_own2 _ hyl hE3)
                obtain ⟨A3', k3, rfl⟩ := RowE.slice hE3
                have htk : x.take (k + 1) = x.take k ++ [y] := by rw [List.take_add_one, hy]; rfl
                have Htk := Lib.hid htk
                have HS := Lib.hid (And.intro hS hBq)
                have Hlk := Lib.hid hlk0
                clear f1 f2 f3 f4 hnd hnb hx hxl hEr hErq hS hBq hBo hy hyl hE3 htk hlk0 hwb hBw xb hbw hbq
                go_wp2_with fail
                refine Hq.out.mono ?_
                rintro e w1 ⟨v1, cs1, rfl, hE1, hb1⟩
                have hS1 := (ints2_ok _).later HS.out.1 hb1
                have hB1 := HS.out.2.trans (hb1.mono HS.out.2.size)
                obtain ⟨vs, hrow, _⟩ := hS1.held
                rw [Hlk.out] at hrow
                have hd : ∀ b ∈ bs6, b ∉ cs1 := fun b h1 h2 => by have t1 := ((ints2_ok _).lt HS.out.1 b h1).2; have t2 := ((ints_ok _).lt hE1 b h2).1; omega
                have hE2 : IntsE Wo.heap.size w1 v1 y cs1 := ints_base HS.out.2.size _ _ _ _ hE1
                obtain ⟨A1, k1, rfl⟩ := RowE.slice hE1
                obtain ⟨yl, hyl⟩ : ∃ l, l = y.length := ⟨_, rfl⟩
                rw [← hyl] at hE1 hE2 ⊢
                have Hb := Lib.hid (And.intro hS1 (And.intro hB1 (And.intro hrow (And.intro hd hE2))))
                have hz3 := hB1.size
                clear hS1 hB1 hrow hd hE1 hE2 hb1 Hq hyl
                go_wp2_with (at_builtin; refine wpList_append_lies _ rfl _ _ 25 rfl Wo.heap.size 38 i2 (.slice none 0 0) 1 24 Try.underlying25 hi2 hz20 hz21 hz22 rfl (by decide) _ k _ rfl (Hb.out.2.2.1.alloc _) ⟨w1.heap.size, 0, none⟩ 1 1 [.slice A1 yl k1] rfl rfl (World.news_of_block (Bx.new w1 _ _)) (one_sing2 rfl) (by decide) ?c1 ?c2 ?c3 _ rfl ?_)
                case c1 => unfold maxLen; omega
                case c2 => omega
                case c3 => first | omega | (simp; omega)
                intro g1 cap1 w5 hown hg5 hat hltg
                have hB6 : Below Wo.heap.size Wo w5 := (Hb.out.2.1.alloc Hb.out.2.1.size _).grown hg5 (by simp; omega) (fun k hk => ((ints2_ok _).lt Hb.out.1 k (Hb.out.1.held.choose_spec.2 k hk)).1)
                obtain ⟨bs7, hS6, _⟩ := many_grow (ints_ok _) ((ints2_ok _).later Hb.out.1 ((Below.refl _ _).alloc (Nat.le_refl _) _)) Hlk.out (Hb.out.2.2.1.alloc _) ((ints_ok _).later Hb.out.2.2.2.2 ((Below.refl _ _).alloc (Nat.le_refl _) _)) Hb.out.2.2.2.1 hown hg5 rfl (by rcases hat with h | h; exact .inl h; exact .inr (by rw [World.size_alloc]; exact h))
                rw [← Htk.out] at hS6
                clear hown hg5 hat
                go_wp2
                go_roundw
                case rel => exact ⟨k + 1, by omega, by go_num, ⟨_, hS6⟩, hB6⟩
                case measure => simp [intOf]; omega
              · have e : k = xl := by omega
                subst e
                have hSx := hS
                rw [Hxl.out, List.take_length] at hSx
                rw [← Hxl.out, HWo.out] at hSx
                have hlt3 : (c.ret.take t).length = t := by rw [List.length_take]; have := Hmr.out; omega
                obtain ⟨A3', k3', e3⟩ := ManyE.slice f3
                rw [hlt3] at e3
                subst e3
                obtain ⟨vs, hrow, _⟩ := ((ints3_ok _).later f3 hBo).held
                rw [hlt3] at hrow
                have hxq := xb.later hBo
                have hnal := fun o => hBo.alloc hBo.size o
                have htk : c.ret.take (t + 1) = c.ret.take t ++ [x] := by rw [List.take_add_one, hx]; rfl
                have Htk := Lib.hid htk
                have hCC := Lib.hid (fun (o : Obj) (w5 : World) (g1 cap1 : Nat) hown hg hat =>
                  CopyAt.ret (d := { stack := c.stack, start := c.start, accept := c.accept, call := c.call, ret := c.ret.take t, inner := c.inner.take 0 }) (v' := .slice (some ⟨g1, 0, none⟩) (t + 1) cap1) (w5 := w5) (g := g1) xb f1 f2 f3 f4 hnd hnb hwb hBw (hnal o) ((ints2_ok _).later hSx ((Below.refl _ _).alloc (Nat.le_refl _) o)) hlt3 (hrow.alloc o) hown hg rfl hat)
                have hbn := Lib.hid (fun (o : Obj) (w5 : World) (hg : (World.alloc _ o).grownBy w5 (Value.slice A3' t k3').ownBlock) => show Bx w5 b 31 _ from (hxq.alloc o).same (hg.block b (hxq.alloc o).lt (fun e => by
                  have h1 := f3.held.choose_spec.2 b e.symm
                  simp only [List.mem_append, not_or] at hnb
                  exact hnb.2.2.1 h1)))
                have z5 := hxq.cell 4 _ rfl
                have hszw : Wr.heap.size ≤ _ := Nat.le_trans hBw.size hBo.size
                have Hrow := Lib.hid hrow
                clear f1 f2 f3 f4 hnd hnb hx hxl hEr hErq hS hSx hBq hBo hwb hBw xb hbw hbq hxq hrow hnal htk
                go_wp2_with (at_builtin; refine wpList_append_lies _ rfl _ _ 24 rfl Wr.heap.size 25 i3 (.slice none 0 0) 1 24 Try.underlying24 hi3 hz30 hz31 hz32 rfl (by decide) _ t _ rfl (Hrow.out.alloc _) ⟨_, 0, none⟩ 1 1 [.slice A' k k'] rfl rfl (World.news_of_block (Bx.new _ _ _)) (one_sing2 rfl) (by decide) ?c1 ?c2 ?c3 _ rfl ?_)
                case c1 => unfold maxLen; omega
                case c2 => omega
                case c3 => first | omega | (simp; omega)
                intro g1 cap1 w5 hown hg5 hat hltg
                have H5 := Lib.hid (hCC.out _ w5 g1 cap1 hown hg5 (by rcases hat with h | h; exact .inl h; exact .inr (by rw [World.size_alloc]; exact h)))
                have hb5 := hbn.out _ w5 hg5
                have q3 := hb5.cell 4 _ rfl
                have q4 := hb5.frozen 4
                clear hown hg5 hat hb5
                go_wp2
                go_roundw
                case rel => exact ⟨t + 1, by omega, by go_num, by rw [Htk.out]; exact H5.out⟩
                case measure => simp [intOf]; omega
          · have e : t = mr := by omega
            subst e
            have HC3 := Lib.hid (show CopyAt Wr wr b c { stack := c.stack, start := c.start, accept := c.accept, call := c.call, ret := c.ret, inner := c.inner.take 0 } by
              have h := hC
              rw [Hmr.out, List.take_length] at h
              exact h)
            clear f1 f2 f3 f4 hnd hnb hC HC2
            go_wp2_with fail
            go_loopw [8] (fun i wr => ∃ t : Nat, t ≤ mi ∧ i = .int .i64 t ∧ CopyAt Wr wr b c { stack := c.stack, start := c.start, accept := c.accept, call := c.call, ret := c.ret, inner := c.inner.take t }) (fun i _ => mi - (intOf i).toNat)
            case atStart => exact ⟨0, Nat.zero_le _, rfl, HC3.out⟩
            case round =>
              obtain ⟨t, ht, rfl, hC⟩ := hrel
              obtain ⟨va', vc', vr', vi', d1, d2, d3, d4, xb, f1, f2, f3, f4, hnd, hnb, hwb, hBw⟩ := hC.ex
              dsimp only at f1 f2 f3 f4
              have hbw := HbxW.out.later hBw
              obtain ⟨y0, y1, y2, y3, y4, y5, yl⟩ := id hbw.all6
              by_cases hlt : t < mi
              · obtain ⟨x, hx⟩ : ∃ x, c.inner[t]? = some x := ⟨_, List.getElem?_eq_getElem (by rw [← Hmi.out]; exact hlt)⟩
                have hxl := Hli.out.2 x (List.mem_of_getElem? hx)
                have hmi40 := Hli.out.1
                obtain ⟨gc, _, ur, dr, hv, hcr, hEr, hgc, _⟩ := ((ints2_ok _).later H4W.out hBw).at_ (ints_ok _) hx
                simp only [Value.slice.injEq] at hv
                obtain ⟨rfl, h8, h9⟩ := hv
                clear h8 h9
                obtain ⟨Ar, kr, rfl⟩ := RowE.slice hEr
                rw [hxl] at hEr hcr
                obtain ⟨A', k', rfl⟩ := ManyE.slice f4
                have hlj : (c.inner.take t).length = t := by rw [List.length_take]; have := Hmi.out; omega
                rw [hlj] at f4 xb
                have HX := Lib.hid (And.intro hx (And.intro hxl (And.intro hEr (And.intro f1 (And.intro f2 (And.intro f3 (And.intro f4 (And.intro hnd (And.intro hnb (And.intro hwb (And.intro hBw (And.intro xb hbw))))))))))))
                clear hx f1 f2 f3 f4 hnd hnb hC hEr hxl
                obtain ⟨r0, hr0, hr1, hr2, hr3⟩ := info_parts toInfo_ints
                go_upto_region 18 with fail
                refine wp_region_free_seq (by kernel_rfl) [
                  .val [] (fun _ => .pointer (some ⟨b, 5, none⟩)),
                  .val [] (fun _ => .slice A' t k'),
                  .val [] (fun _ => .pointer (some ⟨B, 0, none⟩)),
                  .val [] (fun _ => .pointer (some ⟨B, 0, none⟩)),
                  .val [] (fun _ => .pointer (some ⟨B, 5, none⟩)),
                  .val [] (fun _ => .slice (some ⟨gc, 0, none⟩) mi ki),
                  .val [] (fun _ => .int .i64 (t : Int)),
                  .val [] (fun _ => .pointer (some ⟨gc, t, none⟩)),
                  .val [] (fun _ => .slice Ar 2 kr),
                  .own (IntsE wr.heap.size) x,
                  .dep 9 (fun r => OneE wr.heap.size 38 r) ()] 11 ?hp ?hfw ?deps ?oks ?hforced ?hf ?steps ?tail
                case hp => kernel_rfl
                case hfw => kernel_rfl
                case deps => kernel_rfl
                case hforced => kernel_rfl
                case hf => kernel_rfl
                case oks =>
                  intro F hF
                  simp only [List.mem_cons, List.not_mem_nil, or_false] at hF
                  rcases hF with rfl | rfl | rfl | rfl | rfl | rfl | rfl | rfl | rfl | rfl | rfl
                  all_goals first | trivial | exact ⟨_, ints_ok _⟩ | exact fun v => ⟨_, one_ok _ _ v⟩
                case steps =>
                  refine Steps.cons ?_ ?_
                  · intro _
                    refine FreeStep.val [] _ rfl rfl fun u β W hW hn fr hfr K hK => ?_
                    simp only [frameL, putL, Act.put, List.setIfInBounds_toArray, List.set_cons_zero, List.set_cons_succ, Nat.zero_add, Nat.reduceAdd] at hfr
                    subst hfr
                    have HK := Lib.hid hK
                    clear hK hn
                    go_simp
                    exact HK.out
                  refine Steps.cons ?_ ?_
                  · intro _
                    refine FreeStep.val [] _ rfl rfl fun u β W hW hn fr hfr K hK => ?_
                    simp only [frameL, putL, Act.put, List.setIfInBounds_toArray, List.set_cons_zero, List.set_cons_succ, Nat.zero_add, Nat.reduceAdd] at hfr
                    subst hfr
                    have e0 : u 0 = .pointer (some ⟨b, 5, none⟩) := Have.get (k := 0) hn rfl
                    simp only [e0] at hK
                    have c0 : W.cell? ⟨b, 5, none⟩ = some (.slice A' t k') := (HX.out.2.2.2.2.2.2.2.2.2.2.2.1.later hW).cell 5 _ rfl
                    have HK := Lib.hid hK
                    clear hK hn
                    go_simp
                    exact HK.out
                  refine Steps.cons ?_ ?_
                  · intro _
                    refine FreeStep.val [] _ rfl rfl fun u β W hW hn fr hfr K hK => ?_
                    simp only [frameL, putL, Act.put, List.setIfInBounds_toArray, List.set_cons_zero, List.set_cons_succ, Nat.zero_add, Nat.reduceAdd] at hfr
                    subst hfr
                    have HK := Lib.hid hK
                    clear hK hn
                    go_simp
                    exact HK.out
                  refine Steps.cons ?_ ?_
                  · intro _
                    refine FreeStep.val [] _ rfl rfl fun u β W hW hn fr hfr K hK => ?_
                    simp only [frameL, putL, Act.put, List.setIfInBounds_toArray, List.set_cons_zero, List.set_cons_succ, Nat.zero_add, Nat.reduceAdd] at hfr
                    subst hfr
                    have e2 : u 2 = .pointer (some ⟨B, 0, none⟩) := Have.get (k := 2) hn rfl
                    simp only [e2] at hK
                    have HK := Lib.hid hK
                    clear hK hn
                    go_simp
                    exact HK.out
                  refine Steps.cons ?_ ?_
                  · intro _
                    refine FreeStep.val [] _ rfl rfl fun u β W hW hn fr hfr K hK => ?_
                    simp only [frameL, putL, Act.put, List.setIfInBounds_toArray, List.set_cons_zero, List.set_cons_succ, Nat.zero_add, Nat.reduceAdd] at hfr
                    subst hfr
                    have e3 : u 3 = .pointer (some ⟨B, 0, none⟩) := Have.get (k := 3) hn rfl
                    simp only [e3] at hK
                    have HK := Lib.hid hK
                    clear hK hn
                    go_simp
                    exact HK.out
                  refine Steps.cons ?_ ?_
                  · intro _
                    refine FreeStep.val [] _ rfl rfl fun u β W hW hn fr hfr K hK => ?_
                    simp only [frameL, putL, Act.put, List.setIfInBounds_toArray, List.set_cons_zero, List.set_cons_succ, Nat.zero_add, Nat.reduceAdd] at hfr
                    subst hfr
                    have e4 : u 4 = .pointer (some ⟨B, 5, none⟩) := Have.get (k := 4) hn rfl
                    simp only [e4] at hK
                    have c0 : W.cell? ⟨B, 5, none⟩ = some (.slice (some ⟨gc, 0, none⟩) mi ki) := (HX.out.2.2.2.2.2.2.2.2.2.2.2.2.later hW).cell 5 _ rfl
                    have HK := Lib.hid hK
                    clear hK hn
                    go_simp
                    exact HK.out
                  refine Steps.cons ?_ ?_
                  · intro _
                    refine FreeStep.val [] _ rfl rfl fun u β W hW hn fr hfr K hK => ?_
                    simp only [frameL, putL, Act.put, List.setIfInBounds_toArray, List.set_cons_zero, List.set_cons_succ, Nat.zero_add, Nat.reduceAdd] at hfr
                    subst hfr
                    have HK := Lib.hid hK
                    clear hK hn
                    go_simp
                    exact HK.out
                  refine Steps.cons ?_ ?_
                  · intro _
                    refine FreeStep.val [] _ rfl rfl fun u β W hW hn fr hfr K hK => ?_
                    simp only [frameL, putL, Act.put, List.setIfInBounds_toArray, List.set_cons_zero, List.set_cons_succ, Nat.zero_add, Nat.reduceAdd] at hfr
                    subst hfr
                    have e5 : u 5 = .slice (some ⟨gc, 0, none⟩) mi ki := Have.get (k := 5) hn rfl
                    have e6 : u 6 = .int .i64 (t : Int) := Have.get (k := 6) hn rfl
                    simp only [e5, e6] at hK
                    have HK := Lib.hid hK
                    clear hK hn
                    go_simp
                    exact HK.out
                  refine Steps.cons ?_ ?_
                  · intro _
                    refine FreeStep.val [] _ rfl rfl fun u β W hW hn fr hfr K hK => ?_
                    simp only [frameL, putL, Act.put, List.setIfInBounds_toArray, List.set_cons_zero, List.set_cons_succ, Nat.zero_add, Nat.reduceAdd] at hfr
                    subst hfr
                    have e7 : u 7 = .pointer (some ⟨gc, t, none⟩) := Have.get (k := 7) hn rfl
                    simp only [e7] at hK
                    have c0 : W.cell? ⟨gc, t, none⟩ = some (.slice Ar 2 kr) := cell_later' hcr hW
                    have HK := Lib.hid hK
                    clear hK hn
                    go_simp
                    exact HK.out
                  refine Steps.cons ?_ ?_
                  · intro _
                    refine FreeStep.own (base := wr.heap.size) rfl (ints_ok _) fun u β W hW hn fr hfr K hK => ?_
                    simp only [frameL, putL, Act.put, List.setIfInBounds_toArray, List.set_cons_zero, List.set_cons_succ, Nat.zero_add, Nat.reduceAdd] at hfr
                    subst hfr
                    have e8 : u 8 = .slice Ar 2 kr := Have.get (k := 8) hn rfl
                    simp only [e8] at hK
                    have Q := Lib.hid (spec_own2 W (xs := x) (by rw [HX.out.2.1]; omega) ((ints_ok _).later HX.out.2.2.1 hW))
                    have hszW := hW.size
                    have HK := Lib.hid hK
                    clear hK hn
                    go_simp
                    refine Q.out.mono ?_
                    rintro e w1 ⟨v1, bs1, rfl, E1, hb1⟩
                    exact HK.out v1 bs1 w1 hb1 (ints_base hszW _ _ _ _ E1) (fun b hb => ((ints_ok _).lt E1 b hb).1)
                  refine Steps.cons ?_ ?_
                  · intro _
                    refine FreeStep.dep (base := wr.heap.size) rfl (by decide) (fun v => one_ok _ _ v) fun u β W hW hn fr hfr K hK => ?_
                    simp only [frameL, putL, Act.put, List.setIfInBounds_toArray, List.set_cons_zero, List.set_cons_succ, Nat.zero_add, Nat.reduceAdd] at hfr
                    subst hfr
                    have f9 : IntsE wr.heap.size W (u 9) x (β 9) := Have.get (k := 9) hn rfl
                    obtain ⟨A9, k9, g9⟩ := RowE.slice f9
                    have hsz := hW.size
                    have HK := Lib.hid hK
                    have H9 := Lib.hid g9
                    clear hK hn f9
                    rw [g9] at HK ⊢
                    go_simp
                    exact HK.out _ [W.heap.size] _ ((Below.refl _ _).alloc (Nat.le_refl _) _) ⟨W.heap.size, rfl, Bx.new _ _ _, rfl, hsz⟩ (fun b hb => by rw [List.mem_singleton.1 hb]; exact Nat.le_refl _)
                  exact ⟨fun h => absurd h (by decide), fun h => absurd h (by decide), fun h => absurd h (by decide), trivial⟩
                case tail =>
                  intro u β W hW hn hdis hbnd fr hfr
                  simp only [frameL, putL, Act.put, List.setIfInBounds_toArray, List.set_cons_zero, List.set_cons_succ, Nat.zero_add, Nat.reduceAdd] at hfr
                  subst hfr
                  have e1 : u 1 = .slice A' t k' := Have.get (k := 1) hn rfl
                  have f9 : IntsE wr.heap.size W (u 9) x (β 9) := Have.get (k := 9) hn rfl
                  have f10 : OneE wr.heap.size 38 (u 9) W (u 10) () (β 10) := Have.get (k := 10) hn rfl
                  obtain ⟨A9, k9, g9⟩ := RowE.slice f9
                  obtain ⟨b11, g11, hb11, _, hl11⟩ := f10
                  rw [g9] at f9 hb11
                  obtain ⟨hx, hxl, hEr, f1, f2, f3, f4, hnd, hnb, hwb, hBw, xb, hbw⟩ := HX.out
                  have hlj : (c.inner.take t).length = t := by rw [List.length_take]; have := Hmi.out; omega
                  obtain ⟨vs, hrow', _⟩ := ((ints2_ok _).later f4 hW).held
                  rw [hlj] at hrow'
                  have hszW := hW.size
                  have hxbW := xb.later hW
                  have hBW := hBw.trans (hW.mono hBw.size)
                  have hCC := Lib.hid (fun (w5 : World) (g1 cap1 : Nat) (hown : w5.ownsRow Wr.heap.size 38 1 (.slice (some ⟨g1, 0, none⟩) (t + 1) cap1) (t + 1) (vs ++ [.slice A9 x.length k9])) (hg : W.grownBy w5 (Value.slice A' t k').ownBlock) (hat : (Value.slice A' t k').ownBlock = some g1 ∨ g1 = W.heap.size) =>
                    CopyAt.inner (d := { stack := c.stack, start := c.start, accept := c.accept, call := c.call, ret := c.ret, inner := c.inner.take t }) xb f1 f2 f3 f4 hnd hnb hwb hBw hW f9 hlj hrow' hown hg rfl hat)
                  have hbn := Lib.hid (fun (w5 : World) (hg : W.grownBy w5 (Value.slice A' t k').ownBlock) => show Bx w5 b 31 _ from hxbW.same (hg.block b hxbW.lt (fun e => by
                    have h1 := f4.held.choose_spec.2 b e.symm
                    simp only [List.mem_append, not_or] at hnb
                    exact hnb.2.2.2 h1)))
                  have htk : c.inner.take (t + 1) = c.inner.take t ++ [x] := by rw [List.take_add_one, hx]; rfl
                  have Htk := Lib.hid htk
                  have hw0 : Wr.heap.size ≤ W.heap.size := hBW.size
                  clear f1 f2 f3 f4 hnd hnb hxbW hBW hx hEr hn hdis hbnd f9 htk hxl
                  show wpOps _ _ _ [11, 12, 13] _ _
                  rw [wpOps_cons]
                  refine wpOp_step rfl (fun K hK => ?_)
                  refine step_append_lies _ rfl _ _ 25 rfl Wr.heap.size 38 r0 (.slice none 0 0) 1 24 Try.underlying25 hr0 hr1 hr2 hr3 rfl (by decide) _ t _ e1 hrow' ⟨b11, 0, none⟩ 1 1 [.slice A9 x.length k9] g11 rfl (World.news_of_block hb11) (one_sing2 rfl) (by decide) ?c1 ?c2 ?c3 _ rfl ?_
                  case c1 => unfold maxLen; omega
                  case c2 => omega
                  case c3 => exact hw0
                  intro g1 cap1 w5 hown hg5 hat hltg
                  refine hK _ _ ?_
                  have hC5 := hCC.out w5 g1 cap1 hown hg5 hat
                  have hb5 := hbn.out w5 hg5
                  have H5 := Lib.hid hC5
                  have q3 := hb5.cell 5 _ rfl
                  have q4 := hb5.frozen 5
                  clear hC5 hb5 hown hg5 hat hK
                  rw [wpOps_cons]
                  refine wpOp_step rfl (fun K2 hK2 => ?_)
                  go_simp
                  refine hK2 _ _ ?_
                  clear hK2
                  rw [wpOps_cons]
                  refine wpOp_step rfl (fun K3 hK3 => ?_)
                  go_simp
                  refine hK3 _ _ ?_
                  clear hK3
                  unfold wpOps
                  go_wp2
                  go_roundw
                  case rel => exact ⟨t + 1, by omega, by go_num, by rw [Htk.out]; exact H5.out⟩
                  case measure => simp [intOf]; omega
              · have e : t = mi := by omega
                subst e
                rw [Hmi.out, List.take_length] at f4
                have Hf := Lib.hid (And.intro f1 (And.intro f2 (And.intro f3 (And.intro f4 (And.intro hnd (And.intro hnb (And.intro hwb (And.intro hBw (And.intro xb HRs.out)))))))))
                obtain ⟨A5, k5, rfl⟩ := RowE.slice f1
                obtain ⟨C5, kc5, rfl⟩ := ManyE.slice f2
                obtain ⟨R5, kr5, rfl⟩ := ManyE.slice f3
                obtain ⟨I5, ki5, rfl⟩ := ManyE.slice f4
                obtain ⟨z0, z1, z2, z3, z4, z5, zl⟩ := id xb.all6
                have xr := HRs.out.1.later hBw
                have hlt0 := HRs.out.1.lt
                obtain ⟨r0, r1, r2, r3, r4, r5, rl⟩ := id xr.all6
                have q0 := xr.frozen 0
                have q1 := xr.frozen 1
                have q2 := xr.frozen 2
                have q3 := xr.frozen 3
                have q4 := xr.frozen 4
                have q5 := xr.frozen 5
                clear f1 f2 f3 f4 hnd hnb hC xr xb hbw
                go_wp2
                obtain ⟨f1, f2, f3, f4, hnd, hnb, hwb, hBw, xb, hres, hBr0⟩ := Hf.out
                have xr := hres.later hBw
                have x5' := (((((xr.set 0 (.int .i64 c.stack)).set 1 (.int .i64 c.start)).set 2 (.slice A5 c.accept.length k5)).set 3 (.slice C5 c.call.length kc5)).set 4 (.slice R5 c.ret.length kr5)).set 5 (.slice I5 c.inner.length ki5)
                have hfr : ∀ (V : World) (i : Nat) (v : Value) (k : Nat), w.heap.size < k → (V.setCell ⟨w.heap.size, i, none⟩ v).heap[k]? = V.heap[k]? := fun V i v k hk => Below.heap_setCell V ⟨w.heap.size, i, none⟩ v k (fun e => by
                  have h2 : k = w.heap.size := e
                  omega)
                obtain ⟨Wf, hWf⟩ : ∃ Wf, Wf = (((((wr.setCell ⟨w.heap.size, 0, none⟩ (.int .i64 c.stack)).setCell ⟨w.heap.size, 1, none⟩ (.int .i64 c.start)).setCell ⟨w.heap.size, 2, none⟩ (.slice A5 c.accept.length k5)).setCell ⟨w.heap.size, 3, none⟩ (.slice C5 c.call.length kc5)).setCell ⟨w.heap.size, 4, none⟩ (.slice R5 c.ret.length kr5)).setCell ⟨w.heap.size, 5, none⟩ (.slice I5 c.inner.length ki5) := ⟨_, rfl⟩
                have hkeep : ∀ k, w.heap.size < k → Wf.heap[k]? = wr.heap[k]? := fun k hk => by
                  rw [hWf, hfr _ _ _ k hk, hfr _ _ _ k hk, hfr _ _ _ k hk, hfr _ _ _ k hk, hfr _ _ _ k hk, hfr _ _ _ k hk]
                have hBf : Below w.heap.size w Wf := by
                  rw [hWf]
                  exact ((((((hBr0.trans (hBw.mono hBr0.size)).setCell (p := ⟨w.heap.size, 0, none⟩) (Nat.le_refl _) _).setCell (p := ⟨w.heap.size, 1, none⟩) (Nat.le_refl _) _).setCell (p := ⟨w.heap.size, 2, none⟩) (Nat.le_refl _) _).setCell (p := ⟨w.heap.size, 3, none⟩) (Nat.le_refl _) _).setCell (p := ⟨w.heap.size, 4, none⟩) (Nat.le_refl _) _).setCell (p := ⟨w.heap.size, 5, none⟩) (Nat.le_refl _) _
                rw [← hWf] at x5' ⊢
                have F1 := bools_base hBr0.size _ _ _ _ ((bools_ok _).kept f1 fun k hk => hkeep k (by have := ((bools_ok _).lt f1 k hk).1; omega))
                have F2 := pushes2_base hBr0.size _ _ _ _ ((push2_ok _).kept f2 fun k hk => hkeep k (by have := ((push2_ok _).lt f2 k hk).1; omega))
                have F3 := ints3_base hBr0.size _ _ _ _ ((ints3_ok _).kept f3 fun k hk => hkeep k (by have := ((ints3_ok _).lt f3 k hk).1; omega))
                have F4 := ints2_base hBr0.size _ _ _ _ ((ints2_ok _).kept f4 fun k hk => hkeep k (by have := ((ints2_ok _).lt f4 k hk).1; omega))
                have e0 := x5'.cell 0 (.int .i64 c.stack) rfl
                have e1 := x5'.cell 1 (.int .i64 c.start) rfl
                have e2 := x5'.cell 2 (.slice A5 c.accept.length k5) rfl
                have e3 := x5'.cell 3 (.slice C5 c.call.length kc5) rfl
                have e4 := x5'.cell 4 (.slice R5 c.ret.length kr5) rfl
                have e5 := x5'.cell 5 (.slice I5 c.inner.length ki5) rfl
                exact bodyPost_ret (v := .agg #[.int .i64 c.stack, .int .i64 c.start, .slice A5 c.accept.length k5, .slice C5 c.call.length kc5, .slice R5 c.ret.length kr5, .slice I5 c.inner.length ki5]) (by simp [results, Try.results37, go_sem, e0, e1, e2, e3, e4, e5]) rfl ⟨_, _, rfl, ⟨_, _, _, _, d1, d2, d3, d4, rfl, F1, F2, F3, F4, rfl, hnd⟩, hBf⟩
end Go.Proofs.Ytdehehdcjfaefab
