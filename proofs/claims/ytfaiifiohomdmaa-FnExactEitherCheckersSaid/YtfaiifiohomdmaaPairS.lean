/- l02Pairs of the model. -/
import Derived.Test.YtfaiifiohomdmaaPairT
import Derived.Test.YtfaiifiohomdmaaMapped
import Derived.Deep.AppendLies
import Derived.Deep.Cut
import Derived.StillTailTactics
namespace Go.Proofs.Ytfaiifiohomdmaa
open Go.RowKit
set_option linter.unusedVariables false

theorem res_pairs (tm : Array Value) (w : World) (B : Nat) (s0 s1 : Int) (A1 A2 A3 A4 : Option Addr) (n1 n2 n3 n4 k1 k2 k3 k4 : Nat) (h : tm.getD 6 undef = .pointer (some ⟨B, 0, none⟩))
    (y0 : w.cell? ⟨B, 0, none⟩ = some (.int .i64 s0)) (y1 : w.cell? ⟨B, 1, none⟩ = some (.int .i64 s1)) (y2 : w.cell? ⟨B, 2, none⟩ = some (.slice A1 n1 k1)) (y3 : w.cell? ⟨B, 3, none⟩ = some (.slice A2 n2 k2)) (y4 : w.cell? ⟨B, 4, none⟩ = some (.slice A3 n3 k3)) (y5 : w.cell? ⟨B, 5, none⟩ = some (.slice A4 n4 k4)) :
    (results Try.f49 tm).run Try.prog w = .ok (.agg #[.int .i64 s0, .int .i64 s1, .slice A1 n1 k1, .slice A2 n2 k2, .slice A3 n3 k3, .slice A4 n4 k4]) w := by
  have h' : tm[6]?.getD undef = .pointer (some ⟨B, 0, none⟩) := by simpa using h
  simp [results, Try.results49, go_sem, h', y0, y1, y2, y3, y4, y5]
theorem news3 (w : World) (o1 o2 : Obj) (cs : Array Value) (t : TypeId) : ∀ j u, cs.toList[j]? = some u → (((w.alloc o1).alloc o2).alloc (.cells cs t)).cell? ((⟨w.heap.size + 1 + 1, 0, none⟩ : Addr).add j) = some u := by
  have h := Bx.new ((w.alloc o1).alloc o2) t cs
  simp only [World.size_alloc] at h
  exact World.news_of_block h
theorem hSt2_row {base : Nat} {w : World} {v : Value} {xs : List Bool} {bs : List Nat} {n : Nat} (h : BoolsE base w v xs bs) (hn : xs.length = n) : w.ownsRow base 4 1 v n (xs.flatMap fun x => [Value.bool x]) := by rw [← hn]; exact h.1
def fB (both : Bool) (x y : Bool) : Bool := if both then x && y else x || y
theorem pairT_zero (f : Bool → Bool → Bool) (c d : Ck) : pairT f c d 0 0 = { stack := c.stack * d.stack, start := pairS d.accept.length c.start d.start, accept := [], call := [], ret := [], inner := [] } := by
  unfold pairT
  simp only [prodT_zero]
theorem pairT_more (f : Bool → Bool → Bool) {c d : Ck} {s t : Nat} {a a' : Bool} {p p' : List (Int × Int)} {r r' : List (List Int)} {n n' : List Int} (h1 : c.accept[s]? = some a) (h2 : c.call[s]? = some p) (h3 : c.ret[s]? = some r) (h4 : c.inner[s]? = some n)
    (g1 : d.accept[t]? = some a') (g2 : d.call[t]? = some p') (g3 : d.ret[t]? = some r') (g4 : d.inner[t]? = some n') :
    pairT f c d s (t + 1) = { stack := (pairT f c d s t).stack, start := (pairT f c d s t).start, accept := (pairT f c d s t).accept ++ [f a a'], call := (pairT f c d s t).call ++ [List.zipWith (pairP d.accept.length d.stack) p p'], ret := (pairT f c d s t).ret ++ [List.zipWith (pairR d.accept.length) r r'], inner := (pairT f c d s t).inner ++ [List.zipWith (pairS d.accept.length) n n'] } := by
  unfold pairT
  dsimp only
  rw [prodT_more h1 g1, prodT_more h2 g2, prodT_more h3 g3, prodT_more h4 g4]
theorem pairT_next (f : Bool → Bool → Bool) {c d : Ck} (hc : OkC c) (hd : OkC d) {s : Nat} (hs : s < c.accept.length) : pairT f c d s d.accept.length = pairT f c d (s + 1) 0 := by
  unfold pairT
  have e2 : prodT (List.zipWith (pairP d.accept.length d.stack)) c.call d.call s d.accept.length = prodT (List.zipWith (pairP d.accept.length d.stack)) c.call d.call (s + 1) 0 := by have h := prodT_next (f := List.zipWith (pairP d.accept.length d.stack)) (ys := d.call) (show s < c.call.length by rw [hc.lc]; exact hs); rw [hd.lc] at h; exact h
  have e3 : prodT (List.zipWith (pairR d.accept.length)) c.ret d.ret s d.accept.length = prodT (List.zipWith (pairR d.accept.length)) c.ret d.ret (s + 1) 0 := by have h := prodT_next (f := List.zipWith (pairR d.accept.length)) (ys := d.ret) (show s < c.ret.length by rw [hc.lr]; exact hs); rw [hd.lr] at h; exact h
  have e4 : prodT (List.zipWith (pairS d.accept.length)) c.inner d.inner s d.accept.length = prodT (List.zipWith (pairS d.accept.length)) c.inner d.inner (s + 1) 0 := by have h := prodT_next (f := List.zipWith (pairS d.accept.length)) (ys := d.inner) (show s < c.inner.length by rw [hc.li]; exact hs); rw [hd.li] at h; exact h
  rw [prodT_next hs, e2, e3, e4]
theorem pairT_all (f : Bool → Bool → Bool) {c d : Ck} (hc : OkC c) : pairT f c d c.accept.length 0 = pairC f c d := by
  unfold pairT pairC
  have e2 : prodT (List.zipWith (pairP d.accept.length d.stack)) c.call d.call c.accept.length 0 = prodL (List.zipWith (pairP d.accept.length d.stack)) c.call d.call := by have h := prodT_all (List.zipWith (pairP d.accept.length d.stack)) c.call d.call; rw [hc.lc] at h; exact h
  have e3 : prodT (List.zipWith (pairR d.accept.length)) c.ret d.ret c.accept.length 0 = prodL (List.zipWith (pairR d.accept.length)) c.ret d.ret := by have h := prodT_all (List.zipWith (pairR d.accept.length)) c.ret d.ret; rw [hc.lr] at h; exact h
  have e4 : prodT (List.zipWith (pairS d.accept.length)) c.inner d.inner c.accept.length 0 = prodL (List.zipWith (pairS d.accept.length)) c.inner d.inner := by have h := prodT_all (List.zipWith (pairS d.accept.length)) c.inner d.inner; rw [hc.li] at h; exact h
  rw [prodT_all, e2, e3, e4]
theorem pairT_lens (f : Bool → Bool → Bool) {c d : Ck} (hc : OkC c) (hd : OkC d) {s t : Nat} (hs : s < c.accept.length) (ht : t ≤ d.accept.length) : (pairT f c d s t).accept.length = s * d.accept.length + t ∧ (pairT f c d s t).call.length = s * d.accept.length + t ∧ (pairT f c d s t).ret.length = s * d.accept.length + t ∧ (pairT f c d s t).inner.length = s * d.accept.length + t := by
  unfold pairT
  dsimp only
  refine ⟨prodT_len _ _ _ hs ht, ?_, ?_, ?_⟩
  · have h := prodT_len (List.zipWith (pairP d.accept.length d.stack)) c.call d.call (s := s) (t := t) (by rw [hc.lc]; exact hs) (by rw [hd.lc]; exact ht); rw [hd.lc] at h; exact h
  · have h := prodT_len (List.zipWith (pairR d.accept.length)) c.ret d.ret (s := s) (t := t) (by rw [hc.lr]; exact hs) (by rw [hd.lr]; exact ht); rw [hd.lr] at h; exact h
  · have h := prodT_len (List.zipWith (pairS d.accept.length)) c.inner d.inner (s := s) (t := t) (by rw [hc.li]; exact hs) (by rw [hd.li]; exact ht); rw [hd.li] at h; exact h

set_option maxHeartbeats 51200000 in
set_option maxRecDepth 100000 in
theorem spec_pairs {base base' Bc Bd : Nat} {c d : Ck} {b1 b2 b3 b4 c1 c2 c3 c4 : List Nat} {S M nc nd ga ka gc kc gr kr gi ki ha la hc lc hr lr hi li : Nat} (both : Bool) (w : World) (hokc : OkC c) (hokd : OkC d) (hS : c.stack = (S : Int)) (hM : d.stack = (M : Int)) (hnc : nc = c.accept.length) (hnd : nd = d.accept.length)
    (hbc : Bx w Bc 31 #[.int .i64 (S : Int), .int .i64 c.start, .slice (some ⟨ga, 0, none⟩) nc ka, .slice (some ⟨gc, 0, none⟩) nc kc, .slice (some ⟨gr, 0, none⟩) nc kr, .slice (some ⟨gi, 0, none⟩) nc ki]) (hbd : Bx w Bd 31 #[.int .i64 (M : Int), .int .i64 d.start, .slice (some ⟨ha, 0, none⟩) nd la, .slice (some ⟨hc, 0, none⟩) nd lc, .slice (some ⟨hr, 0, none⟩) nd lr, .slice (some ⟨hi, 0, none⟩) nd li])
    (h1 : BoolsE base w (.slice (some ⟨ga, 0, none⟩) nc ka) c.accept b1) (h2 : Push2E base w (.slice (some ⟨gc, 0, none⟩) nc kc) c.call b2) (h3 : Ints3E base w (.slice (some ⟨gr, 0, none⟩) nc kr) c.ret b3) (h4 : Ints2E base w (.slice (some ⟨gi, 0, none⟩) nc ki) c.inner b4)
    (g1 : BoolsE base' w (.slice (some ⟨ha, 0, none⟩) nd la) d.accept c1) (g2 : Push2E base' w (.slice (some ⟨hc, 0, none⟩) nd lc) d.call c2) (g3 : Ints3E base' w (.slice (some ⟨hr, 0, none⟩) nd lr) d.ret c3) (g4 : Ints2E base' w (.slice (some ⟨hi, 0, none⟩) nd li) d.inner c4) :
    Calls Try.prog 49 #[.pointer (some ⟨Bc, 0, none⟩), .pointer (some ⟨Bd, 0, none⟩), .bool both] w (NewPost CkE (pairC (fB both) c d) w) := by
  have n40 : nc ≤ 40 := by rw [hnc]; exact hokc.n2
  have m40 : nd ≤ 40 := by rw [hnd]; exact hokd.n2
  have s80 : S ≤ 80 := by have := hokc.st2; omega
  have m80 : M ≤ 80 := by have := hokd.st2; omega
  have smS : Sm (S : Int) := ⟨by omega, by omega⟩
  have smM : Sm (M : Int) := ⟨by omega, by omega⟩
  have smn : Sm (nd : Int) := ⟨by omega, by omega⟩
  have tc : Sm c.start := ⟨hokc.start.1, by have := hokc.start.2; omega⟩
  have td : Sm d.start := ⟨hokd.start.1, by have := hokd.start.2; omega⟩
  have ew1 := wrap_mul smS smM
  have ew2 := wrap_mul tc smn
  have ew3 := wrap_mad tc smn td
  have Hst := Lib.hid (fun (s : Nat) (hs : s < nc) => st_at h1 h2 h3 h4 hokc (by rw [← hnc]; exact hs))
  have Hsd := Lib.hid (fun (t : Nat) (ht : t < nd) => st_at g1 g2 g3 g4 hokd (by rw [← hnd]; exact ht))
  have HC := Lib.hid hokc
  have HD := Lib.hid hokd
  have HBc := Lib.hid hbc
  have HBd := Lib.hid hbd
  have HS := Lib.hid hS
  have HM := Lib.hid hM
  have HNC := Lib.hid hnc
  have HND := Lib.hid hnd
  have lbc := hbc.lt
  have lbd := hbd.lt
  have hres := Bx.new w 31 #[.int .i64 0, .int .i64 0, .slice none 0 0, .slice none 0 0, .slice none 0 0, .slice none 0 0]
  have hB0 := (Below.refl w.heap.size w).alloc (Nat.le_refl _) (.cells #[.int .i64 0, .int .i64 0, .slice none 0 0, .slice none 0 0, .slice none 0 0, .slice none 0 0] 31)
  have cb := hbc.later hB0
  have db := hbd.later hB0
  have H0 := Lib.hid (And.intro hres hB0)
  obtain ⟨x0, x1, x2, x3, x4, x5, xl⟩ := id cb.all6
  obtain ⟨z0, z1, z2, z3, z4, z5, zl⟩ := id db.all6
  obtain ⟨s2, hs2⟩ : ∃ s, s = c.start := ⟨_, rfl⟩
  obtain ⟨s4, hs4⟩ : ∃ s, s = d.start := ⟨_, rfl⟩
  rw [← hs2] at ew2 ew3 x1
  rw [← hs4] at ew3 z1
  have Hs2 := Lib.hid hs2.symm
  have Hs4 := Lib.hid hs4.symm
  clear hs2 hs4
  clear hokc hokd hS hM hnc hnd hbc hbd h1 h2 h3 h4 g1 g2 g3 g4 cb db hres hB0 tc td
  go_enter Try.func49, Try.ntmps49
  go_upto_region 3 with fail
  obtain ⟨W0, hW0⟩ : ∃ W0, W0 = w.alloc (.cells #[.int .i64 0, .int .i64 0, .slice none 0 0, .slice none 0 0, .slice none 0 0, .slice none 0 0] 31) := ⟨_, rfl⟩
  have hW0s : W0.heap.size = w.heap.size + 1 := by rw [hW0]; simp
  rw [← hW0] at H0 x0 x1 x2 x3 x4 x5 z0 z1 z2 z3 z4 z5 ⊢
  clear hW0
  refine wp_region_free_last (by kernel_rfl) [
      .val [] (fun _ => .pointer (some ⟨Bc, 0, none⟩)),
      .val [] (fun _ => .pointer (some ⟨Bc, 0, none⟩)),
      .val [] (fun _ => .pointer (some ⟨Bc, 0, none⟩)),
      .val [] (fun _ => .int .i64 (S : Int)),
      .val [] (fun _ => .int .i64 (M : Int)),
      .val [] (fun _ => .int .i64 ((S : Int) * (M : Int))),
      .val [] (fun _ => .pointer (some ⟨Bc, 0, none⟩)),
      .val [] (fun _ => .pointer (some ⟨Bc, 0, none⟩)),
      .val [] (fun _ => .pointer (some ⟨Bc, 1, none⟩)),
      .val [] (fun _ => .int .i64 s2),
      .val [] (fun _ => .int .i64 (nd : Int)),
      .val [] (fun _ => .int .i64 (s2 * (nd : Int))),
      .val [] (fun _ => .pointer (some ⟨Bd, 0, none⟩)),
      .val [] (fun _ => .pointer (some ⟨Bd, 0, none⟩)),
      .val [] (fun _ => .pointer (some ⟨Bd, 1, none⟩)),
      .val [] (fun _ => .int .i64 s4),
      .val [] (fun _ => .int .i64 (s2 * (nd : Int) + s4)),
      .val [] (fun _ => .agg #[.int .i64 ((S : Int) * (M : Int)), .int .i64 (s2 * (nd : Int) + s4), .slice none 0 0, .slice none 0 0, .slice none 0 0, .slice none 0 0]),
      .own (PtrE W0.heap.size 31 #[.int .i64 0, .int .i64 0, .slice none 0 0, .slice none 0 0, .slice none 0 0, .slice none 0 0]) ()] ?hp ?hfw ?deps ?oks ?hl ?hpos ?steps
  case hp => kernel_rfl
  case hfw => kernel_rfl
  case deps => kernel_rfl
  case hl => kernel_rfl
  case hpos => kernel_rfl
  case oks =>
    intro F hF
    simp only [List.mem_cons, List.not_mem_nil, or_false] at hF
    rcases hF with rfl | rfl | rfl | rfl | rfl | rfl | rfl | rfl | rfl | rfl | rfl | rfl | rfl | rfl | rfl | rfl | rfl | rfl | rfl
    · trivial
    · trivial
    · trivial
    · trivial
    · trivial
    · trivial
    · trivial
    · trivial
    · trivial
    · trivial
    · trivial
    · trivial
    · trivial
    · trivial
    · trivial
    · trivial
    · trivial
    · trivial
    · exact ⟨_, ptr_ok _ _ _⟩
  case steps =>
    refine StepsL.cons ?_ ?_
    · refine FreeStep.val [] _ rfl rfl fun u β W hW hn fr hfr K hK => ?_
      simp only [frameL, putL, Act.put, List.setIfInBounds_toArray, List.set_cons_zero, List.set_cons_succ, Nat.zero_add, Nat.reduceAdd] at hfr
      subst hfr
      have HK := Lib.hid hK
      clear hK hn
      go_simp
      have h9 := HK.out
      revert h9
      clear HK
      go_simp
      try exact id
    refine StepsL.cons ?_ ?_
    · refine FreeStep.val [] _ rfl rfl fun u β W hW hn fr hfr K hK => ?_
      simp only [frameL, putL, Act.put, List.setIfInBounds_toArray, List.set_cons_zero, List.set_cons_succ, Nat.zero_add, Nat.reduceAdd] at hfr
      subst hfr
      have e0 : u 0 = .pointer (some ⟨Bc, 0, none⟩) := Have.get (k := 0) hn rfl
      simp only [e0] at hK
      have HK := Lib.hid hK
      clear hK hn
      go_simp
      have h9 := HK.out
      revert h9
      clear HK
      go_simp
      try exact id
    refine StepsL.cons ?_ ?_
    · refine FreeStep.val [] _ rfl rfl fun u β W hW hn fr hfr K hK => ?_
      simp only [frameL, putL, Act.put, List.setIfInBounds_toArray, List.set_cons_zero, List.set_cons_succ, Nat.zero_add, Nat.reduceAdd] at hfr
      subst hfr
      have e1 : u 1 = .pointer (some ⟨Bc, 0, none⟩) := Have.get (k := 1) hn rfl
      simp only [e1] at hK
      have HK := Lib.hid hK
      clear hK hn
      go_simp
      have h9 := HK.out
      revert h9
      clear HK
      go_simp
      try exact id
    refine StepsL.cons ?_ ?_
    · refine FreeStep.val [] _ rfl rfl fun u β W hW hn fr hfr K hK => ?_
      simp only [frameL, putL, Act.put, List.setIfInBounds_toArray, List.set_cons_zero, List.set_cons_succ, Nat.zero_add, Nat.reduceAdd] at hfr
      subst hfr
      have e2 : u 2 = .pointer (some ⟨Bc, 0, none⟩) := Have.get (k := 2) hn rfl
      simp only [e2] at hK
      have c0 := cellL x0 hW
      have HK := Lib.hid hK
      clear hK hn
      go_simp
      have h9 := HK.out
      revert h9
      clear HK
      go_simp
      try exact id
    refine StepsL.cons ?_ ?_
    · refine FreeStep.val [] _ rfl rfl fun u β W hW hn fr hfr K hK => ?_
      simp only [frameL, putL, Act.put, List.setIfInBounds_toArray, List.set_cons_zero, List.set_cons_succ, Nat.zero_add, Nat.reduceAdd] at hfr
      subst hfr
      have HK := Lib.hid hK
      clear hK hn
      go_simp
      have h9 := HK.out
      revert h9
      clear HK
      go_simp
      try exact id
    refine StepsL.cons ?_ ?_
    · refine FreeStep.val [] _ rfl rfl fun u β W hW hn fr hfr K hK => ?_
      simp only [frameL, putL, Act.put, List.setIfInBounds_toArray, List.set_cons_zero, List.set_cons_succ, Nat.zero_add, Nat.reduceAdd] at hfr
      subst hfr
      have e3 : u 3 = .int .i64 (S : Int) := Have.get (k := 3) hn rfl
      have e4 : u 4 = .int .i64 (M : Int) := Have.get (k := 4) hn rfl
      simp only [e3, e4] at hK
      have HK := Lib.hid hK
      clear hK hn
      go_simp
      have h9 := HK.out
      revert h9
      clear HK
      go_simp
      try exact id
    refine StepsL.cons ?_ ?_
    · refine FreeStep.val [] _ rfl rfl fun u β W hW hn fr hfr K hK => ?_
      simp only [frameL, putL, Act.put, List.setIfInBounds_toArray, List.set_cons_zero, List.set_cons_succ, Nat.zero_add, Nat.reduceAdd] at hfr
      subst hfr
      have HK := Lib.hid hK
      clear hK hn
      go_simp
      have h9 := HK.out
      revert h9
      clear HK
      go_simp
      try exact id
    refine StepsL.cons ?_ ?_
    · refine FreeStep.val [] _ rfl rfl fun u β W hW hn fr hfr K hK => ?_
      simp only [frameL, putL, Act.put, List.setIfInBounds_toArray, List.set_cons_zero, List.set_cons_succ, Nat.zero_add, Nat.reduceAdd] at hfr
      subst hfr
      have e6 : u 6 = .pointer (some ⟨Bc, 0, none⟩) := Have.get (k := 6) hn rfl
      simp only [e6] at hK
      have HK := Lib.hid hK
      clear hK hn
      go_simp
      have h9 := HK.out
      revert h9
      clear HK
      go_simp
      try exact id
    refine StepsL.cons ?_ ?_
    · refine FreeStep.val [] _ rfl rfl fun u β W hW hn fr hfr K hK => ?_
      simp only [frameL, putL, Act.put, List.setIfInBounds_toArray, List.set_cons_zero, List.set_cons_succ, Nat.zero_add, Nat.reduceAdd] at hfr
      subst hfr
      have e7 : u 7 = .pointer (some ⟨Bc, 0, none⟩) := Have.get (k := 7) hn rfl
      simp only [e7] at hK
      have HK := Lib.hid hK
      clear hK hn
      go_simp
      have h9 := HK.out
      revert h9
      clear HK
      go_simp
      try exact id
    refine StepsL.cons ?_ ?_
    · refine FreeStep.val [] _ rfl rfl fun u β W hW hn fr hfr K hK => ?_
      simp only [frameL, putL, Act.put, List.setIfInBounds_toArray, List.set_cons_zero, List.set_cons_succ, Nat.zero_add, Nat.reduceAdd] at hfr
      subst hfr
      have e8 : u 8 = .pointer (some ⟨Bc, 1, none⟩) := Have.get (k := 8) hn rfl
      simp only [e8] at hK
      have c0 := cellL x1 hW
      have HK := Lib.hid hK
      clear hK hn
      go_simp
      have h9 := HK.out
      revert h9
      clear HK
      go_simp
      try exact id
    refine StepsL.cons ?_ ?_
    · refine FreeStep.val [] _ rfl rfl fun u β W hW hn fr hfr K hK => ?_
      simp only [frameL, putL, Act.put, List.setIfInBounds_toArray, List.set_cons_zero, List.set_cons_succ, Nat.zero_add, Nat.reduceAdd] at hfr
      subst hfr
      have HK := Lib.hid hK
      clear hK hn
      go_simp
      have h9 := HK.out
      revert h9
      clear HK
      go_simp
      try exact id
    refine StepsL.cons ?_ ?_
    · refine FreeStep.val [] _ rfl rfl fun u β W hW hn fr hfr K hK => ?_
      simp only [frameL, putL, Act.put, List.setIfInBounds_toArray, List.set_cons_zero, List.set_cons_succ, Nat.zero_add, Nat.reduceAdd] at hfr
      subst hfr
      have e9 : u 9 = .int .i64 s2 := Have.get (k := 9) hn rfl
      have e10 : u 10 = .int .i64 (nd : Int) := Have.get (k := 10) hn rfl
      simp only [e9, e10] at hK
      have HK := Lib.hid hK
      clear hK hn
      go_simp
      have h9 := HK.out
      revert h9
      clear HK
      go_simp
      try exact id
    refine StepsL.cons ?_ ?_
    · refine FreeStep.val [] _ rfl rfl fun u β W hW hn fr hfr K hK => ?_
      simp only [frameL, putL, Act.put, List.setIfInBounds_toArray, List.set_cons_zero, List.set_cons_succ, Nat.zero_add, Nat.reduceAdd] at hfr
      subst hfr
      have HK := Lib.hid hK
      clear hK hn
      go_simp
      have h9 := HK.out
      revert h9
      clear HK
      go_simp
      try exact id
    refine StepsL.cons ?_ ?_
    · refine FreeStep.val [] _ rfl rfl fun u β W hW hn fr hfr K hK => ?_
      simp only [frameL, putL, Act.put, List.setIfInBounds_toArray, List.set_cons_zero, List.set_cons_succ, Nat.zero_add, Nat.reduceAdd] at hfr
      subst hfr
      have e12 : u 12 = .pointer (some ⟨Bd, 0, none⟩) := Have.get (k := 12) hn rfl
      simp only [e12] at hK
      have HK := Lib.hid hK
      clear hK hn
      go_simp
      have h9 := HK.out
      revert h9
      clear HK
      go_simp
      try exact id
    refine StepsL.cons ?_ ?_
    · refine FreeStep.val [] _ rfl rfl fun u β W hW hn fr hfr K hK => ?_
      simp only [frameL, putL, Act.put, List.setIfInBounds_toArray, List.set_cons_zero, List.set_cons_succ, Nat.zero_add, Nat.reduceAdd] at hfr
      subst hfr
      have e13 : u 13 = .pointer (some ⟨Bd, 0, none⟩) := Have.get (k := 13) hn rfl
      simp only [e13] at hK
      have HK := Lib.hid hK
      clear hK hn
      go_simp
      have h9 := HK.out
      revert h9
      clear HK
      go_simp
      try exact id
    refine StepsL.cons ?_ ?_
    · refine FreeStep.val [] _ rfl rfl fun u β W hW hn fr hfr K hK => ?_
      simp only [frameL, putL, Act.put, List.setIfInBounds_toArray, List.set_cons_zero, List.set_cons_succ, Nat.zero_add, Nat.reduceAdd] at hfr
      subst hfr
      have e14 : u 14 = .pointer (some ⟨Bd, 1, none⟩) := Have.get (k := 14) hn rfl
      simp only [e14] at hK
      have c0 := cellL z1 hW
      have HK := Lib.hid hK
      clear hK hn
      go_simp
      have h9 := HK.out
      revert h9
      clear HK
      go_simp
      try exact id
    refine StepsL.cons ?_ ?_
    · refine FreeStep.val [] _ rfl rfl fun u β W hW hn fr hfr K hK => ?_
      simp only [frameL, putL, Act.put, List.setIfInBounds_toArray, List.set_cons_zero, List.set_cons_succ, Nat.zero_add, Nat.reduceAdd] at hfr
      subst hfr
      have e11 : u 11 = .int .i64 (s2 * (nd : Int)) := Have.get (k := 11) hn rfl
      have e15 : u 15 = .int .i64 s4 := Have.get (k := 15) hn rfl
      simp only [e11, e15] at hK
      have HK := Lib.hid hK
      clear hK hn
      go_simp
      have h9 := HK.out
      revert h9
      clear HK
      go_simp
      try exact id
    refine StepsL.cons ?_ ?_
    · refine FreeStep.val [] _ rfl rfl fun u β W hW hn fr hfr K hK => ?_
      simp only [frameL, putL, Act.put, List.setIfInBounds_toArray, List.set_cons_zero, List.set_cons_succ, Nat.zero_add, Nat.reduceAdd] at hfr
      subst hfr
      have e5 : u 5 = .int .i64 ((S : Int) * (M : Int)) := Have.get (k := 5) hn rfl
      have e16 : u 16 = .int .i64 (s2 * (nd : Int) + s4) := Have.get (k := 16) hn rfl
      simp only [e5, e16] at hK
      have HK := Lib.hid hK
      clear hK hn
      go_simp
      have h9 := HK.out
      revert h9
      clear HK
      go_simp
      try exact id
    refine StepsL.cons ?_ ?_
    · refine FreeStep.own (base := W0.heap.size) rfl (ptr_ok _ _ _) fun u β W hW hn fr hfr K hK => ?_
      simp only [frameL, putL, Act.put, List.setIfInBounds_toArray, List.set_cons_zero, List.set_cons_succ, Nat.zero_add, Nat.reduceAdd] at hfr
      subst hfr
      have hsz := hW.size
      have HK := Lib.hid hK
      clear hK hn
      go_simp
      exact HK.out _ [W.heap.size] _ ((Below.refl _ _).alloc (Nat.le_refl _) _) ⟨W.heap.size, rfl, Bx.new _ _ _, rfl, hsz⟩ (fun b hb => by rw [List.mem_singleton.1 hb]; exact Nat.le_refl _)
    intro u β W hW hn hdis hbnd fr hfr K hK
    simp only [frameL, putL, Act.put, List.setIfInBounds_toArray, List.set_cons_zero, List.set_cons_succ, Nat.zero_add, Nat.reduceAdd] at hfr
    subst hfr
    have z0 : u 0 = .pointer (some ⟨Bc, 0, none⟩) := Have.get (k := 0) hn rfl
    have z1 : u 1 = .pointer (some ⟨Bc, 0, none⟩) := Have.get (k := 1) hn rfl
    have z2 : u 2 = .pointer (some ⟨Bc, 0, none⟩) := Have.get (k := 2) hn rfl
    have z3 : u 3 = .int .i64 (S : Int) := Have.get (k := 3) hn rfl
    have z4 : u 4 = .int .i64 (M : Int) := Have.get (k := 4) hn rfl
    have z5 : u 5 = .int .i64 ((S : Int) * (M : Int)) := Have.get (k := 5) hn rfl
    have z6 : u 6 = .pointer (some ⟨Bc, 0, none⟩) := Have.get (k := 6) hn rfl
    have z7 : u 7 = .pointer (some ⟨Bc, 0, none⟩) := Have.get (k := 7) hn rfl
    have z8 : u 8 = .pointer (some ⟨Bc, 1, none⟩) := Have.get (k := 8) hn rfl
    have z9 : u 9 = .int .i64 s2 := Have.get (k := 9) hn rfl
    have z10 : u 10 = .int .i64 (nd : Int) := Have.get (k := 10) hn rfl
    have z11 : u 11 = .int .i64 (s2 * (nd : Int)) := Have.get (k := 11) hn rfl
    have z12 : u 12 = .pointer (some ⟨Bd, 0, none⟩) := Have.get (k := 12) hn rfl
    have z13 : u 13 = .pointer (some ⟨Bd, 0, none⟩) := Have.get (k := 13) hn rfl
    have z14 : u 14 = .pointer (some ⟨Bd, 1, none⟩) := Have.get (k := 14) hn rfl
    have z15 : u 15 = .int .i64 s4 := Have.get (k := 15) hn rfl
    have z16 : u 16 = .int .i64 (s2 * (nd : Int) + s4) := Have.get (k := 16) hn rfl
    have z17 : u 17 = .agg #[.int .i64 ((S : Int) * (M : Int)), .int .i64 (s2 * (nd : Int) + s4), .slice none 0 0, .slice none 0 0, .slice none 0 0, .slice none 0 0] := Have.get (k := 17) hn rfl
    have f18 : (PtrE W0.heap.size 31 #[.int .i64 0, .int .i64 0, .slice none 0 0, .slice none 0 0, .slice none 0 0, .slice none 0 0]) W (u 18) () (β 18) := Have.get (k := 18) hn rfl
    obtain ⟨ob, g18, hob, _, hlo⟩ := f18
    simp only [z0, z1, z2, z3, z4, z5, z6, z7, z8, z9, z10, z11, z12, z13, z14, z15, z16, z17, g18]
    have hox := hob
    obtain ⟨c0, c1, c2, c3, c4, c5, cl⟩ := id hob.all6
    have q0 := hob.frozen 0
    have q1 := hob.frozen 1
    have q2 := hob.frozen 2
    have q3 := hob.frozen 3
    have q4 := hob.frozen 4
    have q5 := hob.frozen 5
    have HK := Lib.hid hK
    clear hK hn hdis hbnd z0 z1 z2 z3 z4 z5 z6 z7 z8 z9 z10 z11 z12 z13 z14 z15 z16 z17
    go_simp
    refine HK.out _ _ ?_
    clear HK
    clear c0 c1 c2 c3 c4 c5 cl q0 q1 q2 q3 q4 q5
    have y0 := hox.set 0 (.int .i64 ((S : Int) * (M : Int)))
    have y1 := y0.set 1 (.int .i64 (s2 * (nd : Int) + s4))
    have y2 := y1.set 2 (.slice none 0 0)
    have y3 := y2.set 3 (.slice none 0 0)
    have y4 := y3.set 4 (.slice none 0 0)
    have y5 := y4.set 5 (.slice none 0 0)
    obtain ⟨hres, hB0⟩ := H0.out
    have hwo : w.heap.size ≤ ob := by omega
    have hBX := (((((((hB0.trans (hW.mono hB0.size)).setCell (p := ⟨ob, 0, none⟩) hwo (.int .i64 ((S : Int) * (M : Int)))).setCell (p := ⟨ob, 1, none⟩) hwo (.int .i64 (s2 * (nd : Int) + s4))).setCell (p := ⟨ob, 2, none⟩) hwo (.slice none 0 0)).setCell (p := ⟨ob, 3, none⟩) hwo (.slice none 0 0)).setCell (p := ⟨ob, 4, none⟩) hwo (.slice none 0 0)).setCell (p := ⟨ob, 5, none⟩) hwo (.slice none 0 0))
    have hrX := (((((((hres.later hW).other (b := ob) 0 (.int .i64 ((S : Int) * (M : Int))) (by omega)).other (b := ob) 1 (.int .i64 (s2 * (nd : Int) + s4)) (by omega)).other (b := ob) 2 (.slice none 0 0) (by omega)).other (b := ob) 3 (.slice none 0 0) (by omega)).other (b := ob) 4 (.slice none 0 0) (by omega)).other (b := ob) 5 (.slice none 0 0) (by omega))
    obtain ⟨X3, hX3⟩ : ∃ X3, X3 = ((((((W.setCell ⟨ob, 0, none⟩ (.int .i64 ((S : Int) * (M : Int)))).setCell ⟨ob, 1, none⟩ (.int .i64 (s2 * (nd : Int) + s4))).setCell ⟨ob, 2, none⟩ (.slice none 0 0)).setCell ⟨ob, 3, none⟩ (.slice none 0 0)).setCell ⟨ob, 4, none⟩ (.slice none 0 0)).setCell ⟨ob, 5, none⟩ (.slice none 0 0)) := ⟨_, rfl⟩
    have hX3s : W.heap.size = X3.heap.size := by rw [hX3]; simp
    rw [← hX3] at y5 hBX hrX ⊢
    have hobl := hox.lt
    have hWs := hW.size
    have hwX : w.heap.size + 1 ≤ X3.heap.size := by omega
    have hobX : ob < X3.heap.size := by omega
    have hobw : w.heap.size + 1 ≤ ob := by omega
    have hlen0 : (pairT (fB both) c d 0 0).stack = (S : Int) * (M : Int) ∧ (pairT (fB both) c d 0 0).start = s2 * (nd : Int) + s4 := by
      rw [pairT_zero]
      refine ⟨?_, ?_⟩
      · show c.stack * d.stack = _
        rw [HS.out, HM.out]
      · show pairS _ _ _ = _
        rw [← HND.out, Hs2.out, Hs4.out]; rfl
    have hG0 : GrownAt w.heap.size X3 ob [] X3 (pairT (fB both) c d 0 0) := by
      refine ⟨⟨[], ⟨.slice none 0 0, .slice none 0 0, .slice none 0 0, .slice none 0 0, [], [], [], [], ?_, ?_, ?_, ?_, ?_, rfl, by simp, by simp⟩, by simp⟩, Turned.refl _ _, by omega⟩
      · rw [hlen0.1, hlen0.2]; exact y5
      · rw [pairT_zero]; exact ⟨by simpa using World.ownsRow_nil X3 w.heap.size _ _, by simp [Value.ownBlock]⟩
      · rw [pairT_zero]; exact ManyE.nil _ _ _ _
      · rw [pairT_zero]; exact ManyE.nil _ _ _ _
      · rw [pairT_zero]; exact ManyE.nil _ _ _ _
    have HG0 := Lib.hid hG0
    have HRX := Lib.hid (And.intro hrX hBX)
    clear hG0 hrX hBX y0 y1 y2 y3 y4 y5 hlen0 hres hB0 hX3 hX3s hox hobl hWs hW g18 hlo hwo H0 x0 x1 x2 x3 x4 x5 xl z0 z1 z2 z3 z4 z5 zl hob
    generalize u 0 = s100; generalize u 1 = s101; generalize u 2 = s102; generalize u 3 = s103; generalize u 4 = s104; generalize u 5 = s105; generalize u 6 = s106; generalize u 7 = s107; generalize u 8 = s108; generalize u 9 = s109; generalize u 10 = s110; generalize u 11 = s111; generalize u 12 = s112; generalize u 13 = s113; generalize u 14 = s114; generalize u 15 = s115; generalize u 16 = s116; generalize u 17 = s117; generalize u 18 = s118
    go_wp2_with fail
    go_loopw [10] (fun i wr => ∃ s : Nat, s ≤ nc ∧ i = .int .i64 s ∧ GrownAt w.heap.size X3 ob [] wr (pairT (fB both) c d s 0)) (fun i _ => nc - (intOf i).toNat)
    case atStart => exact ⟨0, Nat.zero_le _, rfl, HG0.out⟩
    case round =>
      as_aux_lemma =>
        obtain ⟨s, hs, rfl, hG⟩ := hrel
        have hbw := fun (wx : World) (cx : Ck) (h : GrownAt w.heap.size X3 ob [] wx cx) => h.below (B := w.heap.size) HRX.out.2 (by omega) (fun k hk => by cases hk) (by omega)
        have Hbw := Lib.hid hbw
        clear hbw
        obtain ⟨x0, x1, x2, x3, x4, x5, xl⟩ := (HBc.out.later (Hbw.out _ _ hG)).all6
        by_cases hlt : s < nc
        · obtain ⟨av, cs, rs, ns, gp, kp, g2, k2, gj, kj, ha, hcs, hrs, hns, hSt⟩ := Hst.out s hlt
          have HSt := Lib.hid (And.intro ha (And.intro hcs (And.intro hrs (And.intro hns hSt))))
          have HGo := Lib.hid hG
          clear ha hcs hrs hns hSt hG
          go_wp2_with fail
          clear x0 x1 x2 x3 x4 x5 xl
          generalize wr = wo at *
          go_loopw [11] (fun i wr => ∃ t : Nat, t ≤ nd ∧ i = .int .i64 t ∧ GrownAt w.heap.size X3 ob [] wr (pairT (fB both) c d s t)) (fun i _ => nd - (intOf i).toNat)
          case atStart => exact ⟨0, Nat.zero_le _, rfl, HGo.out⟩
          case round =>
            as_aux_lemma =>
              obtain ⟨t, ht, rfl, hG⟩ := hrel
              have hBw := Hbw.out _ _ hG
              obtain ⟨x0, x1, x2, x3, x4, x5, xl⟩ := (HBc.out.later hBw).all6
              obtain ⟨z0, z1, z2, z3, z4, z5, zl⟩ := (HBd.out.later hBw).all6
              by_cases hlt2 : t < nd
              · obtain ⟨av', cs', rs', ns', gp', kp', g2', k2', gj', kj', ha', hcs', hrs', hns', hSt'⟩ := Hsd.out t hlt2
                have HSt' := Lib.hid (And.intro ha' (And.intro hcs' (And.intro hrs' (And.intro hns' hSt'))))
                obtain ⟨_, _, _, _, hSt⟩ := HSt.out
                have ca := (hBw.cell (p := ⟨ga, s, none⟩) hSt.la).trans hSt.ca
                have ca' := (hBw.cell (p := ⟨ha, t, none⟩) hSt'.la).trans hSt'.ca
                have HG := Lib.hid hG
                have HBW := Lib.hid hBw
                clear ha' hcs' hrs' hns' hSt' hSt hG hBw
                go_upto_region 10 with fail
                go_cut [12] (fun sv wx => sv = .bool (av && av') ∧ wr = wx)
                case first =>
                  cases av
                  all_goals
                    go_wp2_with fail
                    go_meet
                    exact ⟨rfl, rfl⟩
                case rest =>
                  as_aux_lemma =>
                    obtain ⟨rfl, rfl⟩ := hcut
                    go_upto_if 84 with fail
                    go_cut [12] (fun sv wx => sv = .bool (fB both av av') ∧ wr = wx)
                    case first =>
                      cases both
                      · cases av
                        all_goals
                          go_wp2_with fail
                          go_meet
                          exact ⟨rfl, rfl⟩
                      · go_wp2_with fail
                        go_meet
                        exact ⟨rfl, rfl⟩
                    case rest =>
                      as_aux_lemma =>
                        obtain ⟨rfl, rfl⟩ := hcut
                        clear x0 x1 x2 x3 x4 x5 xl z0 z1 z2 z3 z4 z5 zl ca ca'
                        obtain ⟨⟨bs0, hbx, hsub⟩, hT, hb0⟩ := HG.out
                        obtain ⟨va, vc, vr, vi, d1, d2, d3, d4, xb, f1, f2, f3, f4, rfl, hnd_, hnb⟩ := hbx.ex
                        obtain ⟨A1, k1, rfl⟩ := RowE.slice f1
                        have hlens := pairT_lens (fB both) HC.out HD.out (s := s) (t := t) (by rw [← HNC.out]; exact hlt) (by rw [← HND.out]; exact ht)
                        rw [← HND.out] at hlens
                        have hst : s * nd + t < 2000 := by
                          have h1 : s * nd ≤ 40 * 40 := Nat.mul_le_mul (by omega) m40
                          omega
                        rw [hlens.1] at xb f1
                        have hfr := hSt2_row f1 hlens.1
                        obtain ⟨y0, y1, y2, y3, y4, y5, yl⟩ := id xb.all6
                        have HX := Lib.hid (And.intro f1 (And.intro f2 (And.intro f3 (And.intro f4 (And.intro hnd_ (And.intro hnb (And.intro hsub (And.intro hT (And.intro hb0 (And.intro xb (And.intro hlens hfr)))))))))))
                        clear hbx f1 f2 f3 f4 hnd_ hnb hsub hT hb0 xb hlens hfr
                        obtain ⟨bv, hbv⟩ : ∃ b, b = fB both av av' := ⟨_, rfl⟩
                        rw [← hbv]
                        have Hbv := Lib.hid hbv
                        clear hbv
                        obtain ⟨i0, hi0, hz0, hz1, hz2⟩ := info_parts toInfo_bool
                        have hwrs : w.heap.size ≤ wr.heap.size := HBW.out.size
                        go_wp2_with (at_builtin; refine wpList_append_lies _ rfl _ _ 22 rfl w.heap.size 4 i0 (.bool false) 1 1 Try.underlying22 hi0 hz0 hz1 hz2 rfl (by decide) _ (s * nd + t) _ rfl (HX.out.2.2.2.2.2.2.2.2.2.2.2.alloc _) ⟨wr.heap.size, 0, none⟩ 1 1 [.bool bv] rfl rfl (World.news_of_block (Bx.new wr _ _)) (one_sing rfl) (by decide) ?c1 ?c2 ?c3 _ rfl ?_)
                        case c1 => unfold maxLen; omega
                        case c2 => omega
                        case c3 => simp only [World.size_alloc]; omega
                        intro g1 cap1 w5 hown hg5 hat hltg
                        obtain ⟨f1, f2, f3, f4, hnd_, hnb, hsub, hT, hb0, xb, hlens, hrow⟩ := HX.out
                        have hR : Below wr.heap.size wr (wr.alloc (.cells #[.bool bv] 4)) := (Below.refl _ _).alloc (Nat.le_refl _) _
                        have hG5 := GrownAt.accept (bs := []) (x := bv) xb f1 f2 f3 f4 hnd_ hnb hsub hT hb0 hR hlens.1 (hrow.alloc (.cells #[.bool bv] 4)) hown hg5 rfl (by show _ = some g1 ∨ g1 = _; rw [World.size_alloc]; exact hat)
                        have hxbW := xb.later hR
                        have hb5 : Bx w5 ob 31 _ := hxbW.same (hg5.block ob hxbW.lt (fun e => by
                          have h1 : ob ∈ d1 := by rw [f1.2, ← e]; simp
                          simp only [List.mem_append, not_or] at hnb
                          exact hnb.1 h1))
                        have q3 := hb5.cell 2 _ rfl
                        have q4 := hb5.frozen 2
                        obtain ⟨X1, hX1⟩ : ∃ X1, X1 = w5.setCell ⟨ob, 2, none⟩ (.slice (some ⟨g1, 0, none⟩) (s * nd + t + 1) cap1) := ⟨_, rfl⟩
                        have HG5 := Lib.hid (show GrownAt w.heap.size X3 ob [] X1 { (pairT (fB both) c d s t) with accept := (pairT (fB both) c d s t).accept ++ [bv] } from by rw [hX1]; exact hG5)
                        have HX1 := Lib.hid hX1
                        clear hown hg5 hat f1 f2 f3 f4 hnd_ hnb hsub hT hb0 xb hlens hrow hR hG5 hxbW hb5 HX hX1 y0 y1 y2 y3 y4 y5 yl
                        have hB1 := Hbw.out _ _ HG5.out
                        have HB1 := Lib.hid hB1
                        have hZw : w.heap.size ≤ X1.heap.size := hB1.size
                        have hobZ : ob < X1.heap.size := by have := HG5.out.turned.size; omega
                        clear HBW HG hwrs hB1
                        go_upto_region 14 with fail
                        rw [← HX1.out]
                        clear HX1 q3 q4 hltg
                        have hTri0 := Tri.new X1
                        have HTri0 := Lib.hid hTri0
                        clear hTri0
                        obtain ⟨ha_, hcs_, hrs_, hns_, hSt⟩ := HSt.out
                        obtain ⟨ha_', hcs_', hrs_', hns_', hSt'⟩ := HSt'.out
                        have okc := ok_call HC.out cs (List.mem_of_getElem? hcs_)
                        have okd := ok_call HD.out cs' (List.mem_of_getElem? hcs_')
                        have orc := ok_ret HC.out rs (List.mem_of_getElem? hrs_)
                        have ord := ok_ret HD.out rs' (List.mem_of_getElem? hrs_')
                        have oic := ok_inner HC.out ns (List.mem_of_getElem? hns_)
                        have oid := ok_inner HD.out ns' (List.mem_of_getElem? hns_')
                        have smp := ok_smP HC.out (List.mem_of_getElem? hcs_)
                        have smp' := ok_smP HD.out (List.mem_of_getElem? hcs_')
                        have smr := ok_smR HC.out (List.mem_of_getElem? hrs_)
                        have smr' := ok_smR HD.out (List.mem_of_getElem? hrs_')
                        have smi := ok_smI HC.out (List.mem_of_getElem? hns_)
                        have smi' := ok_smI HD.out (List.mem_of_getElem? hns_')
                        have HK := Lib.hid (fun (k : Nat) (hk : k < 2) => show ∃ p p' r r' z z', cs[k]? = some p ∧ cs'[k]? = some p' ∧ rs[k]? = some r ∧ rs'[k]? = some r' ∧ ns[k]? = some z ∧ ns'[k]? = some z' ∧ (Sm p.1 ∧ Sm p.2) ∧ (Sm p'.1 ∧ Sm p'.2) ∧ (r.length = S + 1 ∧ SmL r) ∧ (r'.length = M + 1 ∧ SmL r') ∧ Sm z ∧ Sm z' from by
                          have e1 : cs[k]? = some (cs[k]'(by omega)) := List.getElem?_eq_getElem (by omega)
                          have e1' : cs'[k]? = some (cs'[k]'(by omega)) := List.getElem?_eq_getElem (by omega)
                          have e2 : rs[k]? = some (rs[k]'(by omega)) := List.getElem?_eq_getElem (by omega)
                          have e2' : rs'[k]? = some (rs'[k]'(by omega)) := List.getElem?_eq_getElem (by omega)
                          have e3 : ns[k]? = some (ns[k]'(by omega)) := List.getElem?_eq_getElem (by omega)
                          have e3' : ns'[k]? = some (ns'[k]'(by omega)) := List.getElem?_eq_getElem (by omega)
                          refine ⟨_, _, _, _, _, _, e1, e1', e2, e2', e3, e3', smp _ (List.mem_of_getElem? e1), smp' _ (List.mem_of_getElem? e1'), ⟨?_, (smr _ (List.mem_of_getElem? e2)).2⟩, ⟨?_, (smr' _ (List.mem_of_getElem? e2')).2⟩, smi _ (List.mem_of_getElem? e3), smi' _ (List.mem_of_getElem? e3')⟩
                          · have := (orc.2 _ (List.mem_of_getElem? e2)).1; have := HS.out; omega
                          · have := (ord.2 _ (List.mem_of_getElem? e2')).1; have := HM.out; omega)
                        have HL := Lib.hid (And.intro okc.1 (And.intro okd.1 (And.intro orc.1 (And.intro ord.1 (And.intro oic.1 oid.1)))))
                        clear ha_ hcs_ hrs_ hns_ ha_' hcs_' hrs_' hns_' hSt hSt' okc okd orc ord oic oid smp smp' smr smr' smi smi'
                        go_wp2_with fail
                        try generalize wr = wq at *
                        go_loopw [13, 14, 15, 16] (fun vp vr vi i wr => ∃ (k : Nat) (e1 e2 e3 : List Nat), k ≤ 2 ∧ i = .int .i64 k ∧ Tri X1.heap.size X1 wr vp vr vi (zipT (pairP nd (M : Int)) cs cs' k) (zipT (pairR nd) rs rs' k) (zipT (pairS nd) ns ns' k) e1 e2 e3) (fun _ _ _ i _ => 2 - (intOf i).toNat)
                        case atStart => exact ⟨0, _, _, _, by omega, rfl, HTri0.out⟩
                        case round =>
                          as_aux_lemma =>
                            clear HTri0
                            obtain ⟨k, e1, e2, e3, hk, rfl, hTri⟩ := hrel
                            have hBk := HB1.out.trans (hTri.below.mono hZw)
                            have hZk := hTri.below.size
                            obtain ⟨x0, x1, x2, x3, x4, x5, xl⟩ := (HBc.out.later hBk).all6
                            obtain ⟨z0, z1, z2, z3, z4, z5, zl⟩ := (HBd.out.later hBk).all6
                            by_cases hk2 : k < 2
                            · obtain ⟨p, p', r, r', zi, zi', ep, ep', er, er', ez, ez', smp, smp', smr, smr', smz, smz'⟩ := HK.out k hk2
                              obtain ⟨_, _, _, _, hSt⟩ := HSt.out
                              obtain ⟨_, _, _, _, hSt'⟩ := HSt'.out
                              have cc := (hBk.cell (p := ⟨gc, s, none⟩) hSt.lc).trans hSt.cc
                              have cp := (hBk.cell (p := ⟨gp, k * 2, none⟩) hSt.lp).trans (hSt.pc k p ep).1
                              have cq := (hBk.cell (p := ⟨gp, k * 2 + 1, none⟩) hSt.lp).trans (hSt.pc k p ep).2
                              have lp : gp < wr.heap.size := Nat.lt_of_lt_of_le hSt.lp hBk.size
                              have lcc : gc < wr.heap.size := Nat.lt_of_lt_of_le hSt.lc hBk.size
                              have cc' := (hBk.cell (p := ⟨hc, t, none⟩) hSt'.lc).trans hSt'.cc
                              have cp' := (hBk.cell (p := ⟨gp', k * 2, none⟩) hSt'.lp).trans (hSt'.pc k p' ep').1
                              have cq' := (hBk.cell (p := ⟨gp', k * 2 + 1, none⟩) hSt'.lp).trans (hSt'.pc k p' ep').2
                              have lp' : gp' < wr.heap.size := Nat.lt_of_lt_of_le hSt'.lp hBk.size
                              have lcc' : hc < wr.heap.size := Nat.lt_of_lt_of_le hSt'.lc hBk.size
                              have lBc : Bc < wr.heap.size := Nat.lt_of_lt_of_le lbc hBk.size
                              have lBd : Bd < wr.heap.size := Nat.lt_of_lt_of_le lbd hBk.size
                              have lx1 := zipT_len (pairP nd (M : Int)) (xs := cs) (ys := cs') (j := k) (by have := HL.out; omega) (by have := HL.out; omega)
                              have lx2 := zipT_len (pairR nd) (xs := rs) (ys := rs') (j := k) (by have := HL.out; omega) (by have := HL.out; omega)
                              have lx3 := zipT_len (pairS nd) (xs := ns) (ys := ns') (j := k) (by have := HL.out; omega) (by have := HL.out; omega)
                              have sx1 := zipT_succ (f := pairP nd (M : Int)) ep ep'
                              have sx2 := zipT_succ (f := pairR nd) er er'
                              have sx3 := zipT_succ (f := pairS nd) ez ez'
                              have HZ := Lib.hid (And.intro lx1 (And.intro lx2 (And.intro lx3 (And.intro sx1 (And.intro sx2 sx3)))))
                              have HE := Lib.hid (And.intro er (And.intro er' (And.intro ez ez')))
                              have HSM := Lib.hid (And.intro smr (And.intro smr' (And.intro smz smz')))
                              obtain ⟨Ap, kpp, hvp⟩ := RowE.slice hTri.p
                              rw [lx1] at hvp
                              subst hvp
                              obtain ⟨Ar, kpr, hvr⟩ := ManyE.slice hTri.r
                              rw [lx2] at hvr
                              subst hvr
                              obtain ⟨Ai, kpi, hvi⟩ := RowE.slice hTri.i
                              rw [lx3] at hvi
                              subst hvi
                              have hrow := hTri.p.1
                              rw [lx1] at hrow
                              have ew4 := wrap_mul smp.1 smn
                              have ew5 := wrap_mad smp.1 smn smp'.1
                              have ew6 := wrap_mul smp.2 smM
                              have ew7 := wrap_mad smp.2 smM smp'.2
                              have HT := Lib.hid (And.intro hTri hrow)
                              have hpp : pairP nd (M : Int) p p' = (p.1 * (nd : Int) + p'.1, p.2 * (M : Int) + p'.2) := rfl
                              rw [hpp] at HZ
                              obtain ⟨p0, p1⟩ := p
                              obtain ⟨q0, q1⟩ := p'
                              dsimp only at cp cq cp' cq' ew4 ew5 ew6 ew7 HZ
                              clear lx1 lx2 lx3 sx1 sx2 sx3 er er' ez ez' ep ep' smp smp' smr smr' smz smz' hTri hrow hSt hSt' hpp
                              have HBk := Lib.hid hBk
                              clear hBk
                              obtain ⟨i1, hi1, hp0_, hp1_, hp2_⟩ := info_parts toInfo_push
                              go_wp2_with (at_builtin; refine wpList_append_lies _ rfl _ _ 112 rfl X1.heap.size 115 i1 (.agg #[.int .i64 0, .int .i64 0]) 2 16 Try.underlying112 hi1 hp0_ hp1_ hp2_ rfl (by decide) _ k _ rfl (((HT.out.2.alloc (.cells #[.int .i64 p0, .int .i64 p1] 115)).alloc (.cells #[.int .i64 q0, .int .i64 q1] 115)).alloc (.cells #[.int .i64 (p0 * (nd : Int) + q0), .int .i64 (p1 * (M : Int) + q1)] 115)) ⟨wr.heap.size + 1 + 1, 0, none⟩ 1 1 [.int .i64 (p0 * (nd : Int) + q0), .int .i64 (p1 * (M : Int) + q1)] rfl rfl (news3 wr _ _ _ _) one_pair (by decide) ?c1 ?c2 ?c3 _ rfl ?_)
                              case c1 => unfold maxLen; omega
                              case c2 => omega
                              case c3 => simp only [World.size_alloc]; omega
                              intro g1_ cap1_ w6 hown hg5 hat hltg
                              have hb3 : Below wr.heap.size wr (((wr.alloc (.cells #[.int .i64 p0, .int .i64 p1] 115)).alloc (.cells #[.int .i64 q0, .int .i64 q1] 115)).alloc (.cells #[.int .i64 (p0 * (nd : Int) + q0), .int .i64 (p1 * (M : Int) + q1)] 115)) := (((Below.refl _ _).alloc (Nat.le_refl _) _).alloc (by simp) _).alloc (by simp; omega) _
                              have hTri6 := Tri.addP (x := (p0 * (nd : Int) + q0, p1 * (M : Int) + q1)) (HT.out.1.later hZk hb3) (by simp only [World.size_alloc]; omega) HZ.out.1 hown hg5 (by show _ ∨ g1_ = _; simp only [World.size_alloc]; exact hat)
                              rw [← HZ.out.2.2.2.1] at hTri6
                              have hBk6 := HB1.out.trans (hTri6.below.mono hZw)
                              have hZ6 := hTri6.below.size
                              have HT6 := Lib.hid (And.intro hTri6 hBk6)
                              clear hown hg5 hat hb3 hTri6 HT x0 x1 x2 x3 x4 x5 xl z0 z1 z2 z3 z4 z5 zl cc cp cq cc' cp' cq' lp lp' lcc lcc' lBc lBd ew4 ew5 ew6 ew7 hltg HBk
                              obtain ⟨hTri6, hBk6⟩ := HT6.out
                              obtain ⟨_, _, _, _, hSt⟩ := HSt.out
                              obtain ⟨_, _, _, _, hSt'⟩ := HSt'.out
                              obtain ⟨er, er', ez, ez'⟩ := HE.out
                              obtain ⟨g3, k3, l3, hc3, hv3⟩ := hSt.rc k r er
                              obtain ⟨g3', k3', l3', hc3', hv3'⟩ := hSt'.rc k r' er'
                              obtain ⟨⟨lr, smr⟩, ⟨lr', smr'⟩, smz, smz'⟩ := HSM.out
                              have e30 : ∃ e, IntsE w6.heap.size (w6.alloc (.cells #[] 2)) (.slice (some ⟨w6.heap.size, 0, none⟩) 0 0) (prodT (pairS nd) r.dropLast r'.dropLast 0 0) e := ⟨[w6.heap.size], by rw [prodT_zero]; exact rowE_lit 0 (Bx.new w6 2 #[]) (Nat.le_refl _) rfl rfl rfl (by unfold maxLen; omega)⟩
                              have ld1 : r.dropLast.length = S := by rw [List.length_dropLast]; omega
                              have ld2 : r'.dropLast.length = M := by rw [List.length_dropLast]; omega
                              have HF := Lib.hid (fun (W : World) (hW : Below w.heap.size w W) => show (W.cell? ⟨gr, s, none⟩ = some (.slice (some ⟨g2, 0, none⟩) 2 k2) ∧ W.cell? ⟨g2, k, none⟩ = some (.slice (some ⟨g3, 0, none⟩) (S + 1) k3) ∧ W.cell? ⟨hr, t, none⟩ = some (.slice (some ⟨g2', 0, none⟩) 2 k2') ∧ W.cell? ⟨g2', k, none⟩ = some (.slice (some ⟨g3', 0, none⟩) (M + 1) k3')) ∧ (∀ (x : Nat) z, r[x]? = some z → W.cell? ⟨g3, x, none⟩ = some (.int .i64 z)) ∧ (∀ (x : Nat) z, r'[x]? = some z → W.cell? ⟨g3', x, none⟩ = some (.int .i64 z)) ∧ (W.cell? ⟨gi, s, none⟩ = some (.slice (some ⟨gj, 0, none⟩) 2 kj) ∧ W.cell? ⟨gj, k, none⟩ = some (.int .i64 zi) ∧ W.cell? ⟨hi, t, none⟩ = some (.slice (some ⟨gj', 0, none⟩) 2 kj') ∧ W.cell? ⟨gj', k, none⟩ = some (.int .i64 zi')) from by
                                rw [lr] at hc3
                                rw [lr'] at hc3'
                                exact ⟨⟨(hW.cell (p := ⟨gr, s, none⟩) hSt.lr).trans hSt.cr, (hW.cell (p := ⟨g2, k, none⟩) hSt.l2).trans hc3, (hW.cell (p := ⟨hr, t, none⟩) hSt'.lr).trans hSt'.cr, (hW.cell (p := ⟨g2', k, none⟩) hSt'.l2).trans hc3'⟩, fun x z hz => (hW.cell (p := ⟨g3, x, none⟩) l3).trans (hv3 x z hz), fun x z hz => (hW.cell (p := ⟨g3', x, none⟩) l3').trans (hv3' x z hz), (hW.cell (p := ⟨gi, s, none⟩) hSt.li).trans hSt.ci, (hW.cell (p := ⟨gj, k, none⟩) hSt.lj).trans (hSt.ic k zi ez), (hW.cell (p := ⟨hi, t, none⟩) hSt'.li).trans hSt'.ci, (hW.cell (p := ⟨gj', k, none⟩) hSt'.lj).trans (hSt'.ic k zi' ez')⟩)
                              have HR := Lib.hid (fun (x : Nat) (hx : x ≤ S) => show ∃ z, r[x]? = some z ∧ Sm z from ⟨r[x]'(by omega), List.getElem?_eq_getElem (by omega), smr _ (List.getElem_mem _)⟩)
                              have HR' := Lib.hid (fun (x : Nat) (hx : x ≤ M) => show ∃ z, r'[x]? = some z ∧ Sm z from ⟨r'[x]'(by omega), List.getElem?_eq_getElem (by omega), smr' _ (List.getElem_mem _)⟩)
                              have HLs := Lib.hid (And.intro ld1 (And.intro ld2 (And.intro lr lr')))
                              have H30 := Lib.hid e30
                              clear hTri6 hBk6 hSt hSt' er er' ez ez' hc3 hv3 hc3' hv3' l3 l3' lr smr lr' smr' smz smz' e30 ld1 ld2
                              have hb6 : Below w6.heap.size w6 (w6.alloc (.cells #[] 2)) := (Below.refl _ _).alloc (Nat.le_refl _) _
                              have HB6 := Lib.hid hb6
                              clear hb6
                              have h6w : w.heap.size ≤ w6.heap.size := HT6.out.2.size
                              go_wp2_with fail
                              try generalize wr = wk at *
                              go_loopw [19, 20] (fun v i wr => ∃ x : Nat, x ≤ S ∧ i = .int .i64 x ∧ (∃ e, IntsE w6.heap.size wr v (prodT (pairS nd) r.dropLast r'.dropLast x 0) e) ∧ Below w6.heap.size w6 wr) (fun _ i _ => S - (intOf i).toNat)
                              case atStart => exact ⟨0, Nat.zero_le _, rfl, H30.out, HB6.out⟩
                              case round =>
                                as_aux_lemma =>
                                  clear H30 HB6
                                  obtain ⟨x, hx, rfl, hrowX, hbx6⟩ := hrel
                                  have hBx := HT6.out.2.trans (hbx6.mono h6w)
                                  obtain ⟨x0, x1, x2, x3, x4, x5, xl⟩ := (HBc.out.later hBx).all6
                                  by_cases hxS : x < S
                                  · have HRX := Lib.hid (And.intro hrowX hbx6)
                                    clear hrowX hbx6 hBx
                                    go_wp2_with fail
                                    clear x0 x1 x2 x3 x4 x5 xl
                                    try generalize wr = wx at *
                                    go_loopw [19, 21] (fun v i wr => ∃ y : Nat, y ≤ M ∧ i = .int .i64 y ∧ (∃ e, IntsE w6.heap.size wr v (prodT (pairS nd) r.dropLast r'.dropLast x y) e) ∧ Below w6.heap.size w6 wr) (fun _ i _ => M - (intOf i).toNat)
                                    case atStart => exact ⟨0, Nat.zero_le _, rfl, HRX.out.1, HRX.out.2⟩
                                    case round =>
                                      as_aux_lemma =>
                                        clear HRX
                                        obtain ⟨y, hy, rfl, ⟨e, hrowY⟩, hby6⟩ := hrel
                                        by_cases hyM : y < M
                                        · obtain ⟨rx, hrx, smx⟩ := HR.out x (by omega)
                                          obtain ⟨ry, hry, smy⟩ := HR'.out y (by omega)
                                          have hBy := HT6.out.2.trans (hby6.mono h6w)
                                          obtain ⟨x0, x1, x2, x3, x4, x5, xl⟩ := (HBc.out.later hBy).all6
                                          obtain ⟨z0, z1, z2, z3, z4, z5, zl⟩ := (HBd.out.later hBy).all6
                                          obtain ⟨⟨cr, cr2, cr', cr2'⟩, hvx, hvy, _⟩ := HF.out wr hBy
                                          have cx := hvx x rx hrx
                                          have cy := hvy y ry hry
                                          have hlen := prodT_len (pairS nd) r.dropLast r'.dropLast (s := x) (t := y) (by rw [HLs.out.1]; exact hxS) (by rw [HLs.out.2.1]; omega)
                                          rw [HLs.out.2.1] at hlen
                                          have hmore := prodT_more (f := pairS nd) (xs := r.dropLast) (ys := r'.dropLast) (s := x) (t := y) (a := rx) (b := ry) (by rw [List.dropLast_eq_take, List.getElem?_take, if_pos (by have := HLs.out; omega)]; exact hrx) (by rw [List.dropLast_eq_take, List.getElem?_take, if_pos (by have := HLs.out; omega)]; exact hry)
                                          obtain ⟨Av, kv, rfl⟩ := RowE.slice hrowY
                                          have hrow := hrowY.1
                                          rw [hlen] at hrow ⊢
                                          have hxy : x * M + y < 100000 := by
                                            have h1 : x * M ≤ 80 * 80 := Nat.mul_le_mul (by omega) m80
                                            omega
                                          have ew8 := wrap_mul smx smn
                                          have ew9 := wrap_mad smx smn smy
                                          have HY := Lib.hid (And.intro hrowY (And.intro hby6 (And.intro hrow (And.intro hlen hmore))))
                                          have h6r : w6.heap.size ≤ wr.heap.size := hby6.size
                                          clear hrowY hby6 hrow hlen hmore hvx hvy hBy hrx hry smx smy
                                          obtain ⟨i0, hi0, hz0, hz1, hz2⟩ := info_parts toInfo_i64
                                          have hxi_ : (x : Int) < (S : Int) + 1 := by omega
                                          have hyi_ : (y : Int) < (M : Int) + 1 := by omega
                                          have hxn_ : x < S + 1 := by omega
                                          have hyn_ : y < M + 1 := by omega
                                          go_upto_region 30 with fail
                                          obtain ⟨W_, hW_⟩ : ∃ W_, W_ = wr := ⟨_, rfl⟩
                                          have hW_ := Lib.hid hW_
                                          have xx4 := x4
                                          have zz4 := z4
                                          clear x0 x1 x2 x3 x4 x5 xl z0 z1 z2 z3 z4 z5 zl hW_
                                          refine wp_region_free_seq2 (by kernel_rfl) [
                                              .val [] (fun _ => .slice Av (x * M + y) kv),
                                              .val [] (fun _ => .pointer (some ⟨Bc, 0, none⟩)),
                                              .val [] (fun _ => .pointer (some ⟨Bc, 0, none⟩)),
                                              .val [] (fun _ => .pointer (some ⟨Bc, 4, none⟩)),
                                              .val [] (fun _ => .slice (some ⟨gr, 0, none⟩) nc kr),
                                              .val [] (fun _ => .int .i64 (s : Int)),
                                              .val [] (fun _ => .pointer (some ⟨gr, s, none⟩)),
                                              .val [] (fun _ => .slice (some ⟨g2, 0, none⟩) 2 k2),
                                              .val [] (fun _ => .int .i64 (k : Int)),
                                              .val [] (fun _ => .pointer (some ⟨g2, k, none⟩)),
                                              .val [] (fun _ => .slice (some ⟨g3, 0, none⟩) (S + 1) k3),
                                              .val [] (fun _ => .int .i64 (x : Int)),
                                              .val [] (fun _ => .pointer (some ⟨g3, x, none⟩)),
                                              .val [] (fun _ => .int .i64 rx),
                                              .val [] (fun _ => .int .i64 (nd : Int)),
                                              .val [] (fun _ => .int .i64 (rx * (nd : Int))),
                                              .val [] (fun _ => .pointer (some ⟨Bd, 0, none⟩)),
                                              .val [] (fun _ => .pointer (some ⟨Bd, 0, none⟩)),
                                              .val [] (fun _ => .pointer (some ⟨Bd, 4, none⟩)),
                                              .val [] (fun _ => .slice (some ⟨hr, 0, none⟩) nd lr),
                                              .val [] (fun _ => .int .i64 (t : Int)),
                                              .val [] (fun _ => .pointer (some ⟨hr, t, none⟩)),
                                              .val [] (fun _ => .slice (some ⟨g2', 0, none⟩) 2 k2'),
                                              .val [] (fun _ => .int .i64 (k : Int)),
                                              .val [] (fun _ => .pointer (some ⟨g2', k, none⟩)),
                                              .val [] (fun _ => .slice (some ⟨g3', 0, none⟩) (M + 1) k3'),
                                              .val [] (fun _ => .int .i64 (y : Int)),
                                              .val [] (fun _ => .pointer (some ⟨g3', y, none⟩)),
                                              .val [] (fun _ => .int .i64 ry),
                                              .val [] (fun _ => .int .i64 (rx * (nd : Int) + ry)),
                                              .own (LitE wr.heap.size 2 #[.int .i64 (rx * (nd : Int) + ry)] 1) ()] 31 0 (.slice Av (x * M + y) kv) rfl ?hsel ?hfree ?hready (fun c a w h => h) ?hy rfl rfl ?hp ?hfw ?deps ?oks ?hforced ?hf ?steps ?tailR
                                          case hsel => kernel_rfl
                                          case hfree => kernel_rfl
                                          case hready => kernel_rfl
                                          case hforced => kernel_rfl
                                          case hf => kernel_rfl
                                          case hy => exact Or.inl ⟨by first | rfl | go_simp, fun w => by first | rfl | go_simp⟩
                                          case hp => kernel_rfl
                                          case hfw => kernel_rfl
                                          case deps => kernel_rfl
                                          case oks =>
                                            intro F hF
                                            simp only [List.mem_cons, List.not_mem_nil, or_false] at hF
                                            rcases hF with rfl | rfl | rfl | rfl | rfl | rfl | rfl | rfl | rfl | rfl | rfl | rfl | rfl | rfl | rfl | rfl | rfl | rfl | rfl | rfl | rfl | rfl | rfl | rfl | rfl | rfl | rfl | rfl | rfl | rfl | rfl
                                            · trivial
                                            · trivial
                                            · trivial
                                            · trivial
                                            · trivial
                                            · trivial
                                            · trivial
                                            · trivial
                                            · trivial
                                            · trivial
                                            · trivial
                                            · trivial
                                            · trivial
                                            · trivial
                                            · trivial
                                            · trivial
                                            · trivial
                                            · trivial
                                            · trivial
                                            · trivial
                                            · trivial
                                            · trivial
                                            · trivial
                                            · trivial
                                            · trivial
                                            · trivial
                                            · trivial
                                            · trivial
                                            · trivial
                                            · trivial
                                            · exact ⟨_, lit_ok _ _ _ _⟩
                                          case steps =>
                                            refine Steps.cons ?_ ?_
                                            · exact fun _ h => absurd rfl h
                                            refine Steps.cons ?_ ?_
                                            · intro _ _; refine FreeStep.val [] _ rfl rfl fun u β W hW hn fr hfr K hK => ?_
                                              simp only [frameL, putL, Act.put, List.setIfInBounds_toArray, List.set_cons_zero, List.set_cons_succ, Nat.zero_add, Nat.reduceAdd] at hfr
                                              subst hfr
                                              have HK := Lib.hid hK
                                              clear hK hn
                                              go_simp
                                              have h9 := HK.out
                                              revert h9
                                              clear HK
                                              go_simp
                                              try exact id
                                            refine Steps.cons ?_ ?_
                                            · intro _ _; refine FreeStep.val [] _ rfl rfl fun u β W hW hn fr hfr K hK => ?_
                                              simp only [frameL, putL, Act.put, List.setIfInBounds_toArray, List.set_cons_zero, List.set_cons_succ, Nat.zero_add, Nat.reduceAdd] at hfr
                                              subst hfr
                                              have e1 : u 1 = .pointer (some ⟨Bc, 0, none⟩) := Have.get (k := 1) hn rfl
                                              simp only [e1] at hK
                                              have HK := Lib.hid hK
                                              clear hK hn
                                              go_simp
                                              have h9 := HK.out
                                              revert h9
                                              clear HK
                                              go_simp
                                              try exact id
                                            refine Steps.cons ?_ ?_
                                            · intro _ _; refine FreeStep.val [] _ rfl rfl fun u β W hW hn fr hfr K hK => ?_
                                              simp only [frameL, putL, Act.put, List.setIfInBounds_toArray, List.set_cons_zero, List.set_cons_succ, Nat.zero_add, Nat.reduceAdd] at hfr
                                              subst hfr
                                              have e2 : u 2 = .pointer (some ⟨Bc, 0, none⟩) := Have.get (k := 2) hn rfl
                                              simp only [e2] at hK
                                              have HK := Lib.hid hK
                                              clear hK hn
                                              go_simp
                                              have h9 := HK.out
                                              revert h9
                                              clear HK
                                              go_simp
                                              try exact id
                                            refine Steps.cons ?_ ?_
                                            · intro _ _; refine FreeStep.val [] _ rfl rfl fun u β W hW hn fr hfr K hK => ?_
                                              simp only [frameL, putL, Act.put, List.setIfInBounds_toArray, List.set_cons_zero, List.set_cons_succ, Nat.zero_add, Nat.reduceAdd] at hfr
                                              subst hfr
                                              have e3 : u 3 = .pointer (some ⟨Bc, 4, none⟩) := Have.get (k := 3) hn rfl
                                              simp only [e3] at hK
                                              have c0 := cellL xx4 hW
                                              have HK := Lib.hid hK
                                              clear hK hn
                                              go_simp
                                              have h9 := HK.out
                                              revert h9
                                              clear HK
                                              go_simp
                                              try exact id
                                            refine Steps.cons ?_ ?_
                                            · intro _ _; refine FreeStep.val [] _ rfl rfl fun u β W hW hn fr hfr K hK => ?_
                                              simp only [frameL, putL, Act.put, List.setIfInBounds_toArray, List.set_cons_zero, List.set_cons_succ, Nat.zero_add, Nat.reduceAdd] at hfr
                                              subst hfr
                                              have HK := Lib.hid hK
                                              clear hK hn
                                              go_simp
                                              have h9 := HK.out
                                              revert h9
                                              clear HK
                                              go_simp
                                              try exact id
                                            refine Steps.cons ?_ ?_
                                            · intro _ _; refine FreeStep.val [] _ rfl rfl fun u β W hW hn fr hfr K hK => ?_
                                              simp only [frameL, putL, Act.put, List.setIfInBounds_toArray, List.set_cons_zero, List.set_cons_succ, Nat.zero_add, Nat.reduceAdd] at hfr
                                              subst hfr
                                              have e4 : u 4 = .slice (some ⟨gr, 0, none⟩) nc kr := Have.get (k := 4) hn rfl
                                              have e5 : u 5 = .int .i64 (s : Int) := Have.get (k := 5) hn rfl
                                              simp only [e4, e5] at hK
                                              have HK := Lib.hid hK
                                              clear hK hn
                                              go_simp
                                              have h9 := HK.out
                                              revert h9
                                              clear HK
                                              go_simp
                                              try exact id
                                            refine Steps.cons ?_ ?_
                                            · intro _ _; refine FreeStep.val [] _ rfl rfl fun u β W hW hn fr hfr K hK => ?_
                                              simp only [frameL, putL, Act.put, List.setIfInBounds_toArray, List.set_cons_zero, List.set_cons_succ, Nat.zero_add, Nat.reduceAdd] at hfr
                                              subst hfr
                                              have e6 : u 6 = .pointer (some ⟨gr, s, none⟩) := Have.get (k := 6) hn rfl
                                              simp only [e6] at hK
                                              have c0 := cellL cr hW
                                              have HK := Lib.hid hK
                                              clear hK hn
                                              go_simp
                                              have h9 := HK.out
                                              revert h9
                                              clear HK
                                              go_simp
                                              try exact id
                                            refine Steps.cons ?_ ?_
                                            · intro _ _; refine FreeStep.val [] _ rfl rfl fun u β W hW hn fr hfr K hK => ?_
                                              simp only [frameL, putL, Act.put, List.setIfInBounds_toArray, List.set_cons_zero, List.set_cons_succ, Nat.zero_add, Nat.reduceAdd] at hfr
                                              subst hfr
                                              have HK := Lib.hid hK
                                              clear hK hn
                                              go_simp
                                              have h9 := HK.out
                                              revert h9
                                              clear HK
                                              go_simp
                                              try exact id
                                            refine Steps.cons ?_ ?_
                                            · intro _ _; refine FreeStep.val [] _ rfl rfl fun u β W hW hn fr hfr K hK => ?_
                                              simp only [frameL, putL, Act.put, List.setIfInBounds_toArray, List.set_cons_zero, List.set_cons_succ, Nat.zero_add, Nat.reduceAdd] at hfr
                                              subst hfr
                                              have e7 : u 7 = .slice (some ⟨g2, 0, none⟩) 2 k2 := Have.get (k := 7) hn rfl
                                              have e8 : u 8 = .int .i64 (k : Int) := Have.get (k := 8) hn rfl
                                              simp only [e7, e8] at hK
                                              have HK := Lib.hid hK
                                              clear hK hn
                                              go_simp
                                              have h9 := HK.out
                                              revert h9
                                              clear HK
                                              go_simp
                                              try exact id
                                            refine Steps.cons ?_ ?_
                                            · intro _ _; refine FreeStep.val [] _ rfl rfl fun u β W hW hn fr hfr K hK => ?_
                                              simp only [frameL, putL, Act.put, List.setIfInBounds_toArray, List.set_cons_zero, List.set_cons_succ, Nat.zero_add, Nat.reduceAdd] at hfr
                                              subst hfr
                                              have e9 : u 9 = .pointer (some ⟨g2, k, none⟩) := Have.get (k := 9) hn rfl
                                              simp only [e9] at hK
                                              have c0 := cellL cr2 hW
                                              have HK := Lib.hid hK
                                              clear hK hn
                                              go_simp
                                              have h9 := HK.out
                                              revert h9
                                              clear HK
                                              go_simp
                                              try exact id
                                            refine Steps.cons ?_ ?_
                                            · intro _ _; refine FreeStep.val [] _ rfl rfl fun u β W hW hn fr hfr K hK => ?_
                                              simp only [frameL, putL, Act.put, List.setIfInBounds_toArray, List.set_cons_zero, List.set_cons_succ, Nat.zero_add, Nat.reduceAdd] at hfr
                                              subst hfr
                                              have HK := Lib.hid hK
                                              clear hK hn
                                              go_simp
                                              have h9 := HK.out
                                              revert h9
                                              clear HK
                                              go_simp
                                              try exact id
                                            refine Steps.cons ?_ ?_
                                            · intro _ _; refine FreeStep.val [] _ rfl rfl fun u β W hW hn fr hfr K hK => ?_
                                              simp only [frameL, putL, Act.put, List.setIfInBounds_toArray, List.set_cons_zero, List.set_cons_succ, Nat.zero_add, Nat.reduceAdd] at hfr
                                              subst hfr
                                              have e10 : u 10 = .slice (some ⟨g3, 0, none⟩) (S + 1) k3 := Have.get (k := 10) hn rfl
                                              have e11 : u 11 = .int .i64 (x : Int) := Have.get (k := 11) hn rfl
                                              simp only [e10, e11] at hK
                                              have HK := Lib.hid hK
                                              clear hK hn
                                              go_simp
                                              have h9 := HK.out
                                              revert h9
                                              clear HK
                                              go_simp
                                              try exact id
                                            refine Steps.cons ?_ ?_
                                            · intro _ _; refine FreeStep.val [] _ rfl rfl fun u β W hW hn fr hfr K hK => ?_
                                              simp only [frameL, putL, Act.put, List.setIfInBounds_toArray, List.set_cons_zero, List.set_cons_succ, Nat.zero_add, Nat.reduceAdd] at hfr
                                              subst hfr
                                              have e12 : u 12 = .pointer (some ⟨g3, x, none⟩) := Have.get (k := 12) hn rfl
                                              simp only [e12] at hK
                                              have c0 := cellL cx hW
                                              have HK := Lib.hid hK
                                              clear hK hn
                                              go_simp
                                              have h9 := HK.out
                                              revert h9
                                              clear HK
                                              go_simp
                                              try exact id
                                            refine Steps.cons ?_ ?_
                                            · intro _ _; refine FreeStep.val [] _ rfl rfl fun u β W hW hn fr hfr K hK => ?_
                                              simp only [frameL, putL, Act.put, List.setIfInBounds_toArray, List.set_cons_zero, List.set_cons_succ, Nat.zero_add, Nat.reduceAdd] at hfr
                                              subst hfr
                                              have HK := Lib.hid hK
                                              clear hK hn
                                              go_simp
                                              have h9 := HK.out
                                              revert h9
                                              clear HK
                                              go_simp
                                              try exact id
                                            refine Steps.cons ?_ ?_
                                            · intro _ _; refine FreeStep.val [] _ rfl rfl fun u β W hW hn fr hfr K hK => ?_
                                              simp only [frameL, putL, Act.put, List.setIfInBounds_toArray, List.set_cons_zero, List.set_cons_succ, Nat.zero_add, Nat.reduceAdd] at hfr
                                              subst hfr
                                              have e13 : u 13 = .int .i64 rx := Have.get (k := 13) hn rfl
                                              have e14 : u 14 = .int .i64 (nd : Int) := Have.get (k := 14) hn rfl
                                              simp only [e13, e14] at hK
                                              have HK := Lib.hid hK
                                              clear hK hn
                                              go_simp
                                              have h9 := HK.out
                                              revert h9
                                              clear HK
                                              go_simp
                                              try exact id
                                            refine Steps.cons ?_ ?_
                                            · intro _ _; refine FreeStep.val [] _ rfl rfl fun u β W hW hn fr hfr K hK => ?_
                                              simp only [frameL, putL, Act.put, List.setIfInBounds_toArray, List.set_cons_zero, List.set_cons_succ, Nat.zero_add, Nat.reduceAdd] at hfr
                                              subst hfr
                                              have HK := Lib.hid hK
                                              clear hK hn
                                              go_simp
                                              have h9 := HK.out
                                              revert h9
                                              clear HK
                                              go_simp
                                              try exact id
                                            refine Steps.cons ?_ ?_
                                            · intro _ _; refine FreeStep.val [] _ rfl rfl fun u β W hW hn fr hfr K hK => ?_
                                              simp only [frameL, putL, Act.put, List.setIfInBounds_toArray, List.set_cons_zero, List.set_cons_succ, Nat.zero_add, Nat.reduceAdd] at hfr
                                              subst hfr
                                              have e16 : u 16 = .pointer (some ⟨Bd, 0, none⟩) := Have.get (k := 16) hn rfl
                                              simp only [e16] at hK
                                              have HK := Lib.hid hK
                                              clear hK hn
                                              go_simp
                                              have h9 := HK.out
                                              revert h9
                                              clear HK
                                              go_simp
                                              try exact id
                                            refine Steps.cons ?_ ?_
                                            · intro _ _; refine FreeStep.val [] _ rfl rfl fun u β W hW hn fr hfr K hK => ?_
                                              simp only [frameL, putL, Act.put, List.setIfInBounds_toArray, List.set_cons_zero, List.set_cons_succ, Nat.zero_add, Nat.reduceAdd] at hfr
                                              subst hfr
                                              have e17 : u 17 = .pointer (some ⟨Bd, 0, none⟩) := Have.get (k := 17) hn rfl
                                              simp only [e17] at hK
                                              have HK := Lib.hid hK
                                              clear hK hn
                                              go_simp
                                              have h9 := HK.out
                                              revert h9
                                              clear HK
                                              go_simp
                                              try exact id
                                            refine Steps.cons ?_ ?_
                                            · intro _ _; refine FreeStep.val [] _ rfl rfl fun u β W hW hn fr hfr K hK => ?_
                                              simp only [frameL, putL, Act.put, List.setIfInBounds_toArray, List.set_cons_zero, List.set_cons_succ, Nat.zero_add, Nat.reduceAdd] at hfr
                                              subst hfr
                                              have e18 : u 18 = .pointer (some ⟨Bd, 4, none⟩) := Have.get (k := 18) hn rfl
                                              simp only [e18] at hK
                                              have c0 := cellL zz4 hW
                                              have HK := Lib.hid hK
                                              clear hK hn
                                              go_simp
                                              have h9 := HK.out
                                              revert h9
                                              clear HK
                                              go_simp
                                              try exact id
                                            refine Steps.cons ?_ ?_
                                            · intro _ _; refine FreeStep.val [] _ rfl rfl fun u β W hW hn fr hfr K hK => ?_
                                              simp only [frameL, putL, Act.put, List.setIfInBounds_toArray, List.set_cons_zero, List.set_cons_succ, Nat.zero_add, Nat.reduceAdd] at hfr
                                              subst hfr
                                              have HK := Lib.hid hK
                                              clear hK hn
                                              go_simp
                                              have h9 := HK.out
                                              revert h9
                                              clear HK
                                              go_simp
                                              try exact id
                                            refine Steps.cons ?_ ?_
                                            · intro _ _; refine FreeStep.val [] _ rfl rfl fun u β W hW hn fr hfr K hK => ?_
                                              simp only [frameL, putL, Act.put, List.setIfInBounds_toArray, List.set_cons_zero, List.set_cons_succ, Nat.zero_add, Nat.reduceAdd] at hfr
                                              subst hfr
                                              have e19 : u 19 = .slice (some ⟨hr, 0, none⟩) nd lr := Have.get (k := 19) hn rfl
                                              have e20 : u 20 = .int .i64 (t : Int) := Have.get (k := 20) hn rfl
                                              simp only [e19, e20] at hK
                                              have HK := Lib.hid hK
                                              clear hK hn
                                              go_simp
                                              have h9 := HK.out
                                              revert h9
                                              clear HK
                                              go_simp
                                              try exact id
                                            refine Steps.cons ?_ ?_
                                            · intro _ _; refine FreeStep.val [] _ rfl rfl fun u β W hW hn fr hfr K hK => ?_
                                              simp only [frameL, putL, Act.put, List.setIfInBounds_toArray, List.set_cons_zero, List.set_cons_succ, Nat.zero_add, Nat.reduceAdd] at hfr
                                              subst hfr
                                              have e21 : u 21 = .pointer (some ⟨hr, t, none⟩) := Have.get (k := 21) hn rfl
                                              simp only [e21] at hK
                                              have c0 := cellL cr' hW
                                              have HK := Lib.hid hK
                                              clear hK hn
                                              go_simp
                                              have h9 := HK.out
                                              revert h9
                                              clear HK
                                              go_simp
                                              try exact id
                                            refine Steps.cons ?_ ?_
                                            · intro _ _; refine FreeStep.val [] _ rfl rfl fun u β W hW hn fr hfr K hK => ?_
                                              simp only [frameL, putL, Act.put, List.setIfInBounds_toArray, List.set_cons_zero, List.set_cons_succ, Nat.zero_add, Nat.reduceAdd] at hfr
                                              subst hfr
                                              have HK := Lib.hid hK
                                              clear hK hn
                                              go_simp
                                              have h9 := HK.out
                                              revert h9
                                              clear HK
                                              go_simp
                                              try exact id
                                            refine Steps.cons ?_ ?_
                                            · intro _ _; refine FreeStep.val [] _ rfl rfl fun u β W hW hn fr hfr K hK => ?_
                                              simp only [frameL, putL, Act.put, List.setIfInBounds_toArray, List.set_cons_zero, List.set_cons_succ, Nat.zero_add, Nat.reduceAdd] at hfr
                                              subst hfr
                                              have e22 : u 22 = .slice (some ⟨g2', 0, none⟩) 2 k2' := Have.get (k := 22) hn rfl
                                              have e23 : u 23 = .int .i64 (k : Int) := Have.get (k := 23) hn rfl
                                              simp only [e22, e23] at hK
                                              have HK := Lib.hid hK
                                              clear hK hn
                                              go_simp
                                              have h9 := HK.out
                                              revert h9
                                              clear HK
                                              go_simp
                                              try exact id
                                            refine Steps.cons ?_ ?_
                                            · intro _ _; refine FreeStep.val [] _ rfl rfl fun u β W hW hn fr hfr K hK => ?_
                                              simp only [frameL, putL, Act.put, List.setIfInBounds_toArray, List.set_cons_zero, List.set_cons_succ, Nat.zero_add, Nat.reduceAdd] at hfr
                                              subst hfr
                                              have e24 : u 24 = .pointer (some ⟨g2', k, none⟩) := Have.get (k := 24) hn rfl
                                              simp only [e24] at hK
                                              have c0 := cellL cr2' hW
                                              have HK := Lib.hid hK
                                              clear hK hn
                                              go_simp
                                              have h9 := HK.out
                                              revert h9
                                              clear HK
                                              go_simp
                                              try exact id
                                            refine Steps.cons ?_ ?_
                                            · intro _ _; refine FreeStep.val [] _ rfl rfl fun u β W hW hn fr hfr K hK => ?_
                                              simp only [frameL, putL, Act.put, List.setIfInBounds_toArray, List.set_cons_zero, List.set_cons_succ, Nat.zero_add, Nat.reduceAdd] at hfr
                                              subst hfr
                                              have HK := Lib.hid hK
                                              clear hK hn
                                              go_simp
                                              have h9 := HK.out
                                              revert h9
                                              clear HK
                                              go_simp
                                              try exact id
                                            refine Steps.cons ?_ ?_
                                            · intro _ _; refine FreeStep.val [] _ rfl rfl fun u β W hW hn fr hfr K hK => ?_
                                              simp only [frameL, putL, Act.put, List.setIfInBounds_toArray, List.set_cons_zero, List.set_cons_succ, Nat.zero_add, Nat.reduceAdd] at hfr
                                              subst hfr
                                              have e25 : u 25 = .slice (some ⟨g3', 0, none⟩) (M + 1) k3' := Have.get (k := 25) hn rfl
                                              have e26 : u 26 = .int .i64 (y : Int) := Have.get (k := 26) hn rfl
                                              simp only [e25, e26] at hK
                                              have HK := Lib.hid hK
                                              clear hK hn
                                              go_simp
                                              have h9 := HK.out
                                              revert h9
                                              clear HK
                                              go_simp
                                              try exact id
                                            refine Steps.cons ?_ ?_
                                            · intro _ _; refine FreeStep.val [] _ rfl rfl fun u β W hW hn fr hfr K hK => ?_
                                              simp only [frameL, putL, Act.put, List.setIfInBounds_toArray, List.set_cons_zero, List.set_cons_succ, Nat.zero_add, Nat.reduceAdd] at hfr
                                              subst hfr
                                              have e27 : u 27 = .pointer (some ⟨g3', y, none⟩) := Have.get (k := 27) hn rfl
                                              simp only [e27] at hK
                                              have c0 := cellL cy hW
                                              have HK := Lib.hid hK
                                              clear hK hn
                                              go_simp
                                              have h9 := HK.out
                                              revert h9
                                              clear HK
                                              go_simp
                                              try exact id
                                            refine Steps.cons ?_ ?_
                                            · intro _ _; refine FreeStep.val [] _ rfl rfl fun u β W hW hn fr hfr K hK => ?_
                                              simp only [frameL, putL, Act.put, List.setIfInBounds_toArray, List.set_cons_zero, List.set_cons_succ, Nat.zero_add, Nat.reduceAdd] at hfr
                                              subst hfr
                                              have e15 : u 15 = .int .i64 (rx * (nd : Int)) := Have.get (k := 15) hn rfl
                                              have e28 : u 28 = .int .i64 ry := Have.get (k := 28) hn rfl
                                              simp only [e15, e28] at hK
                                              have HK := Lib.hid hK
                                              clear hK hn
                                              go_simp
                                              have h9 := HK.out
                                              revert h9
                                              clear HK
                                              go_simp
                                              try exact id
                                            refine Steps.cons ?_ ?_
                                            · intro _ _; refine FreeStep.own (base := wr.heap.size) rfl (lit_ok _ _ _ _) fun u β W hW hn fr hfr K hK => ?_
                                              simp only [frameL, putL, Act.put, List.setIfInBounds_toArray, List.set_cons_zero, List.set_cons_succ, Nat.zero_add, Nat.reduceAdd] at hfr
                                              subst hfr
                                              have e29 : u 29 = .int .i64 (rx * (nd : Int) + ry) := Have.get (k := 29) hn rfl
                                              simp only [e29] at hK
                                              have hsz := hW.size
                                              have HK := Lib.hid hK
                                              clear hK hn
                                              go_simp
                                              exact HK.out _ [W.heap.size] _ ((Below.refl _ _).alloc (Nat.le_refl _) _) (LitE.new _ _ _ W hsz) (fun b hb => by rw [List.mem_singleton.1 hb]; exact Nat.le_refl _)
                                            refine Steps.cons ?_ ?_
                                            · exact fun h => absurd h (by decide)
                                            refine Steps.cons ?_ ?_
                                            · exact fun h => absurd h (by decide)
                                            exact Steps.nil
                                          case tailR =>
                                            intro u β W hW hn hdis hbnd fr hfr
                                            simp only [frameL, putL, Act.put, List.setIfInBounds_toArray, List.set_cons_zero, List.set_cons_succ, Nat.zero_add, Nat.reduceAdd] at hfr
                                            subst hfr
                                            have z0 : u 0 = .slice Av (x * M + y) kv := Have.get (k := 0) hn rfl
                                            have z1 : u 1 = .pointer (some ⟨Bc, 0, none⟩) := Have.get (k := 1) hn rfl
                                            have z2 : u 2 = .pointer (some ⟨Bc, 0, none⟩) := Have.get (k := 2) hn rfl
                                            have z3 : u 3 = .pointer (some ⟨Bc, 4, none⟩) := Have.get (k := 3) hn rfl
                                            have z4 : u 4 = .slice (some ⟨gr, 0, none⟩) nc kr := Have.get (k := 4) hn rfl
                                            have z5 : u 5 = .int .i64 (s : Int) := Have.get (k := 5) hn rfl
                                            have z6 : u 6 = .pointer (some ⟨gr, s, none⟩) := Have.get (k := 6) hn rfl
                                            have z7 : u 7 = .slice (some ⟨g2, 0, none⟩) 2 k2 := Have.get (k := 7) hn rfl
                                            have z8 : u 8 = .int .i64 (k : Int) := Have.get (k := 8) hn rfl
                                            have z9 : u 9 = .pointer (some ⟨g2, k, none⟩) := Have.get (k := 9) hn rfl
                                            have z10 : u 10 = .slice (some ⟨g3, 0, none⟩) (S + 1) k3 := Have.get (k := 10) hn rfl
                                            have z11 : u 11 = .int .i64 (x : Int) := Have.get (k := 11) hn rfl
                                            have z12 : u 12 = .pointer (some ⟨g3, x, none⟩) := Have.get (k := 12) hn rfl
                                            have z13 : u 13 = .int .i64 rx := Have.get (k := 13) hn rfl
                                            have z14 : u 14 = .int .i64 (nd : Int) := Have.get (k := 14) hn rfl
                                            have z15 : u 15 = .int .i64 (rx * (nd : Int)) := Have.get (k := 15) hn rfl
                                            have z16 : u 16 = .pointer (some ⟨Bd, 0, none⟩) := Have.get (k := 16) hn rfl
                                            have z17 : u 17 = .pointer (some ⟨Bd, 0, none⟩) := Have.get (k := 17) hn rfl
                                            have z18 : u 18 = .pointer (some ⟨Bd, 4, none⟩) := Have.get (k := 18) hn rfl
                                            have z19 : u 19 = .slice (some ⟨hr, 0, none⟩) nd lr := Have.get (k := 19) hn rfl
                                            have z20 : u 20 = .int .i64 (t : Int) := Have.get (k := 20) hn rfl
                                            have z21 : u 21 = .pointer (some ⟨hr, t, none⟩) := Have.get (k := 21) hn rfl
                                            have z22 : u 22 = .slice (some ⟨g2', 0, none⟩) 2 k2' := Have.get (k := 22) hn rfl
                                            have z23 : u 23 = .int .i64 (k : Int) := Have.get (k := 23) hn rfl
                                            have z24 : u 24 = .pointer (some ⟨g2', k, none⟩) := Have.get (k := 24) hn rfl
                                            have z25 : u 25 = .slice (some ⟨g3', 0, none⟩) (M + 1) k3' := Have.get (k := 25) hn rfl
                                            have z26 : u 26 = .int .i64 (y : Int) := Have.get (k := 26) hn rfl
                                            have z27 : u 27 = .pointer (some ⟨g3', y, none⟩) := Have.get (k := 27) hn rfl
                                            have z28 : u 28 = .int .i64 ry := Have.get (k := 28) hn rfl
                                            have z29 : u 29 = .int .i64 (rx * (nd : Int) + ry) := Have.get (k := 29) hn rfl
                                            have f30 : (LitE wr.heap.size 2 #[.int .i64 (rx * (nd : Int) + ry)] 1) W (u 30) () (β 30) := Have.get (k := 30) hn rfl
                                            clear hn hdis hbnd
                                            show wpOps _ _ _ [31, 32] _ _
                                            obtain ⟨bo, go, hbo, _, hlo⟩ := f30
                                            obtain ⟨hrowY, hby6, hrow, hlen, hmore⟩ := HY.out
                                            have hrowW : IntsE w6.heap.size W _ _ e := (ints_ok _).later hrowY hW
                                            have hbW := hby6.trans (hW.mono hby6.size)
                                            have hrW := hrowW.1
                                            rw [hlen] at hrW
                                            have hsW := hW.size
                                            have HY2 := Lib.hid (And.intro hrowW (And.intro hbW (And.intro hrW (And.intro hlen hmore))))
                                            clear hrowY hby6 hrow hlen hmore hrowW hbW hrW HY
                                            rw [wpOps_cons]
                                            refine wpOp_step rfl (fun K hK => ?_)
                                            refine step_append_lies _ rfl _ _ 38 rfl w6.heap.size 2 i0 (.int .i64 0) 1 8 Try.underlying38 hi0 hz0 hz1 hz2 rfl (by decide) _ (x * M + y) _ z0 HY2.out.2.2.1 ⟨bo, 0, none⟩ 1 1 [.int .i64 (rx * (nd : Int) + ry)] go rfl (World.news_of_block hbo) (one_sing rfl) (by decide) ?c1 ?c2 ?c3 _ rfl ?_
                                            case c1 => unfold maxLen; omega
                                            case c2 => omega
                                            case c3 => omega
                                            intro g1 cap1 w7 hown hg5 hat hltg
                                            refine hK _ _ ?_
                                            have hB7 := HY2.out.2.1.grown hg5 (by omega) (fun k hk => ((ints_ok _).lt HY2.out.1 k (by have e1_ := HY2.out.1.2; rw [HY2.out.2.2.2.1] at e1_; rw [e1_, hk]; simp)).1)
                                            have hS7 : ∃ e, IntsE w6.heap.size w7 (.slice (some ⟨g1, 0, none⟩) (x * M + y + 1) cap1) (prodT (pairS nd) r.dropLast r'.dropLast x (y + 1)) e := by
                                              refine ⟨[g1], ?_, rfl⟩
                                              rw [HY2.out.2.2.2.2, List.length_append, HY2.out.2.2.2.1, List.flatMap_append]
                                              exact hown
                                            have HS7 := Lib.hid (And.intro hS7 hB7)
                                            clear hK hown hg5 hat hS7 hB7 HY2
                                            rw [wpOps_cons]
                                            refine wpOp_step rfl (fun K2 hK => ?_)
                                            go_simp
                                            refine hK _ _ ?_
                                            clear hK
                                            unfold wpOps
                                            clear go hbo hlo hltg ew8 ew9
                                            generalize u 0 = s200 at *; generalize u 1 = s201 at *; generalize u 2 = s202 at *; generalize u 3 = s203 at *; generalize u 4 = s204 at *; generalize u 5 = s205 at *; generalize u 6 = s206 at *; generalize u 7 = s207 at *; generalize u 8 = s208 at *; generalize u 9 = s209 at *; generalize u 10 = s210 at *; generalize u 11 = s211 at *; generalize u 12 = s212 at *; generalize u 13 = s213 at *; generalize u 14 = s214 at *; generalize u 15 = s215 at *; generalize u 16 = s216 at *; generalize u 17 = s217 at *; generalize u 18 = s218 at *; generalize u 19 = s219 at *; generalize u 20 = s220 at *; generalize u 21 = s221 at *; generalize u 22 = s222 at *; generalize u 23 = s223 at *; generalize u 24 = s224 at *; generalize u 25 = s225 at *; generalize u 26 = s226 at *; generalize u 27 = s227 at *; generalize u 28 = s228 at *; generalize u 29 = s229 at *; generalize u 30 = s230 at *
                                            go_wp2
                                            go_roundw
                                            case rel => exact ⟨y + 1, by omega, by go_num, HS7.out.1, HS7.out.2⟩
                                            case measure => simp [intOf]; omega
                                        · have e_ : y = M := by omega
                                          subst e_
                                          have hnx := prodT_next (f := pairS nd) (xs := r.dropLast) (ys := r'.dropLast) (s := x) (by rw [HLs.out.1]; exact hxS)
                                          rw [HLs.out.2.1] at hnx
                                          rw [hnx] at hrowY
                                          have HY := Lib.hid (And.intro hrowY hby6)
                                          clear hrowY hby6 hnx
                                          go_wp2
                                          go_roundw
                                          case rel => exact ⟨x + 1, by omega, by go_num, ⟨_, HY.out.1⟩, HY.out.2⟩
                                          case measure => simp [intOf]; omega
                                  · have e_ : x = S := by omega
                                    subst e_
                                    obtain ⟨e, hrowE⟩ := hrowX
                                    have hall := prodT_all (pairS nd) r.dropLast r'.dropLast
                                    rw [HLs.out.1] at hall
                                    rw [hall] at hrowE
                                    obtain ⟨rl, hrl, sml⟩ := HR.out x (Nat.le_refl _)
                                    obtain ⟨rl', hrl', sml'⟩ := HR'.out M (Nat.le_refl _)
                                    have hpr : pairR nd r r' = prodL (pairS nd) r.dropLast r'.dropLast ++ [rl * (nd : Int) + rl'] := by
                                      have q1 : r.getLastD 0 = rl := by rw [List.getLastD_eq_getLast?, List.getLast?_eq_getElem?, HLs.out.2.2.1, Nat.add_sub_cancel, hrl]; rfl
                                      have q2 : r'.getLastD 0 = rl' := by rw [List.getLastD_eq_getLast?, List.getLast?_eq_getElem?, HLs.out.2.2.2, Nat.add_sub_cancel, hrl']; rfl
                                      unfold pairR; rw [q1, q2]; rfl
                                    have hlP : (prodL (pairS nd) r.dropLast r'.dropLast).length = x * M := by rw [prodL_len, HLs.out.1, HLs.out.2.1]
                                    obtain ⟨Av, kv, rfl⟩ := RowE.slice hrowE
                                    have hrow := hrowE.1
                                    rw [hlP] at hrow ⊢
                                    have hxy : x * M < 100000 := by
                                      have h1 : x * M ≤ 80 * 80 := Nat.mul_le_mul s80 m80
                                      omega
                                    have ew8 := wrap_mul sml smn
                                    have ew9 := wrap_mad sml smn sml'
                                    obtain ⟨z0, z1, z2, z3, z4, z5, zl⟩ := (HBd.out.later hBx).all6
                                    obtain ⟨⟨cr, cr2, cr', cr2'⟩, hvx, hvy, _⟩ := HF.out wr hBx
                                    have cx := hvx x rl hrl
                                    have cy := hvy M rl' hrl'
                                    have xx0 := x0
                                    have xx4 := x4
                                    have zz4 := z4
                                    have HY := Lib.hid (And.intro hrowE (And.intro hbx6 (And.intro hrow (And.intro hlP (And.intro hpr hBx)))))
                                    have h6r : w6.heap.size ≤ wr.heap.size := hbx6.size
                                    clear hrowE hbx6 hrow hlP hpr hall hrl hrl' sml sml' hvx hvy hBx x0 x1 x2 x3 x4 x5 xl z0 z1 z2 z3 z4 z5 zl
                                    obtain ⟨i0, hi0, hz0, hz1, hz2⟩ := info_parts toInfo_i64
                                    obtain ⟨i2, hi2, ho0, ho1, ho2⟩ := info_parts toInfo_ints
                                    have hxi_ : (x : Int) < (x : Int) + 1 := by omega
                                    have hyi_ : (M : Int) < (M : Int) + 1 := by omega
                                    have hxn_ : x < x + 1 := by omega
                                    have hyn_ : M < M + 1 := by omega
                                    go_upto_region 31 with fail
                                    refine wp_region_free_seq2 (by kernel_rfl) [
                                        .val [] (fun _ => .slice Ar k kpr),
                                        .val [] (fun _ => .slice Av (x * M) kv),
                                        .val [] (fun _ => .pointer (some ⟨Bc, 0, none⟩)),
                                        .val [] (fun _ => .pointer (some ⟨Bc, 0, none⟩)),
                                        .val [] (fun _ => .pointer (some ⟨Bc, 4, none⟩)),
                                        .val [] (fun _ => .slice (some ⟨gr, 0, none⟩) nc kr),
                                        .val [] (fun _ => .int .i64 (s : Int)),
                                        .val [] (fun _ => .pointer (some ⟨gr, s, none⟩)),
                                        .val [] (fun _ => .slice (some ⟨g2, 0, none⟩) 2 k2),
                                        .val [] (fun _ => .int .i64 (k : Int)),
                                        .val [] (fun _ => .pointer (some ⟨g2, k, none⟩)),
                                        .val [] (fun _ => .slice (some ⟨g3, 0, none⟩) (x + 1) k3),
                                        .val [] (fun _ => .pointer (some ⟨Bc, 0, none⟩)),
                                        .val [] (fun _ => .pointer (some ⟨Bc, 0, none⟩)),
                                        .val [] (fun _ => .pointer (some ⟨Bc, 0, none⟩)),
                                        .val [] (fun _ => .int .i64 (x : Int)),
                                        .val [] (fun _ => .pointer (some ⟨g3, x, none⟩)),
                                        .val [] (fun _ => .int .i64 rl),
                                        .val [] (fun _ => .int .i64 (nd : Int)),
                                        .val [] (fun _ => .int .i64 (rl * (nd : Int))),
                                        .val [] (fun _ => .pointer (some ⟨Bd, 0, none⟩)),
                                        .val [] (fun _ => .pointer (some ⟨Bd, 0, none⟩)),
                                        .val [] (fun _ => .pointer (some ⟨Bd, 4, none⟩)),
                                        .val [] (fun _ => .slice (some ⟨hr, 0, none⟩) nd lr),
                                        .val [] (fun _ => .int .i64 (t : Int)),
                                        .val [] (fun _ => .pointer (some ⟨hr, t, none⟩)),
                                        .val [] (fun _ => .slice (some ⟨g2', 0, none⟩) 2 k2'),
                                        .val [] (fun _ => .int .i64 (k : Int)),
                                        .val [] (fun _ => .pointer (some ⟨g2', k, none⟩)),
                                        .val [] (fun _ => .slice (some ⟨g3', 0, none⟩) (M + 1) k3'),
                                        .val [] (fun _ => .int .i64 (M : Int)),
                                        .val [] (fun _ => .pointer (some ⟨g3', M, none⟩)),
                                        .val [] (fun _ => .int .i64 rl'),
                                        .val [] (fun _ => .int .i64 (rl * (nd : Int) + rl')),
                                        .own (LitE wr.heap.size 2 #[.int .i64 (rl * (nd : Int) + rl')] 1) ()] 35 0 (.slice Ar k kpr) rfl ?hsel ?hfree ?hready (fun c a w h => h) ?hy rfl rfl ?hp ?hfw ?deps ?oks ?hforced ?hf ?steps ?tailR
                                    case hsel => kernel_rfl
                                    case hfree => kernel_rfl
                                    case hready => kernel_rfl
                                    case hforced => kernel_rfl
                                    case hf => kernel_rfl
                                    case hy => exact Or.inl ⟨by first | rfl | go_simp, fun w => by first | rfl | go_simp⟩
                                    case hp => kernel_rfl
                                    case hfw => kernel_rfl
                                    case deps => kernel_rfl
                                    case oks =>
                                      intro F hF
                                      simp only [List.mem_cons, List.not_mem_nil, or_false] at hF
                                      rcases hF with rfl | rfl | rfl | rfl | rfl | rfl | rfl | rfl | rfl | rfl | rfl | rfl | rfl | rfl | rfl | rfl | rfl | rfl | rfl | rfl | rfl | rfl | rfl | rfl | rfl | rfl | rfl | rfl | rfl | rfl | rfl | rfl | rfl | rfl | rfl
                                      · trivial
                                      · trivial
                                      · trivial
                                      · trivial
                                      · trivial
                                      · trivial
                                      · trivial
                                      · trivial
                                      · trivial
                                      · trivial
                                      · trivial
                                      · trivial
                                      · trivial
                                      · trivial
                                      · trivial
                                      · trivial
                                      · trivial
                                      · trivial
                                      · trivial
                                      · trivial
                                      · trivial
                                      · trivial
                                      · trivial
                                      · trivial
                                      · trivial
                                      · trivial
                                      · trivial
                                      · trivial
                                      · trivial
                                      · trivial
                                      · trivial
                                      · trivial
                                      · trivial
                                      · trivial
                                      · exact ⟨_, lit_ok _ _ _ _⟩
                                    case steps =>
                                      refine Steps.cons ?_ ?_
                                      · exact fun _ h => absurd rfl h
                                      refine Steps.cons ?_ ?_
                                      · intro _ _; refine FreeStep.val [] _ rfl rfl fun u β W hW hn fr hfr K hK => ?_
                                        simp only [frameL, putL, Act.put, List.setIfInBounds_toArray, List.set_cons_zero, List.set_cons_succ, Nat.zero_add, Nat.reduceAdd] at hfr
                                        subst hfr
                                        have HK := Lib.hid hK
                                        clear hK hn
                                        go_simp
                                        have h9 := HK.out
                                        revert h9
                                        clear HK
                                        go_simp
                                        try exact id
                                      refine Steps.cons ?_ ?_
                                      · intro _ _; refine FreeStep.val [] _ rfl rfl fun u β W hW hn fr hfr K hK => ?_
                                        simp only [frameL, putL, Act.put, List.setIfInBounds_toArray, List.set_cons_zero, List.set_cons_succ, Nat.zero_add, Nat.reduceAdd] at hfr
                                        subst hfr
                                        have HK := Lib.hid hK
                                        clear hK hn
                                        go_simp
                                        have h9 := HK.out
                                        revert h9
                                        clear HK
                                        go_simp
                                        try exact id
                                      refine Steps.cons ?_ ?_
                                      · intro _ _; refine FreeStep.val [] _ rfl rfl fun u β W hW hn fr hfr K hK => ?_
                                        simp only [frameL, putL, Act.put, List.setIfInBounds_toArray, List.set_cons_zero, List.set_cons_succ, Nat.zero_add, Nat.reduceAdd] at hfr
                                        subst hfr
                                        have e2 : u 2 = .pointer (some ⟨Bc, 0, none⟩) := Have.get (k := 2) hn rfl
                                        simp only [e2] at hK
                                        have HK := Lib.hid hK
                                        clear hK hn
                                        go_simp
                                        have h9 := HK.out
                                        revert h9
                                        clear HK
                                        go_simp
                                        try exact id
                                      refine Steps.cons ?_ ?_
                                      · intro _ _; refine FreeStep.val [] _ rfl rfl fun u β W hW hn fr hfr K hK => ?_
                                        simp only [frameL, putL, Act.put, List.setIfInBounds_toArray, List.set_cons_zero, List.set_cons_succ, Nat.zero_add, Nat.reduceAdd] at hfr
                                        subst hfr
                                        have e3 : u 3 = .pointer (some ⟨Bc, 0, none⟩) := Have.get (k := 3) hn rfl
                                        simp only [e3] at hK
                                        have HK := Lib.hid hK
                                        clear hK hn
                                        go_simp
                                        have h9 := HK.out
                                        revert h9
                                        clear HK
                                        go_simp
                                        try exact id
                                      refine Steps.cons ?_ ?_
                                      · intro _ _; refine FreeStep.val [] _ rfl rfl fun u β W hW hn fr hfr K hK => ?_
                                        simp only [frameL, putL, Act.put, List.setIfInBounds_toArray, List.set_cons_zero, List.set_cons_succ, Nat.zero_add, Nat.reduceAdd] at hfr
                                        subst hfr
                                        have e4 : u 4 = .pointer (some ⟨Bc, 4, none⟩) := Have.get (k := 4) hn rfl
                                        simp only [e4] at hK
                                        have c0 := cellL xx4 hW
                                        have HK := Lib.hid hK
                                        clear hK hn
                                        go_simp
                                        have h9 := HK.out
                                        revert h9
                                        clear HK
                                        go_simp
                                        try exact id
                                      refine Steps.cons ?_ ?_
                                      · intro _ _; refine FreeStep.val [] _ rfl rfl fun u β W hW hn fr hfr K hK => ?_
                                        simp only [frameL, putL, Act.put, List.setIfInBounds_toArray, List.set_cons_zero, List.set_cons_succ, Nat.zero_add, Nat.reduceAdd] at hfr
                                        subst hfr
                                        have HK := Lib.hid hK
                                        clear hK hn
                                        go_simp
                                        have h9 := HK.out
                                        revert h9
                                        clear HK
                                        go_simp
                                        try exact id
                                      refine Steps.cons ?_ ?_
                                      · intro _ _; refine FreeStep.val [] _ rfl rfl fun u β W hW hn fr hfr K hK => ?_
                                        simp only [frameL, putL, Act.put, List.setIfInBounds_toArray, List.set_cons_zero, List.set_cons_succ, Nat.zero_add, Nat.reduceAdd] at hfr
                                        subst hfr
                                        have e5 : u 5 = .slice (some ⟨gr, 0, none⟩) nc kr := Have.get (k := 5) hn rfl
                                        have e6 : u 6 = .int .i64 (s : Int) := Have.get (k := 6) hn rfl
                                        simp only [e5, e6] at hK
                                        have HK := Lib.hid hK
                                        clear hK hn
                                        go_simp
                                        have h9 := HK.out
                                        revert h9
                                        clear HK
                                        go_simp
                                        try exact id
                                      refine Steps.cons ?_ ?_
                                      · intro _ _; refine FreeStep.val [] _ rfl rfl fun u β W hW hn fr hfr K hK => ?_
                                        simp only [frameL, putL, Act.put, List.setIfInBounds_toArray, List.set_cons_zero, List.set_cons_succ, Nat.zero_add, Nat.reduceAdd] at hfr
                                        subst hfr
                                        have e7 : u 7 = .pointer (some ⟨gr, s, none⟩) := Have.get (k := 7) hn rfl
                                        simp only [e7] at hK
                                        have c0 := cellL cr hW
                                        have HK := Lib.hid hK
                                        clear hK hn
                                        go_simp
                                        have h9 := HK.out
                                        revert h9
                                        clear HK
                                        go_simp
                                        try exact id
                                      refine Steps.cons ?_ ?_
                                      · intro _ _; refine FreeStep.val [] _ rfl rfl fun u β W hW hn fr hfr K hK => ?_
                                        simp only [frameL, putL, Act.put, List.setIfInBounds_toArray, List.set_cons_zero, List.set_cons_succ, Nat.zero_add, Nat.reduceAdd] at hfr
                                        subst hfr
                                        have HK := Lib.hid hK
                                        clear hK hn
                                        go_simp
                                        have h9 := HK.out
                                        revert h9
                                        clear HK
                                        go_simp
                                        try exact id
                                      refine Steps.cons ?_ ?_
                                      · intro _ _; refine FreeStep.val [] _ rfl rfl fun u β W hW hn fr hfr K hK => ?_
                                        simp only [frameL, putL, Act.put, List.setIfInBounds_toArray, List.set_cons_zero, List.set_cons_succ, Nat.zero_add, Nat.reduceAdd] at hfr
                                        subst hfr
                                        have e8 : u 8 = .slice (some ⟨g2, 0, none⟩) 2 k2 := Have.get (k := 8) hn rfl
                                        have e9 : u 9 = .int .i64 (k : Int) := Have.get (k := 9) hn rfl
                                        simp only [e8, e9] at hK
                                        have HK := Lib.hid hK
                                        clear hK hn
                                        go_simp
                                        have h9 := HK.out
                                        revert h9
                                        clear HK
                                        go_simp
                                        try exact id
                                      refine Steps.cons ?_ ?_
                                      · intro _ _; refine FreeStep.val [] _ rfl rfl fun u β W hW hn fr hfr K hK => ?_
                                        simp only [frameL, putL, Act.put, List.setIfInBounds_toArray, List.set_cons_zero, List.set_cons_succ, Nat.zero_add, Nat.reduceAdd] at hfr
                                        subst hfr
                                        have e10 : u 10 = .pointer (some ⟨g2, k, none⟩) := Have.get (k := 10) hn rfl
                                        simp only [e10] at hK
                                        have c0 := cellL cr2 hW
                                        have HK := Lib.hid hK
                                        clear hK hn
                                        go_simp
                                        have h9 := HK.out
                                        revert h9
                                        clear HK
                                        go_simp
                                        try exact id
                                      refine Steps.cons ?_ ?_
                                      · intro _ _; refine FreeStep.val [] _ rfl rfl fun u β W hW hn fr hfr K hK => ?_
                                        simp only [frameL, putL, Act.put, List.setIfInBounds_toArray, List.set_cons_zero, List.set_cons_succ, Nat.zero_add, Nat.reduceAdd] at hfr
                                        subst hfr
                                        have HK := Lib.hid hK
                                        clear hK hn
                                        go_simp
                                        have h9 := HK.out
                                        revert h9
                                        clear HK
                                        go_simp
                                        try exact id
                                      refine Steps.cons ?_ ?_
                                      · intro _ _; refine FreeStep.val [] _ rfl rfl fun u β W hW hn fr hfr K hK => ?_
                                        simp only [frameL, putL, Act.put, List.setIfInBounds_toArray, List.set_cons_zero, List.set_cons_succ, Nat.zero_add, Nat.reduceAdd] at hfr
                                        subst hfr
                                        have e12 : u 12 = .pointer (some ⟨Bc, 0, none⟩) := Have.get (k := 12) hn rfl
                                        simp only [e12] at hK
                                        have HK := Lib.hid hK
                                        clear hK hn
                                        go_simp
                                        have h9 := HK.out
                                        revert h9
                                        clear HK
                                        go_simp
                                        try exact id
                                      refine Steps.cons ?_ ?_
                                      · intro _ _; refine FreeStep.val [] _ rfl rfl fun u β W hW hn fr hfr K hK => ?_
                                        simp only [frameL, putL, Act.put, List.setIfInBounds_toArray, List.set_cons_zero, List.set_cons_succ, Nat.zero_add, Nat.reduceAdd] at hfr
                                        subst hfr
                                        have e13 : u 13 = .pointer (some ⟨Bc, 0, none⟩) := Have.get (k := 13) hn rfl
                                        simp only [e13] at hK
                                        have HK := Lib.hid hK
                                        clear hK hn
                                        go_simp
                                        have h9 := HK.out
                                        revert h9
                                        clear HK
                                        go_simp
                                        try exact id
                                      refine Steps.cons ?_ ?_
                                      · intro _ _; refine FreeStep.val [] _ rfl rfl fun u β W hW hn fr hfr K hK => ?_
                                        simp only [frameL, putL, Act.put, List.setIfInBounds_toArray, List.set_cons_zero, List.set_cons_succ, Nat.zero_add, Nat.reduceAdd] at hfr
                                        subst hfr
                                        have e14 : u 14 = .pointer (some ⟨Bc, 0, none⟩) := Have.get (k := 14) hn rfl
                                        simp only [e14] at hK
                                        have c0 := cellL xx0 hW
                                        have HK := Lib.hid hK
                                        clear hK hn
                                        go_simp
                                        have h9 := HK.out
                                        revert h9
                                        clear HK
                                        go_simp
                                        try exact id
                                      refine Steps.cons ?_ ?_
                                      · intro _ _; refine FreeStep.val [] _ rfl rfl fun u β W hW hn fr hfr K hK => ?_
                                        simp only [frameL, putL, Act.put, List.setIfInBounds_toArray, List.set_cons_zero, List.set_cons_succ, Nat.zero_add, Nat.reduceAdd] at hfr
                                        subst hfr
                                        have e11 : u 11 = .slice (some ⟨g3, 0, none⟩) (x + 1) k3 := Have.get (k := 11) hn rfl
                                        have e15 : u 15 = .int .i64 (x : Int) := Have.get (k := 15) hn rfl
                                        simp only [e11, e15] at hK
                                        have HK := Lib.hid hK
                                        clear hK hn
                                        go_simp
                                        have h9 := HK.out
                                        revert h9
                                        clear HK
                                        go_simp
                                        try exact id
                                      refine Steps.cons ?_ ?_
                                      · intro _ _; refine FreeStep.val [] _ rfl rfl fun u β W hW hn fr hfr K hK => ?_
                                        simp only [frameL, putL, Act.put, List.setIfInBounds_toArray, List.set_cons_zero, List.set_cons_succ, Nat.zero_add, Nat.reduceAdd] at hfr
                                        subst hfr
                                        have e16 : u 16 = .pointer (some ⟨g3, x, none⟩) := Have.get (k := 16) hn rfl
                                        simp only [e16] at hK
                                        have c0 := cellL cx hW
                                        have HK := Lib.hid hK
                                        clear hK hn
                                        go_simp
                                        have h9 := HK.out
                                        revert h9
                                        clear HK
                                        go_simp
                                        try exact id
                                      refine Steps.cons ?_ ?_
                                      · intro _ _; refine FreeStep.val [] _ rfl rfl fun u β W hW hn fr hfr K hK => ?_
                                        simp only [frameL, putL, Act.put, List.setIfInBounds_toArray, List.set_cons_zero, List.set_cons_succ, Nat.zero_add, Nat.reduceAdd] at hfr
                                        subst hfr
                                        have HK := Lib.hid hK
                                        clear hK hn
                                        go_simp
                                        have h9 := HK.out
                                        revert h9
                                        clear HK
                                        go_simp
                                        try exact id
                                      refine Steps.cons ?_ ?_
                                      · intro _ _; refine FreeStep.val [] _ rfl rfl fun u β W hW hn fr hfr K hK => ?_
                                        simp only [frameL, putL, Act.put, List.setIfInBounds_toArray, List.set_cons_zero, List.set_cons_succ, Nat.zero_add, Nat.reduceAdd] at hfr
                                        subst hfr
                                        have e17 : u 17 = .int .i64 rl := Have.get (k := 17) hn rfl
                                        have e18 : u 18 = .int .i64 (nd : Int) := Have.get (k := 18) hn rfl
                                        simp only [e17, e18] at hK
                                        have HK := Lib.hid hK
                                        clear hK hn
                                        go_simp
                                        have h9 := HK.out
                                        revert h9
                                        clear HK
                                        go_simp
                                        try exact id
                                      refine Steps.cons ?_ ?_
                                      · intro _ _; refine FreeStep.val [] _ rfl rfl fun u β W hW hn fr hfr K hK => ?_
                                        simp only [frameL, putL, Act.put, List.setIfInBounds_toArray, List.set_cons_zero, List.set_cons_succ, Nat.zero_add, Nat.reduceAdd] at hfr
                                        subst hfr
                                        have HK := Lib.hid hK
                                        clear hK hn
                                        go_simp
                                        have h9 := HK.out
                                        revert h9
                                        clear HK
                                        go_simp
                                        try exact id
                                      refine Steps.cons ?_ ?_
                                      · intro _ _; refine FreeStep.val [] _ rfl rfl fun u β W hW hn fr hfr K hK => ?_
                                        simp only [frameL, putL, Act.put, List.setIfInBounds_toArray, List.set_cons_zero, List.set_cons_succ, Nat.zero_add, Nat.reduceAdd] at hfr
                                        subst hfr
                                        have e20 : u 20 = .pointer (some ⟨Bd, 0, none⟩) := Have.get (k := 20) hn rfl
                                        simp only [e20] at hK
                                        have HK := Lib.hid hK
                                        clear hK hn
                                        go_simp
                                        have h9 := HK.out
                                        revert h9
                                        clear HK
                                        go_simp
                                        try exact id
                                      refine Steps.cons ?_ ?_
                                      · intro _ _; refine FreeStep.val [] _ rfl rfl fun u β W hW hn fr hfr K hK => ?_
                                        simp only [frameL, putL, Act.put, List.setIfInBounds_toArray, List.set_cons_zero, List.set_cons_succ, Nat.zero_add, Nat.reduceAdd] at hfr
                                        subst hfr
                                        have e21 : u 21 = .pointer (some ⟨Bd, 0, none⟩) := Have.get (k := 21) hn rfl
                                        simp only [e21] at hK
                                        have HK := Lib.hid hK
                                        clear hK hn
                                        go_simp
                                        have h9 := HK.out
                                        revert h9
                                        clear HK
                                        go_simp
                                        try exact id
                                      refine Steps.cons ?_ ?_
                                      · intro _ _; refine FreeStep.val [] _ rfl rfl fun u β W hW hn fr hfr K hK => ?_
                                        simp only [frameL, putL, Act.put, List.setIfInBounds_toArray, List.set_cons_zero, List.set_cons_succ, Nat.zero_add, Nat.reduceAdd] at hfr
                                        subst hfr
                                        have e22 : u 22 = .pointer (some ⟨Bd, 4, none⟩) := Have.get (k := 22) hn rfl
                                        simp only [e22] at hK
                                        have c0 := cellL zz4 hW
                                        have HK := Lib.hid hK
                                        clear hK hn
                                        go_simp
                                        have h9 := HK.out
                                        revert h9
                                        clear HK
                                        go_simp
                                        try exact id
                                      refine Steps.cons ?_ ?_
                                      · intro _ _; refine FreeStep.val [] _ rfl rfl fun u β W hW hn fr hfr K hK => ?_
                                        simp only [frameL, putL, Act.put, List.setIfInBounds_toArray, List.set_cons_zero, List.set_cons_succ, Nat.zero_add, Nat.reduceAdd] at hfr
                                        subst hfr
                                        have HK := Lib.hid hK
                                        clear hK hn
                                        go_simp
                                        have h9 := HK.out
                                        revert h9
                                        clear HK
                                        go_simp
                                        try exact id
                                      refine Steps.cons ?_ ?_
                                      · intro _ _; refine FreeStep.val [] _ rfl rfl fun u β W hW hn fr hfr K hK => ?_
                                        simp only [frameL, putL, Act.put, List.setIfInBounds_toArray, List.set_cons_zero, List.set_cons_succ, Nat.zero_add, Nat.reduceAdd] at hfr
                                        subst hfr
                                        have e23 : u 23 = .slice (some ⟨hr, 0, none⟩) nd lr := Have.get (k := 23) hn rfl
                                        have e24 : u 24 = .int .i64 (t : Int) := Have.get (k := 24) hn rfl
                                        simp only [e23, e24] at hK
                                        have HK := Lib.hid hK
                                        clear hK hn
                                        go_simp
                                        have h9 := HK.out
                                        revert h9
                                        clear HK
                                        go_simp
                                        try exact id
                                      refine Steps.cons ?_ ?_
                                      · intro _ _; refine FreeStep.val [] _ rfl rfl fun u β W hW hn fr hfr K hK => ?_
                                        simp only [frameL, putL, Act.put, List.setIfInBounds_toArray, List.set_cons_zero, List.set_cons_succ, Nat.zero_add, Nat.reduceAdd] at hfr
                                        subst hfr
                                        have e25 : u 25 = .pointer (some ⟨hr, t, none⟩) := Have.get (k := 25) hn rfl
                                        simp only [e25] at hK
                                        have c0 := cellL cr' hW
                                        have HK := Lib.hid hK
                                        clear hK hn
                                        go_simp
                                        have h9 := HK.out
                                        revert h9
                                        clear HK
                                        go_simp
                                        try exact id
                                      refine Steps.cons ?_ ?_
                                      · intro _ _; refine FreeStep.val [] _ rfl rfl fun u β W hW hn fr hfr K hK => ?_
                                        simp only [frameL, putL, Act.put, List.setIfInBounds_toArray, List.set_cons_zero, List.set_cons_succ, Nat.zero_add, Nat.reduceAdd] at hfr
                                        subst hfr
                                        have HK := Lib.hid hK
                                        clear hK hn
                                        go_simp
                                        have h9 := HK.out
                                        revert h9
                                        clear HK
                                        go_simp
                                        try exact id
                                      refine Steps.cons ?_ ?_
                                      · intro _ _; refine FreeStep.val [] _ rfl rfl fun u β W hW hn fr hfr K hK => ?_
                                        simp only [frameL, putL, Act.put, List.setIfInBounds_toArray, List.set_cons_zero, List.set_cons_succ, Nat.zero_add, Nat.reduceAdd] at hfr
                                        subst hfr
                                        have e26 : u 26 = .slice (some ⟨g2', 0, none⟩) 2 k2' := Have.get (k := 26) hn rfl
                                        have e27 : u 27 = .int .i64 (k : Int) := Have.get (k := 27) hn rfl
                                        simp only [e26, e27] at hK
                                        have HK := Lib.hid hK
                                        clear hK hn
                                        go_simp
                                        have h9 := HK.out
                                        revert h9
                                        clear HK
                                        go_simp
                                        try exact id
                                      refine Steps.cons ?_ ?_
                                      · intro _ _; refine FreeStep.val [] _ rfl rfl fun u β W hW hn fr hfr K hK => ?_
                                        simp only [frameL, putL, Act.put, List.setIfInBounds_toArray, List.set_cons_zero, List.set_cons_succ, Nat.zero_add, Nat.reduceAdd] at hfr
                                        subst hfr
                                        have e28 : u 28 = .pointer (some ⟨g2', k, none⟩) := Have.get (k := 28) hn rfl
                                        simp only [e28] at hK
                                        have c0 := cellL cr2' hW
                                        have HK := Lib.hid hK
                                        clear hK hn
                                        go_simp
                                        have h9 := HK.out
                                        revert h9
                                        clear HK
                                        go_simp
                                        try exact id
                                      refine Steps.cons ?_ ?_
                                      · intro _ _; refine FreeStep.val [] _ rfl rfl fun u β W hW hn fr hfr K hK => ?_
                                        simp only [frameL, putL, Act.put, List.setIfInBounds_toArray, List.set_cons_zero, List.set_cons_succ, Nat.zero_add, Nat.reduceAdd] at hfr
                                        subst hfr
                                        have HK := Lib.hid hK
                                        clear hK hn
                                        go_simp
                                        have h9 := HK.out
                                        revert h9
                                        clear HK
                                        go_simp
                                        try exact id
                                      refine Steps.cons ?_ ?_
                                      · intro _ _; refine FreeStep.val [] _ rfl rfl fun u β W hW hn fr hfr K hK => ?_
                                        simp only [frameL, putL, Act.put, List.setIfInBounds_toArray, List.set_cons_zero, List.set_cons_succ, Nat.zero_add, Nat.reduceAdd] at hfr
                                        subst hfr
                                        have e29 : u 29 = .slice (some ⟨g3', 0, none⟩) (M + 1) k3' := Have.get (k := 29) hn rfl
                                        have e30 : u 30 = .int .i64 (M : Int) := Have.get (k := 30) hn rfl
                                        simp only [e29, e30] at hK
                                        have HK := Lib.hid hK
                                        clear hK hn
                                        go_simp
                                        have h9 := HK.out
                                        revert h9
                                        clear HK
                                        go_simp
                                        try exact id
                                      refine Steps.cons ?_ ?_
                                      · intro _ _; refine FreeStep.val [] _ rfl rfl fun u β W hW hn fr hfr K hK => ?_
                                        simp only [frameL, putL, Act.put, List.setIfInBounds_toArray, List.set_cons_zero, List.set_cons_succ, Nat.zero_add, Nat.reduceAdd] at hfr
                                        subst hfr
                                        have e31 : u 31 = .pointer (some ⟨g3', M, none⟩) := Have.get (k := 31) hn rfl
                                        simp only [e31] at hK
                                        have c0 := cellL cy hW
                                        have HK := Lib.hid hK
                                        clear hK hn
                                        go_simp
                                        have h9 := HK.out
                                        revert h9
                                        clear HK
                                        go_simp
                                        try exact id
                                      refine Steps.cons ?_ ?_
                                      · intro _ _; refine FreeStep.val [] _ rfl rfl fun u β W hW hn fr hfr K hK => ?_
                                        simp only [frameL, putL, Act.put, List.setIfInBounds_toArray, List.set_cons_zero, List.set_cons_succ, Nat.zero_add, Nat.reduceAdd] at hfr
                                        subst hfr
                                        have e19 : u 19 = .int .i64 (rl * (nd : Int)) := Have.get (k := 19) hn rfl
                                        have e32 : u 32 = .int .i64 rl' := Have.get (k := 32) hn rfl
                                        simp only [e19, e32] at hK
                                        have HK := Lib.hid hK
                                        clear hK hn
                                        go_simp
                                        have h9 := HK.out
                                        revert h9
                                        clear HK
                                        go_simp
                                        try exact id
                                      refine Steps.cons ?_ ?_
                                      · intro _ _; refine FreeStep.own (base := wr.heap.size) rfl (lit_ok _ _ _ _) fun u β W hW hn fr hfr K hK => ?_
                                        simp only [frameL, putL, Act.put, List.setIfInBounds_toArray, List.set_cons_zero, List.set_cons_succ, Nat.zero_add, Nat.reduceAdd] at hfr
                                        subst hfr
                                        have e33 : u 33 = .int .i64 (rl * (nd : Int) + rl') := Have.get (k := 33) hn rfl
                                        simp only [e33] at hK
                                        have hsz := hW.size
                                        have HK := Lib.hid hK
                                        clear hK hn
                                        go_simp
                                        exact HK.out _ [W.heap.size] _ ((Below.refl _ _).alloc (Nat.le_refl _) _) (LitE.new _ _ _ W hsz) (fun b hb => by rw [List.mem_singleton.1 hb]; exact Nat.le_refl _)
                                      refine Steps.cons ?_ ?_
                                      · exact fun h => absurd h (by decide)
                                      refine Steps.cons ?_ ?_
                                      · exact fun h => absurd h (by decide)
                                      refine Steps.cons ?_ ?_
                                      · exact fun h => absurd h (by decide)
                                      refine Steps.cons ?_ ?_
                                      · exact fun h => absurd h (by decide)
                                      exact Steps.nil
                                    case tailR =>
                                      intro u β W hW hn hdis hbnd fr hfr
                                      simp only [frameL, putL, Act.put, List.setIfInBounds_toArray, List.set_cons_zero, List.set_cons_succ, Nat.zero_add, Nat.reduceAdd] at hfr
                                      subst hfr
                                      have z0 : u 0 = .slice Ar k kpr := Have.get (k := 0) hn rfl
                                      have z1 : u 1 = .slice Av (x * M) kv := Have.get (k := 1) hn rfl
                                      have z2 : u 2 = .pointer (some ⟨Bc, 0, none⟩) := Have.get (k := 2) hn rfl
                                      have z3 : u 3 = .pointer (some ⟨Bc, 0, none⟩) := Have.get (k := 3) hn rfl
                                      have z4 : u 4 = .pointer (some ⟨Bc, 4, none⟩) := Have.get (k := 4) hn rfl
                                      have z5 : u 5 = .slice (some ⟨gr, 0, none⟩) nc kr := Have.get (k := 5) hn rfl
                                      have z6 : u 6 = .int .i64 (s : Int) := Have.get (k := 6) hn rfl
                                      have z7 : u 7 = .pointer (some ⟨gr, s, none⟩) := Have.get (k := 7) hn rfl
                                      have z8 : u 8 = .slice (some ⟨g2, 0, none⟩) 2 k2 := Have.get (k := 8) hn rfl
                                      have z9 : u 9 = .int .i64 (k : Int) := Have.get (k := 9) hn rfl
                                      have z10 : u 10 = .pointer (some ⟨g2, k, none⟩) := Have.get (k := 10) hn rfl
                                      have z11 : u 11 = .slice (some ⟨g3, 0, none⟩) (x + 1) k3 := Have.get (k := 11) hn rfl
                                      have z12 : u 12 = .pointer (some ⟨Bc, 0, none⟩) := Have.get (k := 12) hn rfl
                                      have z13 : u 13 = .pointer (some ⟨Bc, 0, none⟩) := Have.get (k := 13) hn rfl
                                      have z14 : u 14 = .pointer (some ⟨Bc, 0, none⟩) := Have.get (k := 14) hn rfl
                                      have z15 : u 15 = .int .i64 (x : Int) := Have.get (k := 15) hn rfl
                                      have z16 : u 16 = .pointer (some ⟨g3, x, none⟩) := Have.get (k := 16) hn rfl
                                      have z17 : u 17 = .int .i64 rl := Have.get (k := 17) hn rfl
                                      have z18 : u 18 = .int .i64 (nd : Int) := Have.get (k := 18) hn rfl
                                      have z19 : u 19 = .int .i64 (rl * (nd : Int)) := Have.get (k := 19) hn rfl
                                      have z20 : u 20 = .pointer (some ⟨Bd, 0, none⟩) := Have.get (k := 20) hn rfl
                                      have z21 : u 21 = .pointer (some ⟨Bd, 0, none⟩) := Have.get (k := 21) hn rfl
                                      have z22 : u 22 = .pointer (some ⟨Bd, 4, none⟩) := Have.get (k := 22) hn rfl
                                      have z23 : u 23 = .slice (some ⟨hr, 0, none⟩) nd lr := Have.get (k := 23) hn rfl
                                      have z24 : u 24 = .int .i64 (t : Int) := Have.get (k := 24) hn rfl
                                      have z25 : u 25 = .pointer (some ⟨hr, t, none⟩) := Have.get (k := 25) hn rfl
                                      have z26 : u 26 = .slice (some ⟨g2', 0, none⟩) 2 k2' := Have.get (k := 26) hn rfl
                                      have z27 : u 27 = .int .i64 (k : Int) := Have.get (k := 27) hn rfl
                                      have z28 : u 28 = .pointer (some ⟨g2', k, none⟩) := Have.get (k := 28) hn rfl
                                      have z29 : u 29 = .slice (some ⟨g3', 0, none⟩) (M + 1) k3' := Have.get (k := 29) hn rfl
                                      have z30 : u 30 = .int .i64 (M : Int) := Have.get (k := 30) hn rfl
                                      have z31 : u 31 = .pointer (some ⟨g3', M, none⟩) := Have.get (k := 31) hn rfl
                                      have z32 : u 32 = .int .i64 rl' := Have.get (k := 32) hn rfl
                                      have z33 : u 33 = .int .i64 (rl * (nd : Int) + rl') := Have.get (k := 33) hn rfl
                                      have f34 : (LitE wr.heap.size 2 #[.int .i64 (rl * (nd : Int) + rl')] 1) W (u 34) () (β 34) := Have.get (k := 34) hn rfl
                                      clear hn hdis hbnd
                                      show wpOps _ _ _ [35, 36, 37, 38] _ _
                                      obtain ⟨bo, go, hbo, _, hlo⟩ := f34
                                      obtain ⟨hrowE, hbx6, hrow, hlP, hpr, _⟩ := HY.out
                                      have hrowW : IntsE w6.heap.size W _ _ e := (ints_ok _).later hrowE hW
                                      have hbW := hbx6.trans (hW.mono hbx6.size)
                                      have hrW := hrowW.1
                                      rw [hlP] at hrW
                                      have hsW := hW.size
                                      have HY2 := Lib.hid (And.intro hrowW (And.intro hbW (And.intro hrW (And.intro hlP hpr))))
                                      clear hrowE hbx6 hrow hlP hpr hrowW hbW hrW HY
                                      rw [wpOps_cons]
                                      refine wpOp_step rfl (fun K hK => ?_)
                                      refine step_append_lies _ rfl _ _ 38 rfl w6.heap.size 2 i0 (.int .i64 0) 1 8 Try.underlying38 hi0 hz0 hz1 hz2 rfl (by decide) _ (x * M) _ z1 HY2.out.2.2.1 ⟨bo, 0, none⟩ 1 1 [.int .i64 (rl * (nd : Int) + rl')] go rfl (World.news_of_block hbo) (one_sing rfl) (by decide) ?c1 ?c2 ?c3 _ rfl ?_
                                      case c1 => unfold maxLen; omega
                                      case c2 => omega
                                      case c3 => omega
                                      intro g1 cap1 w7 hown hg5 hat hltg
                                      refine hK _ _ ?_
                                      have hB7 := HY2.out.2.1.grown hg5 (by omega) (fun k hk => ((ints_ok _).lt HY2.out.1 k (by have e1_ := HY2.out.1.2; rw [HY2.out.2.2.2.1] at e1_; rw [e1_, hk]; simp)).1)
                                      have hS7 : IntsE w6.heap.size w7 (.slice (some ⟨g1, 0, none⟩) (x * M + 1) cap1) (pairR nd r r') [g1] := by
                                        refine ⟨?_, rfl⟩
                                        rw [HY2.out.2.2.2.2, List.length_append, HY2.out.2.2.2.1, List.flatMap_append]
                                        exact hown
                                      have h67 : w6.heap.size ≤ w7.heap.size := hB7.size
                                      have hn8 := (Below.refl w7.heap.size w7).alloc (Nat.le_refl _) (.cells #[.slice (some ⟨g1, 0, none⟩) (x * M + 1) cap1] 38)
                                      have hTri8 := HT6.out.1.later hZ6 (hB7.trans (hn8.mono h67))
                                      obtain ⟨vs, hrow8, _⟩ := hTri8.r.held
                                      rw [HZ.out.2.1] at hrow8
                                      have HW8 := Lib.hid (And.intro hTri8 (And.intro hrow8 (And.intro ((ints_ok _).later hS7 hn8) (hB7.trans (hn8.mono h67)))))
                                      clear hK hown hg5 hat hS7 hB7 HY2 hTri8 hrow8 hn8
                                      rw [wpOps_cons]
                                      refine wpOp_step rfl (fun K2 hK => ?_)
                                      go_simp
                                      refine hK _ _ ?_
                                      clear hK
                                      rw [wpOps_cons]
                                      refine wpOp_step rfl (fun K3 hK => ?_)
                                      refine step_append_lies _ rfl _ _ 25 rfl X1.heap.size 38 i2 (.slice none 0 0) 1 24 Try.underlying25 hi2 ho0 ho1 ho2 rfl (by decide) _ k _ rfl HW8.out.2.1 ⟨w7.heap.size, 0, none⟩ 1 1 [.slice (some ⟨g1, 0, none⟩) (x * M + 1) cap1] rfl rfl (World.news_of_block (Bx.new w7 _ _)) (one_sing rfl) (by decide) ?d1 ?d2 ?d3 _ rfl ?_
                                      case d1 => unfold maxLen; omega
                                      case d2 => omega
                                      case d3 => simp only [World.size_alloc]; omega
                                      intro g9 cap9 w9 hown hg9 hat hltg9
                                      refine hK _ _ ?_
                                      obtain ⟨hTri8, hrow8, hS8, hB8⟩ := HW8.out
                                      have l7 := fun b hb => ((ints_ok _).lt hS8 b hb).1
                                      have lp6 := fun b hb => ((push_ok _).lt HT6.out.1.p b hb).2
                                      have lr6 := fun b hb => ((ints2_ok _).lt HT6.out.1.r b hb).2
                                      have li6 := fun b hb => ((ints_ok _).lt HT6.out.1.i b hb).2
                                      have hTri9 := Tri.addR hTri8 (by simp only [World.size_alloc]; omega) HZ.out.2.1 (ints_base hZ6 _ _ _ _ hS8) (fun b h1 h2 => by have := l7 b h2; have := lp6 b h1; omega) (fun b h1 h2 => by have := l7 b h2; have := lr6 b h1; omega) (fun b h1 h2 => by have := l7 b h2; have := li6 b h1; omega) hrow8 hown hg9 hat
                                      rw [← HZ.out.2.2.2.2.1] at hTri9
                                      obtain ⟨e2_, hTri9⟩ := hTri9
                                      have HT9 := Lib.hid hTri9
                                      clear hK hown hg9 hat hTri9 hTri8 hrow8 hS8 hB8 l7 lp6 lr6 li6 HW8
                                      rw [wpOps_cons]
                                      refine wpOp_step rfl (fun K4 hK => ?_)
                                      go_simp
                                      refine hK _ _ ?_
                                      clear hK
                                      unfold wpOps
                                      clear go hbo hlo hltg hltg9 ew8 ew9 cr cr2 cr' cr2' cx cy xx0 xx4 zz4
                                      generalize u 0 = s300 at *; generalize u 1 = s301 at *; generalize u 2 = s302 at *; generalize u 3 = s303 at *; generalize u 4 = s304 at *; generalize u 5 = s305 at *; generalize u 6 = s306 at *; generalize u 7 = s307 at *; generalize u 8 = s308 at *; generalize u 9 = s309 at *; generalize u 10 = s310 at *; generalize u 11 = s311 at *; generalize u 12 = s312 at *; generalize u 13 = s313 at *; generalize u 14 = s314 at *; generalize u 15 = s315 at *; generalize u 16 = s316 at *; generalize u 17 = s317 at *; generalize u 18 = s318 at *; generalize u 19 = s319 at *; generalize u 20 = s320 at *; generalize u 21 = s321 at *; generalize u 22 = s322 at *; generalize u 23 = s323 at *; generalize u 24 = s324 at *; generalize u 25 = s325 at *; generalize u 26 = s326 at *; generalize u 27 = s327 at *; generalize u 28 = s328 at *; generalize u 29 = s329 at *; generalize u 30 = s330 at *; generalize u 31 = s331 at *; generalize u 32 = s332 at *; generalize u 33 = s333 at *; generalize u 34 = s334 at *
                                      have hB9 := HB1.out.trans (HT9.out.below.mono hZw)
                                      have h9s := HT9.out.below.size
                                      obtain ⟨x0, x1, x2, x3, x4, x5, xl⟩ := (HBc.out.later hB9).all6
                                      obtain ⟨z0, z1, z2, z3, z4, z5, zl⟩ := (HBd.out.later hB9).all6
                                      obtain ⟨_, _, _, ci, cj, ci', cj'⟩ := HF.out w9 hB9
                                      have xx5 := x5
                                      have zz5 := z5
                                      obtain ⟨_, _, smz, smz'⟩ := HSM.out
                                      have ew8 := wrap_mul smz smn
                                      have ew9 := wrap_mad smz smn smz'
                                      have hrow := HT9.out.i.1
                                      rw [HZ.out.2.2.1] at hrow
                                      have HRI := Lib.hid hrow
                                      clear hB9 x0 x1 x2 x3 x4 x5 xl z0 z1 z2 z3 z4 z5 zl smz smz' hrow
                                      go_upto_region 32 with fail
                                      refine wp_region_free_seq2 (by kernel_rfl) [
                                          .val [] (fun _ => .slice Ai k kpi),
                                          .val [] (fun _ => .pointer (some ⟨Bc, 0, none⟩)),
                                          .val [] (fun _ => .pointer (some ⟨Bc, 0, none⟩)),
                                          .val [] (fun _ => .pointer (some ⟨Bc, 5, none⟩)),
                                          .val [] (fun _ => .slice (some ⟨gi, 0, none⟩) nc ki),
                                          .val [] (fun _ => .int .i64 (s : Int)),
                                          .val [] (fun _ => .pointer (some ⟨gi, s, none⟩)),
                                          .val [] (fun _ => .slice (some ⟨gj, 0, none⟩) 2 kj),
                                          .val [] (fun _ => .int .i64 (k : Int)),
                                          .val [] (fun _ => .pointer (some ⟨gj, k, none⟩)),
                                          .val [] (fun _ => .int .i64 zi),
                                          .val [] (fun _ => .int .i64 (nd : Int)),
                                          .val [] (fun _ => .int .i64 (zi * (nd : Int))),
                                          .val [] (fun _ => .pointer (some ⟨Bd, 0, none⟩)),
                                          .val [] (fun _ => .pointer (some ⟨Bd, 0, none⟩)),
                                          .val [] (fun _ => .pointer (some ⟨Bd, 5, none⟩)),
                                          .val [] (fun _ => .slice (some ⟨hi, 0, none⟩) nd li),
                                          .val [] (fun _ => .int .i64 (t : Int)),
                                          .val [] (fun _ => .pointer (some ⟨hi, t, none⟩)),
                                          .val [] (fun _ => .slice (some ⟨gj', 0, none⟩) 2 kj'),
                                          .val [] (fun _ => .int .i64 (k : Int)),
                                          .val [] (fun _ => .pointer (some ⟨gj', k, none⟩)),
                                          .val [] (fun _ => .int .i64 zi'),
                                          .val [] (fun _ => .int .i64 (zi * (nd : Int) + zi')),
                                          .own (LitE w9.heap.size 2 #[.int .i64 (zi * (nd : Int) + zi')] 1) ()] 25 0 (.slice Ai k kpi) rfl ?hsel ?hfree ?hready (fun c a w h => h) ?hy rfl rfl ?hp ?hfw ?deps ?oks ?hforced ?hf ?steps ?tailR
                                      case hsel => kernel_rfl
                                      case hfree => kernel_rfl
                                      case hready => kernel_rfl
                                      case hforced => kernel_rfl
                                      case hf => kernel_rfl
                                      case hy => exact Or.inl ⟨by first | rfl | go_simp, fun w => by first | rfl | go_simp⟩
                                      case hp => kernel_rfl
                                      case hfw => kernel_rfl
                                      case deps => kernel_rfl
                                      case oks =>
                                        intro F hF
                                        simp only [List.mem_cons, List.not_mem_nil, or_false] at hF
                                        rcases hF with rfl | rfl | rfl | rfl | rfl | rfl | rfl | rfl | rfl | rfl | rfl | rfl | rfl | rfl | rfl | rfl | rfl | rfl | rfl | rfl | rfl | rfl | rfl | rfl | rfl
                                        · trivial
                                        · trivial
                                        · trivial
                                        · trivial
                                        · trivial
                                        · trivial
                                        · trivial
                                        · trivial
                                        · trivial
                                        · trivial
                                        · trivial
                                        · trivial
                                        · trivial
                                        · trivial
                                        · trivial
                                        · trivial
                                        · trivial
                                        · trivial
                                        · trivial
                                        · trivial
                                        · trivial
                                        · trivial
                                        · trivial
                                        · trivial
                                        · exact ⟨_, lit_ok _ _ _ _⟩
                                      case steps =>
                                        refine Steps.cons ?_ ?_
                                        · exact fun _ h => absurd rfl h
                                        refine Steps.cons ?_ ?_
                                        · intro _ _; refine FreeStep.val [] _ rfl rfl fun u β W hW hn fr hfr K hK => ?_
                                          simp only [frameL, putL, Act.put, List.setIfInBounds_toArray, List.set_cons_zero, List.set_cons_succ, Nat.zero_add, Nat.reduceAdd] at hfr
                                          subst hfr
                                          have HK := Lib.hid hK
                                          clear hK hn
                                          go_simp
                                          have h9 := HK.out
                                          revert h9
                                          clear HK
                                          go_simp
                                          try exact id
                                        refine Steps.cons ?_ ?_
                                        · intro _ _; refine FreeStep.val [] _ rfl rfl fun u β W hW hn fr hfr K hK => ?_
                                          simp only [frameL, putL, Act.put, List.setIfInBounds_toArray, List.set_cons_zero, List.set_cons_succ, Nat.zero_add, Nat.reduceAdd] at hfr
                                          subst hfr
                                          have e1 : u 1 = .pointer (some ⟨Bc, 0, none⟩) := Have.get (k := 1) hn rfl
                                          simp only [e1] at hK
                                          have HK := Lib.hid hK
                                          clear hK hn
                                          go_simp
                                          have h9 := HK.out
                                          revert h9
                                          clear HK
                                          go_simp
                                          try exact id
                                        refine Steps.cons ?_ ?_
                                        · intro _ _; refine FreeStep.val [] _ rfl rfl fun u β W hW hn fr hfr K hK => ?_
                                          simp only [frameL, putL, Act.put, List.setIfInBounds_toArray, List.set_cons_zero, List.set_cons_succ, Nat.zero_add, Nat.reduceAdd] at hfr
                                          subst hfr
                                          have e2 : u 2 = .pointer (some ⟨Bc, 0, none⟩) := Have.get (k := 2) hn rfl
                                          simp only [e2] at hK
                                          have HK := Lib.hid hK
                                          clear hK hn
                                          go_simp
                                          have h9 := HK.out
                                          revert h9
                                          clear HK
                                          go_simp
                                          try exact id
                                        refine Steps.cons ?_ ?_
                                        · intro _ _; refine FreeStep.val [] _ rfl rfl fun u β W hW hn fr hfr K hK => ?_
                                          simp only [frameL, putL, Act.put, List.setIfInBounds_toArray, List.set_cons_zero, List.set_cons_succ, Nat.zero_add, Nat.reduceAdd] at hfr
                                          subst hfr
                                          have e3 : u 3 = .pointer (some ⟨Bc, 5, none⟩) := Have.get (k := 3) hn rfl
                                          simp only [e3] at hK
                                          have c0 := cellL xx5 hW
                                          have HK := Lib.hid hK
                                          clear hK hn
                                          go_simp
                                          have h9 := HK.out
                                          revert h9
                                          clear HK
                                          go_simp
                                          try exact id
                                        refine Steps.cons ?_ ?_
                                        · intro _ _; refine FreeStep.val [] _ rfl rfl fun u β W hW hn fr hfr K hK => ?_
                                          simp only [frameL, putL, Act.put, List.setIfInBounds_toArray, List.set_cons_zero, List.set_cons_succ, Nat.zero_add, Nat.reduceAdd] at hfr
                                          subst hfr
                                          have HK := Lib.hid hK
                                          clear hK hn
                                          go_simp
                                          have h9 := HK.out
                                          revert h9
                                          clear HK
                                          go_simp
                                          try exact id
                                        refine Steps.cons ?_ ?_
                                        · intro _ _; refine FreeStep.val [] _ rfl rfl fun u β W hW hn fr hfr K hK => ?_
                                          simp only [frameL, putL, Act.put, List.setIfInBounds_toArray, List.set_cons_zero, List.set_cons_succ, Nat.zero_add, Nat.reduceAdd] at hfr
                                          subst hfr
                                          have e4 : u 4 = .slice (some ⟨gi, 0, none⟩) nc ki := Have.get (k := 4) hn rfl
                                          have e5 : u 5 = .int .i64 (s : Int) := Have.get (k := 5) hn rfl
                                          simp only [e4, e5] at hK
                                          have HK := Lib.hid hK
                                          clear hK hn
                                          go_simp
                                          have h9 := HK.out
                                          revert h9
                                          clear HK
                                          go_simp
                                          try exact id
                                        refine Steps.cons ?_ ?_
                                        · intro _ _; refine FreeStep.val [] _ rfl rfl fun u β W hW hn fr hfr K hK => ?_
                                          simp only [frameL, putL, Act.put, List.setIfInBounds_toArray, List.set_cons_zero, List.set_cons_succ, Nat.zero_add, Nat.reduceAdd] at hfr
                                          subst hfr
                                          have e6 : u 6 = .pointer (some ⟨gi, s, none⟩) := Have.get (k := 6) hn rfl
                                          simp only [e6] at hK
                                          have c0 := cellL ci hW
                                          have HK := Lib.hid hK
                                          clear hK hn
                                          go_simp
                                          have h9 := HK.out
                                          revert h9
                                          clear HK
                                          go_simp
                                          try exact id
                                        refine Steps.cons ?_ ?_
                                        · intro _ _; refine FreeStep.val [] _ rfl rfl fun u β W hW hn fr hfr K hK => ?_
                                          simp only [frameL, putL, Act.put, List.setIfInBounds_toArray, List.set_cons_zero, List.set_cons_succ, Nat.zero_add, Nat.reduceAdd] at hfr
                                          subst hfr
                                          have HK := Lib.hid hK
                                          clear hK hn
                                          go_simp
                                          have h9 := HK.out
                                          revert h9
                                          clear HK
                                          go_simp
                                          try exact id
                                        refine Steps.cons ?_ ?_
                                        · intro _ _; refine FreeStep.val [] _ rfl rfl fun u β W hW hn fr hfr K hK => ?_
                                          simp only [frameL, putL, Act.put, List.setIfInBounds_toArray, List.set_cons_zero, List.set_cons_succ, Nat.zero_add, Nat.reduceAdd] at hfr
                                          subst hfr
                                          have e7 : u 7 = .slice (some ⟨gj, 0, none⟩) 2 kj := Have.get (k := 7) hn rfl
                                          have e8 : u 8 = .int .i64 (k : Int) := Have.get (k := 8) hn rfl
                                          simp only [e7, e8] at hK
                                          have HK := Lib.hid hK
                                          clear hK hn
                                          go_simp
                                          have h9 := HK.out
                                          revert h9
                                          clear HK
                                          go_simp
                                          try exact id
                                        refine Steps.cons ?_ ?_
                                        · intro _ _; refine FreeStep.val [] _ rfl rfl fun u β W hW hn fr hfr K hK => ?_
                                          simp only [frameL, putL, Act.put, List.setIfInBounds_toArray, List.set_cons_zero, List.set_cons_succ, Nat.zero_add, Nat.reduceAdd] at hfr
                                          subst hfr
                                          have e9 : u 9 = .pointer (some ⟨gj, k, none⟩) := Have.get (k := 9) hn rfl
                                          simp only [e9] at hK
                                          have c0 := cellL cj hW
                                          have HK := Lib.hid hK
                                          clear hK hn
                                          go_simp
                                          have h9 := HK.out
                                          revert h9
                                          clear HK
                                          go_simp
                                          try exact id
                                        refine Steps.cons ?_ ?_
                                        · intro _ _; refine FreeStep.val [] _ rfl rfl fun u β W hW hn fr hfr K hK => ?_
                                          simp only [frameL, putL, Act.put, List.setIfInBounds_toArray, List.set_cons_zero, List.set_cons_succ, Nat.zero_add, Nat.reduceAdd] at hfr
                                          subst hfr
                                          have HK := Lib.hid hK
                                          clear hK hn
                                          go_simp
                                          have h9 := HK.out
                                          revert h9
                                          clear HK
                                          go_simp
                                          try exact id
                                        refine Steps.cons ?_ ?_
                                        · intro _ _; refine FreeStep.val [] _ rfl rfl fun u β W hW hn fr hfr K hK => ?_
                                          simp only [frameL, putL, Act.put, List.setIfInBounds_toArray, List.set_cons_zero, List.set_cons_succ, Nat.zero_add, Nat.reduceAdd] at hfr
                                          subst hfr
                                          have e10 : u 10 = .int .i64 zi := Have.get (k := 10) hn rfl
                                          have e11 : u 11 = .int .i64 (nd : Int) := Have.get (k := 11) hn rfl
                                          simp only [e10, e11] at hK
                                          have HK := Lib.hid hK
                                          clear hK hn
                                          go_simp
                                          have h9 := HK.out
                                          revert h9
                                          clear HK
                                          go_simp
                                          try exact id
                                        refine Steps.cons ?_ ?_
                                        · intro _ _; refine FreeStep.val [] _ rfl rfl fun u β W hW hn fr hfr K hK => ?_
                                          simp only [frameL, putL, Act.put, List.setIfInBounds_toArray, List.set_cons_zero, List.set_cons_succ, Nat.zero_add, Nat.reduceAdd] at hfr
                                          subst hfr
                                          have HK := Lib.hid hK
                                          clear hK hn
                                          go_simp
                                          have h9 := HK.out
                                          revert h9
                                          clear HK
                                          go_simp
                                          try exact id
                                        refine Steps.cons ?_ ?_
                                        · intro _ _; refine FreeStep.val [] _ rfl rfl fun u β W hW hn fr hfr K hK => ?_
                                          simp only [frameL, putL, Act.put, List.setIfInBounds_toArray, List.set_cons_zero, List.set_cons_succ, Nat.zero_add, Nat.reduceAdd] at hfr
                                          subst hfr
                                          have e13 : u 13 = .pointer (some ⟨Bd, 0, none⟩) := Have.get (k := 13) hn rfl
                                          simp only [e13] at hK
                                          have HK := Lib.hid hK
                                          clear hK hn
                                          go_simp
                                          have h9 := HK.out
                                          revert h9
                                          clear HK
                                          go_simp
                                          try exact id
                                        refine Steps.cons ?_ ?_
                                        · intro _ _; refine FreeStep.val [] _ rfl rfl fun u β W hW hn fr hfr K hK => ?_
                                          simp only [frameL, putL, Act.put, List.setIfInBounds_toArray, List.set_cons_zero, List.set_cons_succ, Nat.zero_add, Nat.reduceAdd] at hfr
                                          subst hfr
                                          have e14 : u 14 = .pointer (some ⟨Bd, 0, none⟩) := Have.get (k := 14) hn rfl
                                          simp only [e14] at hK
                                          have HK := Lib.hid hK
                                          clear hK hn
                                          go_simp
                                          have h9 := HK.out
                                          revert h9
                                          clear HK
                                          go_simp
                                          try exact id
                                        refine Steps.cons ?_ ?_
                                        · intro _ _; refine FreeStep.val [] _ rfl rfl fun u β W hW hn fr hfr K hK => ?_
                                          simp only [frameL, putL, Act.put, List.setIfInBounds_toArray, List.set_cons_zero, List.set_cons_succ, Nat.zero_add, Nat.reduceAdd] at hfr
                                          subst hfr
                                          have e15 : u 15 = .pointer (some ⟨Bd, 5, none⟩) := Have.get (k := 15) hn rfl
                                          simp only [e15] at hK
                                          have c0 := cellL zz5 hW
                                          have HK := Lib.hid hK
                                          clear hK hn
                                          go_simp
                                          have h9 := HK.out
                                          revert h9
                                          clear HK
                                          go_simp
                                          try exact id
                                        refine Steps.cons ?_ ?_
                                        · intro _ _; refine FreeStep.val [] _ rfl rfl fun u β W hW hn fr hfr K hK => ?_
                                          simp only [frameL, putL, Act.put, List.setIfInBounds_toArray, List.set_cons_zero, List.set_cons_succ, Nat.zero_add, Nat.reduceAdd] at hfr
                                          subst hfr
                                          have HK := Lib.hid hK
                                          clear hK hn
                                          go_simp
                                          have h9 := HK.out
                                          revert h9
                                          clear HK
                                          go_simp
                                          try exact id
                                        refine Steps.cons ?_ ?_
                                        · intro _ _; refine FreeStep.val [] _ rfl rfl fun u β W hW hn fr hfr K hK => ?_
                                          simp only [frameL, putL, Act.put, List.setIfInBounds_toArray, List.set_cons_zero, List.set_cons_succ, Nat.zero_add, Nat.reduceAdd] at hfr
                                          subst hfr
                                          have e16 : u 16 = .slice (some ⟨hi, 0, none⟩) nd li := Have.get (k := 16) hn rfl
                                          have e17 : u 17 = .int .i64 (t : Int) := Have.get (k := 17) hn rfl
                                          simp only [e16, e17] at hK
                                          have HK := Lib.hid hK
                                          clear hK hn
                                          go_simp
                                          have h9 := HK.out
                                          revert h9
                                          clear HK
                                          go_simp
                                          try exact id
                                        refine Steps.cons ?_ ?_
                                        · intro _ _; refine FreeStep.val [] _ rfl rfl fun u β W hW hn fr hfr K hK => ?_
                                          simp only [frameL, putL, Act.put, List.setIfInBounds_toArray, List.set_cons_zero, List.set_cons_succ, Nat.zero_add, Nat.reduceAdd] at hfr
                                          subst hfr
                                          have e18 : u 18 = .pointer (some ⟨hi, t, none⟩) := Have.get (k := 18) hn rfl
                                          simp only [e18] at hK
                                          have c0 := cellL ci' hW
                                          have HK := Lib.hid hK
                                          clear hK hn
                                          go_simp
                                          have h9 := HK.out
                                          revert h9
                                          clear HK
                                          go_simp
                                          try exact id
                                        refine Steps.cons ?_ ?_
                                        · intro _ _; refine FreeStep.val [] _ rfl rfl fun u β W hW hn fr hfr K hK => ?_
                                          simp only [frameL, putL, Act.put, List.setIfInBounds_toArray, List.set_cons_zero, List.set_cons_succ, Nat.zero_add, Nat.reduceAdd] at hfr
                                          subst hfr
                                          have HK := Lib.hid hK
                                          clear hK hn
                                          go_simp
                                          have h9 := HK.out
                                          revert h9
                                          clear HK
                                          go_simp
                                          try exact id
                                        refine Steps.cons ?_ ?_
                                        · intro _ _; refine FreeStep.val [] _ rfl rfl fun u β W hW hn fr hfr K hK => ?_
                                          simp only [frameL, putL, Act.put, List.setIfInBounds_toArray, List.set_cons_zero, List.set_cons_succ, Nat.zero_add, Nat.reduceAdd] at hfr
                                          subst hfr
                                          have e19 : u 19 = .slice (some ⟨gj', 0, none⟩) 2 kj' := Have.get (k := 19) hn rfl
                                          have e20 : u 20 = .int .i64 (k : Int) := Have.get (k := 20) hn rfl
                                          simp only [e19, e20] at hK
                                          have HK := Lib.hid hK
                                          clear hK hn
                                          go_simp
                                          have h9 := HK.out
                                          revert h9
                                          clear HK
                                          go_simp
                                          try exact id
                                        refine Steps.cons ?_ ?_
                                        · intro _ _; refine FreeStep.val [] _ rfl rfl fun u β W hW hn fr hfr K hK => ?_
                                          simp only [frameL, putL, Act.put, List.setIfInBounds_toArray, List.set_cons_zero, List.set_cons_succ, Nat.zero_add, Nat.reduceAdd] at hfr
                                          subst hfr
                                          have e21 : u 21 = .pointer (some ⟨gj', k, none⟩) := Have.get (k := 21) hn rfl
                                          simp only [e21] at hK
                                          have c0 := cellL cj' hW
                                          have HK := Lib.hid hK
                                          clear hK hn
                                          go_simp
                                          have h9 := HK.out
                                          revert h9
                                          clear HK
                                          go_simp
                                          try exact id
                                        refine Steps.cons ?_ ?_
                                        · intro _ _; refine FreeStep.val [] _ rfl rfl fun u β W hW hn fr hfr K hK => ?_
                                          simp only [frameL, putL, Act.put, List.setIfInBounds_toArray, List.set_cons_zero, List.set_cons_succ, Nat.zero_add, Nat.reduceAdd] at hfr
                                          subst hfr
                                          have e12 : u 12 = .int .i64 (zi * (nd : Int)) := Have.get (k := 12) hn rfl
                                          have e22 : u 22 = .int .i64 zi' := Have.get (k := 22) hn rfl
                                          simp only [e12, e22] at hK
                                          have HK := Lib.hid hK
                                          clear hK hn
                                          go_simp
                                          have h9 := HK.out
                                          revert h9
                                          clear HK
                                          go_simp
                                          try exact id
                                        refine Steps.cons ?_ ?_
                                        · intro _ _; refine FreeStep.own (base := w9.heap.size) rfl (lit_ok _ _ _ _) fun u β W hW hn fr hfr K hK => ?_
                                          simp only [frameL, putL, Act.put, List.setIfInBounds_toArray, List.set_cons_zero, List.set_cons_succ, Nat.zero_add, Nat.reduceAdd] at hfr
                                          subst hfr
                                          have e23 : u 23 = .int .i64 (zi * (nd : Int) + zi') := Have.get (k := 23) hn rfl
                                          simp only [e23] at hK
                                          have hsz := hW.size
                                          have HK := Lib.hid hK
                                          clear hK hn
                                          go_simp
                                          exact HK.out _ [W.heap.size] _ ((Below.refl _ _).alloc (Nat.le_refl _) _) (LitE.new _ _ _ W hsz) (fun b hb => by rw [List.mem_singleton.1 hb]; exact Nat.le_refl _)
                                        refine Steps.cons ?_ ?_
                                        · exact fun h => absurd h (by decide)
                                        refine Steps.cons ?_ ?_
                                        · exact fun h => absurd h (by decide)
                                        exact Steps.nil
                                      case tailR =>
                                        intro u β W hW hn hdis hbnd fr hfr
                                        simp only [frameL, putL, Act.put, List.setIfInBounds_toArray, List.set_cons_zero, List.set_cons_succ, Nat.zero_add, Nat.reduceAdd] at hfr
                                        subst hfr
                                        have z0 : u 0 = .slice Ai k kpi := Have.get (k := 0) hn rfl
                                        have z1 : u 1 = .pointer (some ⟨Bc, 0, none⟩) := Have.get (k := 1) hn rfl
                                        have z2 : u 2 = .pointer (some ⟨Bc, 0, none⟩) := Have.get (k := 2) hn rfl
                                        have z3 : u 3 = .pointer (some ⟨Bc, 5, none⟩) := Have.get (k := 3) hn rfl
                                        have z4 : u 4 = .slice (some ⟨gi, 0, none⟩) nc ki := Have.get (k := 4) hn rfl
                                        have z5 : u 5 = .int .i64 (s : Int) := Have.get (k := 5) hn rfl
                                        have z6 : u 6 = .pointer (some ⟨gi, s, none⟩) := Have.get (k := 6) hn rfl
                                        have z7 : u 7 = .slice (some ⟨gj, 0, none⟩) 2 kj := Have.get (k := 7) hn rfl
                                        have z8 : u 8 = .int .i64 (k : Int) := Have.get (k := 8) hn rfl
                                        have z9 : u 9 = .pointer (some ⟨gj, k, none⟩) := Have.get (k := 9) hn rfl
                                        have z10 : u 10 = .int .i64 zi := Have.get (k := 10) hn rfl
                                        have z11 : u 11 = .int .i64 (nd : Int) := Have.get (k := 11) hn rfl
                                        have z12 : u 12 = .int .i64 (zi * (nd : Int)) := Have.get (k := 12) hn rfl
                                        have z13 : u 13 = .pointer (some ⟨Bd, 0, none⟩) := Have.get (k := 13) hn rfl
                                        have z14 : u 14 = .pointer (some ⟨Bd, 0, none⟩) := Have.get (k := 14) hn rfl
                                        have z15 : u 15 = .pointer (some ⟨Bd, 5, none⟩) := Have.get (k := 15) hn rfl
                                        have z16 : u 16 = .slice (some ⟨hi, 0, none⟩) nd li := Have.get (k := 16) hn rfl
                                        have z17 : u 17 = .int .i64 (t : Int) := Have.get (k := 17) hn rfl
                                        have z18 : u 18 = .pointer (some ⟨hi, t, none⟩) := Have.get (k := 18) hn rfl
                                        have z19 : u 19 = .slice (some ⟨gj', 0, none⟩) 2 kj' := Have.get (k := 19) hn rfl
                                        have z20 : u 20 = .int .i64 (k : Int) := Have.get (k := 20) hn rfl
                                        have z21 : u 21 = .pointer (some ⟨gj', k, none⟩) := Have.get (k := 21) hn rfl
                                        have z22 : u 22 = .int .i64 zi' := Have.get (k := 22) hn rfl
                                        have z23 : u 23 = .int .i64 (zi * (nd : Int) + zi') := Have.get (k := 23) hn rfl
                                        have f24 : (LitE w9.heap.size 2 #[.int .i64 (zi * (nd : Int) + zi')] 1) W (u 24) () (β 24) := Have.get (k := 24) hn rfl
                                        clear hn hdis hbnd
                                        show wpOps _ _ _ [25, 26] _ _
                                        obtain ⟨bo, go, hbo, _, hlo⟩ := f24
                                        have hTriW := HT9.out.later h9s hW
                                        have hrW := hTriW.i.1
                                        rw [HZ.out.2.2.1] at hrW
                                        have hsW := hW.size
                                        have HY2 := Lib.hid (And.intro hTriW hrW)
                                        clear hTriW hrW HRI
                                        rw [wpOps_cons]
                                        refine wpOp_step rfl (fun K hK => ?_)
                                        refine step_append_lies _ rfl _ _ 38 rfl X1.heap.size 2 i0 (.int .i64 0) 1 8 Try.underlying38 hi0 hz0 hz1 hz2 rfl (by decide) _ k _ z0 HY2.out.2 ⟨bo, 0, none⟩ 1 1 [.int .i64 (zi * (nd : Int) + zi')] go rfl (World.news_of_block hbo) (one_sing rfl) (by decide) ?c1 ?c2 ?c3 _ rfl ?_
                                        case c1 => unfold maxLen; omega
                                        case c2 => omega
                                        case c3 => omega
                                        intro g1 cap1 w10 hown hg5 hat hltg
                                        refine hK _ _ ?_
                                        have hTri10 := Tri.addI (x := zi * (nd : Int) + zi') HY2.out.1 (by omega) HZ.out.2.2.1 hown hg5 hat
                                        have hsx : zipT (pairS nd) ns ns' (k + 1) = zipT (pairS nd) ns ns' k ++ [zi * (nd : Int) + zi'] := HZ.out.2.2.2.2.2
                                        rw [← hsx] at hTri10
                                        have HT10 := Lib.hid hTri10
                                        clear hK hown hg5 hat hTri10 hsx HY2
                                        rw [wpOps_cons]
                                        refine wpOp_step rfl (fun K2 hK => ?_)
                                        go_simp
                                        refine hK _ _ ?_
                                        clear hK
                                        unfold wpOps
                                        clear go hbo hlo hltg ew8 ew9 ci cj ci' cj' xx5 zz5
                                        generalize u 0 = s400 at *; generalize u 1 = s401 at *; generalize u 2 = s402 at *; generalize u 3 = s403 at *; generalize u 4 = s404 at *; generalize u 5 = s405 at *; generalize u 6 = s406 at *; generalize u 7 = s407 at *; generalize u 8 = s408 at *; generalize u 9 = s409 at *; generalize u 10 = s410 at *; generalize u 11 = s411 at *; generalize u 12 = s412 at *; generalize u 13 = s413 at *; generalize u 14 = s414 at *; generalize u 15 = s415 at *; generalize u 16 = s416 at *; generalize u 17 = s417 at *; generalize u 18 = s418 at *; generalize u 19 = s419 at *; generalize u 20 = s420 at *; generalize u 21 = s421 at *; generalize u 22 = s422 at *; generalize u 23 = s423 at *; generalize u 24 = s424 at *
                                        go_wp2
                                        go_roundw
                                        case rel => exact ⟨k + 1, _, _, _, by omega, by go_num, HT10.out⟩
                                        case measure => simp [intOf]; omega
                            · have e_ : k = 2 := by omega
                              subst e_
                              have hz1_ : zipT (pairP nd (M : Int)) cs cs' 2 = List.zipWith (pairP nd (M : Int)) cs cs' := by have h := zipT_all (pairP nd (M : Int)) (xs := cs) (ys := cs') (by have := HL.out; omega); rw [HL.out.1] at h; exact h
                              have hz2_ : zipT (pairR nd) rs rs' 2 = List.zipWith (pairR nd) rs rs' := by have h := zipT_all (pairR nd) (xs := rs) (ys := rs') (by have := HL.out; omega); rw [HL.out.2.2.1] at h; exact h
                              have hz3_ : zipT (pairS nd) ns ns' 2 = List.zipWith (pairS nd) ns ns' := by have h := zipT_all (pairS nd) (xs := ns) (ys := ns') (by have := HL.out; omega); rw [HL.out.2.2.2.2.1] at h; exact h
                              rw [hz1_, hz2_, hz3_] at hTri
                              have hl1_ : (List.zipWith (pairP nd (M : Int)) cs cs').length = 2 := by have := HL.out; rw [List.length_zipWith]; omega
                              have hl2_ : (List.zipWith (pairR nd) rs rs').length = 2 := by have := HL.out; rw [List.length_zipWith]; omega
                              have hl3_ : (List.zipWith (pairS nd) ns ns').length = 2 := by have := HL.out; rw [List.length_zipWith]; omega
                              obtain ⟨Ap, kpp, hvp⟩ := RowE.slice hTri.p
                              rw [hl1_] at hvp
                              subst hvp
                              obtain ⟨Ar, kpr, hvr⟩ := ManyE.slice hTri.r
                              rw [hl2_] at hvr
                              subst hvr
                              obtain ⟨Ai, kpi, hvi⟩ := RowE.slice hTri.i
                              rw [hl3_] at hvi
                              subst hvi
                              have lens := pairT_lens (fB both) HC.out HD.out (s := s) (t := t) (by rw [← HNC.out]; exact hlt) (by rw [← HND.out]; exact ht)
                              rw [← HND.out] at lens
                              obtain ⟨⟨bs0, hbx, hsub⟩, hT, hb0⟩ := HG5.out
                              have hds := hbx.lt.2
                              have hbxW := hbx.later hTri.below
                              have hTW := hT.trans (Turned.of_below hTri.below)
                              have lp1 := fun b hb => (push_ok _).lt hTri.p b hb
                              have lp2 := fun b hb => (ints2_ok _).lt hTri.r b hb
                              have lp3 := fun b hb => (ints_ok _).lt hTri.i b hb
                              have HS0 := Lib.hid (show BoxAt w.heap.size wr ob { (pairT (fB both) c d s t) with accept := (pairT (fB both) c d s t).accept ++ [bv] } bs0 ∧ PushE w.heap.size wr (.slice Ap 2 kpp) _ e1 ∧ Ints2E w.heap.size wr (.slice Ar 2 kpr) _ e2 ∧ IntsE w.heap.size wr (.slice Ai 2 kpi) _ e3 ∧ (∀ b ∈ bs0, b ∉ e1 ∧ b ∉ e2 ∧ b ∉ e3 ∧ X3.heap.size ≤ b) ∧ (ob ∉ e1 ∧ ob ∉ e2 ∧ ob ∉ e3) ∧ (∀ b ∈ e1, b ∉ e2 ∧ b ∉ e3) ∧ (∀ b ∈ e2, b ∉ e3) ∧ Turned [ob] X3 wr ∧ (∀ b, b ∈ e1 ∨ b ∈ e2 ∨ b ∈ e3 → X3.heap.size ≤ b) from
                                ⟨hbxW, pushes_base hZw _ _ _ _ hTri.p, ints2_base hZw _ _ _ _ hTri.r, ints_base hZw _ _ _ _ hTri.i, fun b hb => ⟨fun h => by have := (lp1 b h).1; have := (hds b hb).2; omega, fun h => by have := (lp2 b h).1; have := (hds b hb).2; omega, fun h => by have := (lp3 b h).1; have := (hds b hb).2; omega, by rcases hsub b hb with h | h; cases h; exact h⟩,
                                 ⟨fun h => by have := (lp1 _ h).1; omega, fun h => by have := (lp2 _ h).1; omega, fun h => by have := (lp3 _ h).1; omega⟩, fun b hb => ⟨hTri.d12 b hb, hTri.d13 b hb⟩, hTri.d23, hTW, fun b hb => by have h9 := hT.size; rcases hb with h | h | h; have := (lp1 b h).1; omega; have := (lp2 b h).1; omega; have := (lp3 b h).1; omega⟩)
                              have HLn := Lib.hid lens
                              have HBw := Lib.hid (show w.heap.size ≤ wr.heap.size from hBk.size)
                              have hww := HBw.out
                              have hst2 : s * nd + t < 2000 := by
                                have h1 : s * nd ≤ 40 * 40 := Nat.mul_le_mul (by omega) m40
                                omega
                              clear hTri hBk hZk x0 x1 x2 x3 x4 x5 xl z0 z1 z2 z3 z4 z5 zl lens hbx hsub hT hb0 hds hbxW hTW lp1 lp2 lp3 hz1_ hz2_ hz3_ hl1_ hl2_ hl3_
                              obtain ⟨hbxq, hr0, hr1, hr2, hdis, hob, hde12, hde23, hTq, hlo⟩ := HS0.out
                              obtain ⟨va, vc, vr, vi, d1, d2, d3, d4, xb, f1, f2, f3, f4, rfl, hnd_, hnb⟩ := hbxq.ex
                              obtain ⟨A1, q1, rfl⟩ := RowE.slice f1
                              obtain ⟨A2, q2, rfl⟩ := ManyE.slice f2
                              obtain ⟨A3, q3, rfl⟩ := ManyE.slice f3
                              obtain ⟨A4, q4, rfl⟩ := ManyE.slice f4
                              have hlq := HLn.out.2.1
                              obtain ⟨vs, hrow', _⟩ := f2.held
                              have hj : ∀ cx : Ck, cx.call = (pairT (fB both) c d s t).call → cx.call.length = s * nd + t := fun cx h => by rw [h]; exact hlq
                              rw [hj _ rfl] at hrow' xb f2
                              obtain ⟨y0, y1, y2, y3, y4, y5, yl⟩ := id xb.all6
                              obtain ⟨r0_, hr0_, hr1_, hr2_, hr3_⟩ := info_parts toInfo_pushes
                              have HX0 := Lib.hid (And.intro f1 (And.intro f2 (And.intro f3 (And.intro f4 (And.intro hnd_ (And.intro hnb (And.intro xb hrow')))))))
                              have hcw : w.heap.size ≤ wr.heap.size := by have h2 := hTq.size; omega
                              clear f1 f2 f3 f4 hnd_ hnb xb hrow' hbxq hdis hob hTq hlo hj hlq hr0 hr1 hr2 hde12 hde23
                              go_wp2_with (at_builtin; refine wpList_append_lies _ rfl _ _ 29 rfl w.heap.size 112 r0_ (.slice none 0 0) 1 24 Try.underlying29 hr0_ hr1_ hr2_ hr3_ rfl (by decide) _ (s * nd + t) _ rfl (HX0.out.2.2.2.2.2.2.2.alloc _) ⟨wr.heap.size, 0, none⟩ 1 1 [.slice Ap 2 kpp] rfl rfl (World.news_of_block (Bx.new wr _ _)) (one_sing rfl) (by decide) ?c1 ?c2 ?c3 _ rfl ?_)
                              case c1 => unfold maxLen; omega
                              case c2 => omega
                              case c3 => first | omega | (simp only [World.size_alloc]; omega)
                              intro g0_ cap0_ u5_ hown hg5 hat hltg
                              obtain ⟨f1, f2, f3, f4, hnd_, hnb, xb, hrow'⟩ := HX0.out
                              obtain ⟨hbxq, hr0, hr1, hr2, hdis, hob, hde12, hde23, hTq, hlo⟩ := HS0.out
                              have hn := (Below.refl wr.heap.size wr).alloc (Nat.le_refl _) (.cells #[.slice Ap 2 kpp] 112)
                              obtain ⟨ee, hbA, hee, hTA⟩ := box_call (c := { stack := (pairT (fB both) c d s t).stack, start := (pairT (fB both) c d s t).start, accept := (pairT (fB both) c d s t).accept ++ [bv], call := (pairT (fB both) c d s t).call, ret := (pairT (fB both) c d s t).ret, inner := (pairT (fB both) c d s t).inner : Ck }) (xb.later hn) ((bools_ok _).later f1 hn) ((push2_ok _).later f2 hn) ((ints3_ok _).later f3 hn) ((ints2_ok _).later f4 hn) hnd_ hnb ((push_ok _).later hr0 hn) (fun k hk => (hdis k hk).1) hob.1 (HLn.out.2.1) (hrow'.alloc _) hown hg5 rfl (by show _ = some g0_ ∨ g0_ = _; rw [World.size_alloc]; exact hat)
                              have hb5 : Bx u5_ ob 31 _ := (xb.later hn).same (hg5.block ob (xb.later hn).lt (fun e => by
                                have h1 := f2.held.choose_spec.2 ob e.symm
                                simp only [List.mem_append, not_or] at hnb
                                exact hnb.2.1 h1))
                              have q3_ := hb5.cell 3 _ rfl
                              have q4_ := hb5.frozen 3
                              obtain ⟨Y0, hY⟩ : ∃ Y, Y = u5_.setCell ⟨ob, 3, none⟩ (.slice (some ⟨g0_, 0, none⟩) (s * nd + t + 1) cap0_) := ⟨_, rfl⟩
                              rw [← hY] at hbA hTA
                              have hTn : Turned (ob :: d2) wr Y0 := (Turned.of_below hn).trans hTA
                              have hdq : ∀ b ∈ d2, b ∈ d1 ++ (d2 ++ (d3 ++ d4)) := fun b hb => by simp [hb]
                              have hTX : Turned [ob] X3 Y0 := ⟨hTn.os.trans hTq.os, hTn.tape.trans hTq.tape, hTn.output.trans hTq.output, Nat.le_trans hTq.size hTn.size, fun b hb hnb_ => (hTn.block b (Nat.lt_of_lt_of_le hb hTq.size) (fun hm => by
                                rcases List.mem_cons.1 hm with rfl | hm
                                · exact hnb_ (List.mem_singleton.2 rfl)
                                · have := (hdis b (hdq b hm)).2.2.2; omega)).trans (hTq.block b hb hnb_)⟩
                              have hXc : X3.heap.size ≤ wr.heap.size := hTq.size
                              have hin : ∀ b ∈ d1 ++ (ee ++ (d3 ++ d4)), b ∈ d1 ++ (d2 ++ (d3 ++ d4)) ∨ b ∈ e1 ∨ b = wr.heap.size + 1 := fun b hb => by
                                simp only [List.mem_append] at hb ⊢
                                have h9 := hee b
                                rw [World.size_alloc] at h9
                                rcases hb with hb | hb | hb | hb
                                · exact .inl (by simp [hb])
                                · rcases h9 hb with h | h | h; exact .inl (by simp [h]); exact .inr (.inl h); exact .inr (.inr h)
                                · exact .inl (by simp [hb])
                                · exact .inl (by simp [hb])
                              have HS1 := Lib.hid (show BoxAt w.heap.size Y0 ob _ (d1 ++ (ee ++ (d3 ++ d4))) ∧ Ints2E w.heap.size Y0 (.slice Ar 2 kpr) (List.zipWith (pairR nd) rs rs') e2 ∧ IntsE w.heap.size Y0 (.slice Ai 2 kpi) (List.zipWith (pairS nd) ns ns') e3 ∧ (∀ b ∈ d1 ++ (ee ++ (d3 ++ d4)), b ∉ e2 ∧ b ∉ e3 ∧ X3.heap.size ≤ b) ∧ (ob ∉ e2 ∧ ob ∉ e3) ∧ (∀ b ∈ e2, b ∉ e3) ∧ Turned [ob] X3 Y0 ∧ (∀ b, b ∈ e2 ∨ b ∈ e3 → X3.heap.size ≤ b) from
                                ⟨hbA, (ints2_ok _).off hr1 hTn (fun b hb hm => by rcases List.mem_cons.1 hm with rfl | hm; exact hob.2.1 hb; exact (hdis b (hdq b hm)).2.1 hb), (ints_ok _).off hr2 hTn (fun b hb hm => by rcases List.mem_cons.1 hm with rfl | hm; exact hob.2.2 hb; exact (hdis b (hdq b hm)).2.2.1 hb),
                                 fun b hb => by
                                   rcases hin b hb with h | h | h
                                   · exact ⟨(hdis b h).2.1, (hdis b h).2.2.1, (hdis b h).2.2.2⟩
                                   · exact ⟨(hde12 b h).1, (hde12 b h).2, hlo b (.inl h)⟩
                                   · exact ⟨fun h' => by have := ((ints2_ok _).lt hr1 b h').2; omega, fun h' => by have := ((ints_ok _).lt hr2 b h').2; omega, by omega⟩,
                                 ⟨hob.2.1, hob.2.2⟩, hde23, hTX, fun b hb => hlo b (.inr hb)⟩)
                              clear hde12
                              generalize d1 ++ (ee ++ (d3 ++ d4)) = BS1 at HS1
                              have HY0 := Lib.hid hY
                              clear hown hg5 hat hltg f1 f2 f3 f4 hnd_ hnb xb hrow' hbxq hr0 hdis hob hTq hlo hn hbA hee hTA hTn hdq hTX hXc hin hb5 hY y0 y1 y2 y3 y4 y5 yl HX0 HS0 hcw hr1 hr2 hde23
                              go_upto_region 34 with fail
                              rw [← HY0.out]
                              clear HY0 q3_ q4_
                              obtain ⟨hbxq, hr1, hr2, hdis, hob, hde23, hTq, hlo⟩ := HS1.out
                              obtain ⟨va, vc, vr, vi, d1, d2, d3, d4, xb, f1, f2, f3, f4, rfl, hnd_, hnb⟩ := hbxq.ex
                              obtain ⟨A1, q1, rfl⟩ := RowE.slice f1
                              obtain ⟨A2, q2, rfl⟩ := ManyE.slice f2
                              obtain ⟨A3, q3, rfl⟩ := ManyE.slice f3
                              obtain ⟨A4, q4, rfl⟩ := ManyE.slice f4
                              have hlq := HLn.out.2.2.1
                              obtain ⟨vs, hrow', _⟩ := f3.held
                              have hj : ∀ cx : Ck, cx.ret = (pairT (fB both) c d s t).ret → cx.ret.length = s * nd + t := fun cx h => by rw [h]; exact hlq
                              rw [hj _ rfl] at hrow' xb f3
                              obtain ⟨y0, y1, y2, y3, y4, y5, yl⟩ := id xb.all6
                              obtain ⟨r0_, hr0_, hr1_, hr2_, hr3_⟩ := info_parts toInfo_ints2
                              have HX1 := Lib.hid (And.intro f1 (And.intro f2 (And.intro f3 (And.intro f4 (And.intro hnd_ (And.intro hnb (And.intro xb hrow')))))))
                              have hcw : w.heap.size ≤ Y0.heap.size := by have h2 := hTq.size; omega
                              clear f1 f2 f3 f4 hnd_ hnb xb hrow' hbxq hdis hob hTq hlo hj hlq hr1 hr2 hde23
                              go_wp2_with (at_builtin; refine wpList_append_lies _ rfl _ _ 24 rfl w.heap.size 25 r0_ (.slice none 0 0) 1 24 Try.underlying24 hr0_ hr1_ hr2_ hr3_ rfl (by decide) _ (s * nd + t) _ rfl (HX1.out.2.2.2.2.2.2.2.alloc _) ⟨Y0.heap.size, 0, none⟩ 1 1 [.slice Ar 2 kpr] rfl rfl (World.news_of_block (Bx.new Y0 _ _)) (one_sing rfl) (by decide) ?c1 ?c2 ?c3 _ rfl ?_)
                              case c1 => unfold maxLen; omega
                              case c2 => omega
                              case c3 => first | omega | (simp only [World.size_alloc]; omega)
                              intro g1_ cap1_ u5_ hown hg5 hat hltg
                              obtain ⟨f1, f2, f3, f4, hnd_, hnb, xb, hrow'⟩ := HX1.out
                              obtain ⟨hbxq, hr1, hr2, hdis, hob, hde23, hTq, hlo⟩ := HS1.out
                              have hn := (Below.refl Y0.heap.size Y0).alloc (Nat.le_refl _) (.cells #[.slice Ar 2 kpr] 25)
                              obtain ⟨ee, hbA, hee, hTA⟩ := box_ret (c := { stack := (pairT (fB both) c d s t).stack, start := (pairT (fB both) c d s t).start, accept := (pairT (fB both) c d s t).accept ++ [bv], call := (pairT (fB both) c d s t).call ++ [List.zipWith (pairP nd (M : Int)) cs cs'], ret := (pairT (fB both) c d s t).ret, inner := (pairT (fB both) c d s t).inner : Ck }) (xb.later hn) ((bools_ok _).later f1 hn) ((push2_ok _).later f2 hn) ((ints3_ok _).later f3 hn) ((ints2_ok _).later f4 hn) hnd_ hnb ((ints2_ok _).later hr1 hn) (fun k hk => (hdis k hk).1) hob.1 (HLn.out.2.2.1) (hrow'.alloc _) hown hg5 rfl (by show _ = some g1_ ∨ g1_ = _; rw [World.size_alloc]; exact hat)
                              have hb5 : Bx u5_ ob 31 _ := (xb.later hn).same (hg5.block ob (xb.later hn).lt (fun e => by
                                have h1 := f3.held.choose_spec.2 ob e.symm
                                simp only [List.mem_append, not_or] at hnb
                                exact hnb.2.2.1 h1))
                              have q3_ := hb5.cell 4 _ rfl
                              have q4_ := hb5.frozen 4
                              obtain ⟨Y1, hY⟩ : ∃ Y, Y = u5_.setCell ⟨ob, 4, none⟩ (.slice (some ⟨g1_, 0, none⟩) (s * nd + t + 1) cap1_) := ⟨_, rfl⟩
                              rw [← hY] at hbA hTA
                              have hTn : Turned (ob :: d3) Y0 Y1 := (Turned.of_below hn).trans hTA
                              have hdq : ∀ b ∈ d3, b ∈ d1 ++ (d2 ++ (d3 ++ d4)) := fun b hb => by simp [hb]
                              have hTX : Turned [ob] X3 Y1 := ⟨hTn.os.trans hTq.os, hTn.tape.trans hTq.tape, hTn.output.trans hTq.output, Nat.le_trans hTq.size hTn.size, fun b hb hnb_ => (hTn.block b (Nat.lt_of_lt_of_le hb hTq.size) (fun hm => by
                                rcases List.mem_cons.1 hm with rfl | hm
                                · exact hnb_ (List.mem_singleton.2 rfl)
                                · have := (hdis b (hdq b hm)).2.2; omega)).trans (hTq.block b hb hnb_)⟩
                              have hXc : X3.heap.size ≤ Y0.heap.size := hTq.size
                              have hin : ∀ b ∈ d1 ++ (d2 ++ (ee ++ d4)), b ∈ d1 ++ (d2 ++ (d3 ++ d4)) ∨ b ∈ e2 ∨ b = Y0.heap.size + 1 := fun b hb => by
                                simp only [List.mem_append] at hb ⊢
                                have h9 := hee b
                                rw [World.size_alloc] at h9
                                rcases hb with hb | hb | hb | hb
                                · exact .inl (by simp [hb])
                                · exact .inl (by simp [hb])
                                · rcases h9 hb with h | h | h; exact .inl (by simp [h]); exact .inr (.inl h); exact .inr (.inr h)
                                · exact .inl (by simp [hb])
                              have HS2 := Lib.hid (show BoxAt w.heap.size Y1 ob _ (d1 ++ (d2 ++ (ee ++ d4))) ∧ IntsE w.heap.size Y1 (.slice Ai 2 kpi) (List.zipWith (pairS nd) ns ns') e3 ∧ (∀ b ∈ d1 ++ (d2 ++ (ee ++ d4)), b ∉ e3 ∧ X3.heap.size ≤ b) ∧ (ob ∉ e3) ∧ Turned [ob] X3 Y1 ∧ (∀ b, b ∈ e3 → X3.heap.size ≤ b) from
                                ⟨hbA, (ints_ok _).off hr2 hTn (fun b hb hm => by rcases List.mem_cons.1 hm with rfl | hm; exact hob.2 hb; exact (hdis b (hdq b hm)).2.1 hb),
                                 fun b hb => by
                                   rcases hin b hb with h | h | h
                                   · exact ⟨(hdis b h).2.1, (hdis b h).2.2⟩
                                   · exact ⟨hde23 b h, hlo b (.inl h)⟩
                                   · exact ⟨fun h' => by have := ((ints_ok _).lt hr2 b h').2; omega, by omega⟩,
                                 hob.2, hTX, fun b hb => hlo b (.inr hb)⟩)
                              generalize d1 ++ (d2 ++ (ee ++ d4)) = BS2 at HS2
                              have HY1 := Lib.hid hY
                              clear hown hg5 hat hltg f1 f2 f3 f4 hnd_ hnb xb hrow' hbxq hr1 hdis hob hTq hlo hn hbA hee hTA hTn hdq hTX hXc hin hb5 hY y0 y1 y2 y3 y4 y5 yl HX1 HS1 hcw hr2 hde23
                              go_upto_region 35 with fail
                              rw [← HY1.out]
                              clear HY1 q3_ q4_
                              obtain ⟨hbxq, hr2, hdis, hob, hTq, hlo⟩ := HS2.out
                              obtain ⟨va, vc, vr, vi, d1, d2, d3, d4, xb, f1, f2, f3, f4, rfl, hnd_, hnb⟩ := hbxq.ex
                              obtain ⟨A1, q1, rfl⟩ := RowE.slice f1
                              obtain ⟨A2, q2, rfl⟩ := ManyE.slice f2
                              obtain ⟨A3, q3, rfl⟩ := ManyE.slice f3
                              obtain ⟨A4, q4, rfl⟩ := ManyE.slice f4
                              have hlq := HLn.out.2.2.2
                              obtain ⟨vs, hrow', _⟩ := f4.held
                              have hj : ∀ cx : Ck, cx.inner = (pairT (fB both) c d s t).inner → cx.inner.length = s * nd + t := fun cx h => by rw [h]; exact hlq
                              rw [hj _ rfl] at hrow' xb f4
                              obtain ⟨y0, y1, y2, y3, y4, y5, yl⟩ := id xb.all6
                              obtain ⟨r0_, hr0_, hr1_, hr2_, hr3_⟩ := info_parts toInfo_ints
                              have HX2 := Lib.hid (And.intro f1 (And.intro f2 (And.intro f3 (And.intro f4 (And.intro hnd_ (And.intro hnb (And.intro xb hrow')))))))
                              have hcw : w.heap.size ≤ Y1.heap.size := by have h2 := hTq.size; omega
                              clear f1 f2 f3 f4 hnd_ hnb xb hrow' hbxq hdis hob hTq hlo hj hlq hr2
                              go_wp2_with (at_builtin; refine wpList_append_lies _ rfl _ _ 25 rfl w.heap.size 38 r0_ (.slice none 0 0) 1 24 Try.underlying25 hr0_ hr1_ hr2_ hr3_ rfl (by decide) _ (s * nd + t) _ rfl (HX2.out.2.2.2.2.2.2.2.alloc _) ⟨Y1.heap.size, 0, none⟩ 1 1 [.slice Ai 2 kpi] rfl rfl (World.news_of_block (Bx.new Y1 _ _)) (one_sing rfl) (by decide) ?c1 ?c2 ?c3 _ rfl ?_)
                              case c1 => unfold maxLen; omega
                              case c2 => omega
                              case c3 => first | omega | (simp only [World.size_alloc]; omega)
                              intro g2_ cap2_ u5_ hown hg5 hat hltg
                              obtain ⟨f1, f2, f3, f4, hnd_, hnb, xb, hrow'⟩ := HX2.out
                              obtain ⟨hbxq, hr2, hdis, hob, hTq, hlo⟩ := HS2.out
                              have hn := (Below.refl Y1.heap.size Y1).alloc (Nat.le_refl _) (.cells #[.slice Ai 2 kpi] 38)
                              obtain ⟨ee, hbA, hee, hTA⟩ := box_inner (c := { stack := (pairT (fB both) c d s t).stack, start := (pairT (fB both) c d s t).start, accept := (pairT (fB both) c d s t).accept ++ [bv], call := (pairT (fB both) c d s t).call ++ [List.zipWith (pairP nd (M : Int)) cs cs'], ret := (pairT (fB both) c d s t).ret ++ [List.zipWith (pairR nd) rs rs'], inner := (pairT (fB both) c d s t).inner : Ck }) (xb.later hn) ((bools_ok _).later f1 hn) ((push2_ok _).later f2 hn) ((ints3_ok _).later f3 hn) ((ints2_ok _).later f4 hn) hnd_ hnb ((ints_ok _).later hr2 hn) (fun k hk => (hdis k hk).1) hob (HLn.out.2.2.2) (hrow'.alloc _) hown hg5 rfl (by show _ = some g2_ ∨ g2_ = _; rw [World.size_alloc]; exact hat)
                              have hb5 : Bx u5_ ob 31 _ := (xb.later hn).same (hg5.block ob (xb.later hn).lt (fun e => by
                                have h1 := f4.held.choose_spec.2 ob e.symm
                                simp only [List.mem_append, not_or] at hnb
                                exact hnb.2.2.2 h1))
                              have q3_ := hb5.cell 5 _ rfl
                              have q4_ := hb5.frozen 5
                              obtain ⟨Y2, hY⟩ : ∃ Y, Y = u5_.setCell ⟨ob, 5, none⟩ (.slice (some ⟨g2_, 0, none⟩) (s * nd + t + 1) cap2_) := ⟨_, rfl⟩
                              rw [← hY] at hbA hTA
                              have hTn : Turned (ob :: d4) Y1 Y2 := (Turned.of_below hn).trans hTA
                              have hdq : ∀ b ∈ d4, b ∈ d1 ++ (d2 ++ (d3 ++ d4)) := fun b hb => by simp [hb]
                              have hTX : Turned [ob] X3 Y2 := ⟨hTn.os.trans hTq.os, hTn.tape.trans hTq.tape, hTn.output.trans hTq.output, Nat.le_trans hTq.size hTn.size, fun b hb hnb_ => (hTn.block b (Nat.lt_of_lt_of_le hb hTq.size) (fun hm => by
                                rcases List.mem_cons.1 hm with rfl | hm
                                · exact hnb_ (List.mem_singleton.2 rfl)
                                · have := (hdis b (hdq b hm)).2; omega)).trans (hTq.block b hb hnb_)⟩
                              have hXc : X3.heap.size ≤ Y1.heap.size := hTq.size
                              have hin : ∀ b ∈ d1 ++ (d2 ++ (d3 ++ ee)), b ∈ d1 ++ (d2 ++ (d3 ++ d4)) ∨ b ∈ e3 ∨ b = Y1.heap.size + 1 := fun b hb => by
                                simp only [List.mem_append] at hb ⊢
                                have h9 := hee b
                                rw [World.size_alloc] at h9
                                rcases hb with hb | hb | hb | hb
                                · exact .inl (by simp [hb])
                                · exact .inl (by simp [hb])
                                · exact .inl (by simp [hb])
                                · rcases h9 hb with h | h | h; exact .inl (by simp [h]); exact .inr (.inl h); exact .inr (.inr h)
                              have HS3 := Lib.hid (show BoxAt w.heap.size Y2 ob _ (d1 ++ (d2 ++ (d3 ++ ee))) ∧ (∀ b ∈ d1 ++ (d2 ++ (d3 ++ ee)), X3.heap.size ≤ b) ∧ Turned [ob] X3 Y2 from
                                ⟨hbA, fun b hb => by
                                   rcases hin b hb with h | h | h
                                   · exact (hdis b h).2
                                   · exact hlo b h
                                   · omega, hTX⟩)
                              have HY2 := Lib.hid hY
                              clear hown hg5 hat hltg f1 f2 f3 f4 hnd_ hnb xb hrow' hbxq hr2 hdis hob hTq hlo hn hbA hee hTA hTn hdq hTX hXc hin hb5 hY y0 y1 y2 y3 y4 y5 yl HX2 HS2 hcw
                              have hmore : pairT (fB both) c d s (t + 1) = { (pairT (fB both) c d s t) with accept := (pairT (fB both) c d s t).accept ++ [bv], call := (pairT (fB both) c d s t).call ++ [List.zipWith (pairP nd (M : Int)) cs cs'], ret := (pairT (fB both) c d s t).ret ++ [List.zipWith (pairR nd) rs rs'], inner := (pairT (fB both) c d s t).inner ++ [List.zipWith (pairS nd) ns ns'] } := by
                                rw [Hbv.out, pairT_more (fB both) HSt.out.1 HSt.out.2.1 HSt.out.2.2.1 HSt.out.2.2.2.1 HSt'.out.1 HSt'.out.2.1 HSt'.out.2.2.1 HSt'.out.2.2.2.1, ← HND.out, HM.out]
                              have hGn : GrownAt w.heap.size X3 ob [] Y2 (pairT (fB both) c d s (t + 1)) := by
                                rw [hmore]
                                exact ⟨⟨_, HS3.out.1, fun b hb => .inr (HS3.out.2.1 b hb)⟩, HS3.out.2.2, by omega⟩
                              rw [HY2.out] at hGn
                              have HGn := Lib.hid hGn
                              clear hmore hGn HS3
                              go_wp2
                              go_roundw
                              case rel => exact ⟨t + 1, by omega, by go_num, HGn.out⟩
                              case measure => simp [intOf]; omega
              · have e_ : t = nd := by omega
                subst e_
                have hnx := pairT_next (fB both) HC.out HD.out (s := s) (by rw [← HNC.out]; exact hlt)
                rw [← HND.out] at hnx
                rw [hnx] at hG
                have HG := Lib.hid hG
                clear hG hnx hBw
                go_wp2
                go_roundw
                case rel => exact ⟨s + 1, by omega, by go_num, HG.out⟩
                case measure => simp [intOf]; omega
        · have e_ : s = nc := by omega
          subst e_
          have hal := pairT_all (fB both) (c := c) (d := d) HC.out
          rw [← HNC.out] at hal
          rw [hal] at hG
          have hBw := Hbw.out _ _ hG
          obtain ⟨⟨bs0, hbx, hsub⟩, hT, hb0⟩ := hG
          have hrB := HRX.out.1
          have hrW : Bx wr w.heap.size 31 #[.int .i64 0, .int .i64 0, .slice none 0 0, .slice none 0 0, .slice none 0 0, .slice none 0 0] := hrB.same (hT.block _ hrB.lt (by simp; omega))
          obtain ⟨va, vc, vr, vi, d1, d2, d3, d4, xb, f1, f2, f3, f4, rfl, hnd_, hnb⟩ := hbx.ex
          obtain ⟨A1, q1, rfl⟩ := RowE.slice f1
          obtain ⟨A2, q2, rfl⟩ := ManyE.slice f2
          obtain ⟨A3, q3, rfl⟩ := ManyE.slice f3
          obtain ⟨A4, q4, rfl⟩ := ManyE.slice f4
          have hfin : CkE w.heap.size wr (.agg #[.int .i64 (pairC (fB both) c d).stack, .int .i64 (pairC (fB both) c d).start, .slice A1 (pairC (fB both) c d).accept.length q1, .slice A2 (pairC (fB both) c d).call.length q2, .slice A3 (pairC (fB both) c d).ret.length q3, .slice A4 (pairC (fB both) c d).inner.length q4]) (pairC (fB both) c d) (d1 ++ (d2 ++ (d3 ++ d4))) := ⟨_, _, _, _, _, _, _, _, rfl, f1, f2, f3, f4, rfl, hnd_⟩
          have hge : ∀ b ∈ d1 ++ (d2 ++ (d3 ++ d4)), X3.heap.size ≤ b := fun b hb => by rcases hsub b hb with h | h; cases h; exact h
          obtain ⟨P, hP⟩ : ∃ P, P = pairC (fB both) c d := ⟨_, rfl⟩
          rw [← hP] at xb hfin
          have HPc := Lib.hid hP
          generalize P.stack = ps at *
          generalize P.start = pt at *
          generalize P.accept.length = n1_ at *
          generalize P.call.length = n2_ at *
          generalize P.ret.length = n3_ at *
          generalize P.inner.length = n4_ at *
          obtain ⟨x0, x1, x2, x3, x4, x5, xl⟩ := id xb.all6
          obtain ⟨z0, z1, z2, z3, z4, z5, zl⟩ := id hrW.all6
          have w0_ := hrW.frozen 0
          have w1_ := hrW.frozen 1
          have w2_ := hrW.frozen 2
          have w3_ := hrW.frozen 3
          have w4_ := hrW.frozen 4
          have w5_ := hrW.frozen 5
          have HF9 := Lib.hid (And.intro hrW (And.intro hBw (And.intro hfin hge)))
          clear hbx hsub hT hb0 hrB hrW xb f1 f2 f3 f4 hnd_ hnb hfin hge hBw hal hP
          go_wp2
          clear x0 x1 x2 x3 x4 x5 xl z0 z1 z2 z3 z4 z5 zl w0_ w1_ w2_ w3_ w4_ w5_
          obtain ⟨hrW, hBw, hfin, hge⟩ := HF9.out
          have x0_ := hrW.set 0 (.int .i64 ps)
          have x1_ := x0_.set 1 (.int .i64 pt)
          have x2_ := x1_.set 2 (.slice A1 n1_ q1)
          have x3_ := x2_.set 3 (.slice A2 n2_ q2)
          have x4_ := x3_.set 4 (.slice A3 n3_ q3)
          have x5_ := x4_.set 5 (.slice A4 n4_ q4)
          have y0 := x5_.cell 0 (.int .i64 ps) rfl
          have y1 := x5_.cell 1 (.int .i64 pt) rfl
          have y2 := x5_.cell 2 (.slice A1 n1_ q1) rfl
          have y3 := x5_.cell 3 (.slice A2 n2_ q2) rfl
          have y4 := x5_.cell 4 (.slice A3 n3_ q3) rfl
          have y5 := x5_.cell 5 (.slice A4 n4_ q4) rfl
          have hBf := ((((((hBw.setCell (p := ⟨w.heap.size, 0, none⟩) (Nat.le_refl _) (.int .i64 ps)).setCell (p := ⟨w.heap.size, 1, none⟩) (Nat.le_refl _) (.int .i64 pt)).setCell (p := ⟨w.heap.size, 2, none⟩) (Nat.le_refl _) (.slice A1 n1_ q1)).setCell (p := ⟨w.heap.size, 3, none⟩) (Nat.le_refl _) (.slice A2 n2_ q2)).setCell (p := ⟨w.heap.size, 4, none⟩) (Nat.le_refl _) (.slice A3 n3_ q3)).setCell (p := ⟨w.heap.size, 5, none⟩) (Nat.le_refl _) (.slice A4 n4_ q4))
          have hE0 := keepE (ck_ok _) hfin (Below.refl _ _) (B := w.heap.size) (fun b hb => by have := hge b hb; omega) 0 (.int .i64 ps)
          have hE1 := keepE (ck_ok _) hE0 (Below.refl _ _) (B := w.heap.size) (fun b hb => by have := hge b hb; omega) 1 (.int .i64 pt)
          have hE2 := keepE (ck_ok _) hE1 (Below.refl _ _) (B := w.heap.size) (fun b hb => by have := hge b hb; omega) 2 (.slice A1 n1_ q1)
          have hE3 := keepE (ck_ok _) hE2 (Below.refl _ _) (B := w.heap.size) (fun b hb => by have := hge b hb; omega) 3 (.slice A2 n2_ q2)
          have hE4 := keepE (ck_ok _) hE3 (Below.refl _ _) (B := w.heap.size) (fun b hb => by have := hge b hb; omega) 4 (.slice A3 n3_ q3)
          have hE5 := keepE (ck_ok _) hE4 (Below.refl _ _) (B := w.heap.size) (fun b hb => by have := hge b hb; omega) 5 (.slice A4 n4_ q4)
          rw [← HPc.out]
          exact bodyPost_ret (res_pairs _ _ w.heap.size _ _ _ _ _ _ _ _ _ _ _ _ _ _ (by rfl) y0 y1 y2 y3 y4 y5) rfl ⟨_, _, rfl, hE5, hBf⟩
end Go.Proofs.Ytfaiifiohomdmaa
