/- pairedChecker of the program. -/
import Derived.Test.YtfaiifiohomdmaaPairM
import Derived.Laws.EntriesVeiled
namespace Go.Proofs.Ytfaiifiohomdmaa
open Go.RowKit
set_option linter.unusedVariables false

set_option maxHeartbeats 1600000 in
theorem paired_cnt {s0 s1 : Int} {A : Option Addr} {n ka : Nat} {vc vr vi : Value} (w : World) (hn : n ≤ 1048576) : Calls Try.prog 83 #[.agg #[.int .i64 s0, .int .i64 s1, .slice A n ka, vc, vr, vi]] w (TupPost (.int .i64 (n : Int)) w) := by
  have hB := (Below.refl w.heap.size w).alloc (Nat.le_refl _) (.cells #[.int .i64 s0, .int .i64 s1, .slice A n ka, vc, vr, vi] 31)
  go_enter Try.func83, Try.ntmps83
  go_wp2
  go_ret
  exact ⟨rfl, hB⟩
set_option maxHeartbeats 25600000 in
set_option maxRecDepth 100000 in
theorem impl_paired {base base' : Nat} {v v' : Value} {c d : Ck} {bs bs' : List Nat} (fF : Bool → Bool → Bool) (f : FuncId) (w : World) (hcf : ∀ args w, (callFunc f args).run Try.prog w = .ok (.enter f args) w)
    (hf : ∀ x y W, Calls Try.prog f #[.bool x, .bool y] W (TupPost (.bool (fF x y)) W)) (hc : OkC c) (hd : OkC d) (hck : CkE base w v c bs) (hdk : CkE base' w v' d bs') :
    Calls Try.prog 122 #[v, v', .func (.func f) #[] #[]] w (NewPost CkE (pairC fF c d) w) := by
  obtain ⟨va, vc, vr, vi, b1, b2, b3, b4, rfl, h1, h2, h3, h4, _, _⟩ := hck
  obtain ⟨ua, uc, ur, ui, c1, c2, c3, c4, rfl, g1, g2, g3, g4, _, _⟩ := hdk
  obtain ⟨A1, k1, rfl⟩ := RowE.slice h1
  obtain ⟨A2, k2, rfl⟩ := ManyE.slice h2
  obtain ⟨A3, k3, rfl⟩ := ManyE.slice h3
  obtain ⟨A4, k4, rfl⟩ := ManyE.slice h4
  obtain ⟨B1, j1, rfl⟩ := RowE.slice g1
  obtain ⟨B2, j2, rfl⟩ := ManyE.slice g2
  obtain ⟨B3, j3, rfl⟩ := ManyE.slice g3
  obtain ⟨B4, j4, rfl⟩ := ManyE.slice g4
  have lc2 := hc.lc
  have lc3 := hc.lr
  have lc4 := hc.li
  have ld2 := hd.lc
  have ld3 := hd.lr
  have ld4 := hd.li
  obtain ⟨nc, hnc⟩ : ∃ n, n = c.accept.length := ⟨_, rfl⟩
  obtain ⟨nd, hnd⟩ : ∃ n, n = d.accept.length := ⟨_, rfl⟩
  have n40 : nc ≤ 40 := by rw [hnc]; exact hc.n2
  have m40 : nd ≤ 40 := by rw [hnd]; exact hd.n2
  have sc : Sm c.stack := ⟨by have := hc.st1; omega, by have := hc.st2; omega⟩
  have sd : Sm d.stack := ⟨by have := hd.st1; omega, by have := hd.st2; omega⟩
  have tc : Sm c.start := ⟨hc.start.1, by have := hc.start.2; omega⟩
  have td : Sm d.start := ⟨hd.start.1, by have := hd.start.2; omega⟩
  rw [lc2, ← hnc] at h2
  rw [lc3, ← hnc] at h3
  rw [lc4, ← hnc] at h4
  rw [ld2, ← hnd] at g2
  rw [ld3, ← hnd] at g3
  rw [ld4, ← hnd] at g4
  rw [lc2, lc3, lc4, ld2, ld3, ld4]
  rw [← hnc] at h1 ⊢
  rw [← hnd] at g1 ⊢
  have e0 := wrap_mul sc sd
  have HNC := Lib.hid hnc
  have HND := Lib.hid hnd
  have R16 := Lib.hid (fun (W : World) (hW : Below w.heap.size w W) => prod_bool W fF f #[] hcf (by omega) (by omega) ((bools_ok _).later h1 hW) ((bools_ok _).later g1 hW) (fun x _ y _ W _ => by have h := hf x y W; unfold TupPost at h; simpa using h))
  have R23 := Lib.hid (fun (W : World) (hW : Below w.heap.size w W) => prod_pushes W (List.zipWith (pairP nd d.stack)) 193 #[.agg #[.int .i64 (nd : Int), .int .i64 d.stack]] (fm_cf 193 Try.f193 _ (by kernel_rfl) (by kernel_rfl) rfl) (by omega) (by omega) ((push2_ok _).later h2 hW) ((push2_ok _).later g2 hW) (fun x hx y hy W u u' b b' _ _ _ hu hu' => pair_calls nd d.stack W (by omega) sd (by have := (ok_call hc x hx).1; omega) (by rw [(ok_call hc x hx).1, (ok_call hd y hy).1]) (ok_smP hc hx) (ok_smP hd hy) hu hu'))
  have R30 := Lib.hid (fun (W : World) (hW : Below w.heap.size w W) => prod_ints2 W (List.zipWith (pairR nd)) 195 #[.agg #[.int .i64 (nd : Int), .int .i64 d.stack]] (fm_cf 195 Try.f195 _ (by kernel_rfl) (by kernel_rfl) rfl) (by omega) (by omega) ((ints3_ok _).later h3 hW) ((ints3_ok _).later g3 hW) (fun x hx y hy W u u' b b' _ _ _ hu hu' => pair_returns nd d.stack W (by omega) (by have := (ok_ret hc x hx).1; omega) (by rw [(ok_ret hc x hx).1, (ok_ret hd y hy).1]) (ok_smR hc hx) (ok_smR hd hy) hu hu'))
  have R37 := Lib.hid (fun (W : World) (hW : Below w.heap.size w W) => prod_ints W (List.zipWith (pairS nd)) 197 #[.agg #[.int .i64 (nd : Int), .int .i64 d.stack]] (fm_cf 197 Try.f197 _ (by kernel_rfl) (by kernel_rfl) rfl) (by omega) (by omega) ((ints2_ok _).later h4 hW) ((ints2_ok _).later g4 hW) (fun x hx y hy W u u' b b' _ _ _ hu hu' => pair_inner nd d.stack W (by omega) (by have := (ok_inner hc x hx).1; omega) (by rw [(ok_inner hc x hx).1, (ok_inner hd y hy).1]) (ok_smI hc hx) (ok_smI hd hy) hu hu'))
  have R10 := Lib.hid (fun W => pair_state nd d.stack c.start d.start W (by omega) tc td)
  have RC := Lib.hid (fun (W : World) => paired_cnt (s0 := d.stack) (s1 := d.start) (A := B1) (n := nd) (ka := j1) (vc := .slice B2 nd j2) (vr := .slice B3 nd j3) (vi := .slice B4 nd j4) W (by omega))
  have hB := (((Below.refl w.heap.size w).alloc (Nat.le_refl _) (.cells #[.int .i64 c.stack, .int .i64 c.start, .slice A1 nc k1, .slice A2 nc k2, .slice A3 nc k3, .slice A4 nc k4] 31)).alloc (by simp) (.cells #[.int .i64 d.stack, .int .i64 d.start, .slice B1 nd j1, .slice B2 nd j2, .slice B3 nd j3, .slice B4 nd j4] 31)).alloc (by simp; omega) (.cells #[.int .i64 0, .int .i64 0, .slice none 0 0, .slice none 0 0, .slice none 0 0, .slice none 0 0] 31)
  have t1 := ((Bx.new w 31 #[.int .i64 c.stack, .int .i64 c.start, .slice A1 nc k1, .slice A2 nc k2, .slice A3 nc k3, .slice A4 nc k4]).alloc (.cells #[.int .i64 d.stack, .int .i64 d.start, .slice B1 nd j1, .slice B2 nd j2, .slice B3 nd j3, .slice B4 nd j4] 31)).alloc (.cells #[.int .i64 0, .int .i64 0, .slice none 0 0, .slice none 0 0, .slice none 0 0, .slice none 0 0] 31)
  have t2 := (Bx.new (w.alloc (.cells #[.int .i64 c.stack, .int .i64 c.start, .slice A1 nc k1, .slice A2 nc k2, .slice A3 nc k3, .slice A4 nc k4] 31)) 31 #[.int .i64 d.stack, .int .i64 d.start, .slice B1 nd j1, .slice B2 nd j2, .slice B3 nd j3, .slice B4 nd j4]).alloc (.cells #[.int .i64 0, .int .i64 0, .slice none 0 0, .slice none 0 0, .slice none 0 0, .slice none 0 0] 31)
  have t3 := Bx.new ((w.alloc (.cells #[.int .i64 c.stack, .int .i64 c.start, .slice A1 nc k1, .slice A2 nc k2, .slice A3 nc k3, .slice A4 nc k4] 31)).alloc (.cells #[.int .i64 d.stack, .int .i64 d.start, .slice B1 nd j1, .slice B2 nd j2, .slice B3 nd j3, .slice B4 nd j4] 31)) 31 #[.int .i64 0, .int .i64 0, .slice none 0 0, .slice none 0 0, .slice none 0 0, .slice none 0 0]
  simp only [World.size_alloc] at t2 t3
  have hres : pairC fF c d = { stack := c.stack * d.stack, start := pairS nd c.start d.start, accept := prodL fF c.accept d.accept, call := prodL (List.zipWith (pairP nd d.stack)) c.call d.call, ret := prodL (List.zipWith (pairR nd)) c.ret d.ret, inner := prodL (List.zipWith (pairS nd)) c.inner d.inner } := by rw [HND.out]; rfl
  rw [hres]
  have L1 := Lib.hid (show (prodL fF c.accept d.accept).length = nc * nd by rw [prodL_len, ← HNC.out, ← HND.out])
  have L2 := Lib.hid (show (prodL (List.zipWith (pairP nd d.stack)) c.call d.call).length = nc * nd by rw [prodL_len, lc2, ld2, ← HNC.out, ← HND.out])
  have L3 := Lib.hid (show (prodL (List.zipWith (pairR nd)) c.ret d.ret).length = nc * nd by rw [prodL_len, lc3, ld3, ← HNC.out, ← HND.out])
  have L4 := Lib.hid (show (prodL (List.zipWith (pairS nd)) c.inner d.inner).length = nc * nd by rw [prodL_len, lc4, ld4, ← HNC.out, ← HND.out])
  generalize pairS nd c.start d.start = st at *
  generalize prodL fF c.accept d.accept = P1 at *
  generalize prodL (List.zipWith (pairP nd d.stack)) c.call d.call = P2 at *
  generalize prodL (List.zipWith (pairR nd)) c.ret d.ret = P3 at *
  generalize prodL (List.zipWith (pairS nd)) c.inner d.inner = P4 at *
  clear hres h1 h2 h3 h4 g1 g2 g3 g4 lc2 lc3 lc4 ld2 ld3 ld4 sc sd tc td hnc hnd hcf hf hc hd
  generalize c.stack = s1 at *
  generalize c.start = s2 at *
  generalize d.stack = s3 at *
  generalize d.start = s4 at *
  go_enter Try.func122, Try.ntmps122
  go_upto_region 1 with fail
  obtain ⟨W0, hW0⟩ : ∃ W0, W0 = ((w.alloc (.cells #[.int .i64 s1, .int .i64 s2, .slice A1 nc k1, .slice A2 nc k2, .slice A3 nc k3, .slice A4 nc k4] 31)).alloc (.cells #[.int .i64 s3, .int .i64 s4, .slice B1 nd j1, .slice B2 nd j2, .slice B3 nd j3, .slice B4 nd j4] 31)).alloc (.cells #[.int .i64 0, .int .i64 0, .slice none 0 0, .slice none 0 0, .slice none 0 0, .slice none 0 0] 31) := ⟨_, rfl⟩
  rw [← hW0] at t1 t2 t3 hB ⊢
  have HB := Lib.hid hB
  have hW0s : w.heap.size + 1 + 1 < W0.heap.size := by rw [hW0]; simp
  clear hW0 hB
  refine wp_region_free_last (by kernel_rfl) [
      .val [] (fun _ => .agg #[.int .i64 s3, .int .i64 s4, .slice B1 nd j1, .slice B2 nd j2, .slice B3 nd j3, .slice B4 nd j4]),
      .val [] (fun _ => .int .i64 (nd : Int)),
      .val [] (fun _ => .pointer (some ⟨w.heap.size + 1, 0, none⟩)),
      .val [] (fun _ => .int .i64 s3),
      .val [] (fun _ => .agg #[.int .i64 (nd : Int), .int .i64 s3]),
      .own (PtrE W0.heap.size 214 #[.int .i64 0, .int .i64 0]) ()] ?hp ?hfw ?deps ?oks ?hl ?hpos ?steps
  case hp => kernel_rfl
  case hfw => kernel_rfl
  case deps => kernel_rfl
  case hl => kernel_rfl
  case hpos => kernel_rfl
  case oks =>
    intro F hF
    simp only [List.mem_cons, List.not_mem_nil, or_false] at hF
    rcases hF with rfl | rfl | rfl | rfl | rfl | rfl
    · trivial
    · trivial
    · trivial
    · trivial
    · trivial
    · exact ⟨_, ptr_ok _ _ _⟩
  case steps =>
    refine StepsL.cons ?_ ?_
    · refine FreeStep.val [] _ rfl rfl fun u β W hW hn fr hfr K hK => ?_
      simp only [frameL, putL, Act.put, List.setIfInBounds_toArray, List.set_cons_zero, List.set_cons_succ, Nat.zero_add, Nat.reduceAdd] at hfr
      subst hfr
      have c0 := cellL (t2.cell 0 _ rfl) hW
      have c1 := cellL (t2.cell 1 _ rfl) hW
      have c2 := cellL (t2.cell 2 _ rfl) hW
      have c3 := cellL (t2.cell 3 _ rfl) hW
      have c4 := cellL (t2.cell 4 _ rfl) hW
      have c5 := cellL (t2.cell 5 _ rfl) hW
      have HK := Lib.hid hK
      clear hK hn
      go_simp
      have h9 := HK.out
      revert h9
      clear HK
      go_simp
      try exact id
    refine StepsL.cons ?_ ?_
    · refine FreeStep.calm [] _ rfl rfl fun u β W hW hn fr hfr K hK => ?_
      simp only [frameL, putL, Act.put, List.setIfInBounds_toArray, List.set_cons_zero, List.set_cons_succ, Nat.zero_add, Nat.reduceAdd] at hfr
      subst hfr
      have e0 : u 0 = .agg #[.int .i64 s3, .int .i64 s4, .slice B1 nd j1, .slice B2 nd j2, .slice B3 nd j3, .slice B4 nd j4] := Have.get (k := 0) hn rfl
      simp only [e0] at hK
      have Q := Lib.hid (RC.out W)
      have HK := Lib.hid hK
      clear hK hn
      go_simp
      refine Q.out.mono ?_
      rintro e w9 ⟨rfl, hb9⟩
      exact HK.out w9 hb9
    refine StepsL.cons ?_ ?_
    · refine FreeStep.val [] _ rfl rfl fun u β W hW hn fr hfr K hK => ?_
      simp only [frameL, putL, Act.put, List.setIfInBounds_toArray, List.set_cons_zero, List.set_cons_succ, Nat.zero_add, Nat.reduceAdd] at hfr
      subst hfr
      have HK := Lib.hid hK
      clear hK hn
      go_simp
      have h9 := HK.out
      revert h9
      clear HK
      go_simp
      try exact id
    refine StepsL.cons ?_ ?_
    · refine FreeStep.val [] _ rfl rfl fun u β W hW hn fr hfr K hK => ?_
      simp only [frameL, putL, Act.put, List.setIfInBounds_toArray, List.set_cons_zero, List.set_cons_succ, Nat.zero_add, Nat.reduceAdd] at hfr
      subst hfr
      have e2 : u 2 = .pointer (some ⟨w.heap.size + 1, 0, none⟩) := Have.get (k := 2) hn rfl
      simp only [e2] at hK
      have c0 := cellL (t2.cell 0 _ rfl) hW
      have HK := Lib.hid hK
      clear hK hn
      go_simp
      have h9 := HK.out
      revert h9
      clear HK
      go_simp
      try exact id
    refine StepsL.cons ?_ ?_
    · refine FreeStep.val [] _ rfl rfl fun u β W hW hn fr hfr K hK => ?_
      simp only [frameL, putL, Act.put, List.setIfInBounds_toArray, List.set_cons_zero, List.set_cons_succ, Nat.zero_add, Nat.reduceAdd] at hfr
      subst hfr
      have e1 : u 1 = .int .i64 (nd : Int) := Have.get (k := 1) hn rfl
      have e3 : u 3 = .int .i64 s3 := Have.get (k := 3) hn rfl
      simp only [e1, e3] at hK
      have HK := Lib.hid hK
      clear hK hn
      go_simp
      have h9 := HK.out
      revert h9
      clear HK
      go_simp
      try exact id
    refine StepsL.cons ?_ ?_
    · refine FreeStep.own (base := W0.heap.size) rfl (ptr_ok _ _ _) fun u β W hW hn fr hfr K hK => ?_
      simp only [frameL, putL, Act.put, List.setIfInBounds_toArray, List.set_cons_zero, List.set_cons_succ, Nat.zero_add, Nat.reduceAdd] at hfr
      subst hfr
      have hsz := hW.size
      have HK := Lib.hid hK
      clear hK hn
      go_simp
      exact HK.out _ [W.heap.size] _ ((Below.refl _ _).alloc (Nat.le_refl _) _) ⟨W.heap.size, rfl, Bx.new _ _ _, rfl, hsz⟩ (fun b hb => by rw [List.mem_singleton.1 hb]; exact Nat.le_refl _)
    intro u β W hW hn hdis hbnd fr hfr K hK
    simp only [frameL, putL, Act.put, List.setIfInBounds_toArray, List.set_cons_zero, List.set_cons_succ, Nat.zero_add, Nat.reduceAdd] at hfr
    subst hfr
    have z0 : u 0 = .agg #[.int .i64 s3, .int .i64 s4, .slice B1 nd j1, .slice B2 nd j2, .slice B3 nd j3, .slice B4 nd j4] := Have.get (k := 0) hn rfl
    have z1 : u 1 = .int .i64 (nd : Int) := Have.get (k := 1) hn rfl
    have z2 : u 2 = .pointer (some ⟨w.heap.size + 1, 0, none⟩) := Have.get (k := 2) hn rfl
    have z3 : u 3 = .int .i64 s3 := Have.get (k := 3) hn rfl
    have z4 : u 4 = .agg #[.int .i64 (nd : Int), .int .i64 s3] := Have.get (k := 4) hn rfl
    have f5 : (PtrE W0.heap.size 214 #[.int .i64 0, .int .i64 0]) W (u 5) () (β 5) := Have.get (k := 5) hn rfl
    obtain ⟨bp, g5, hbp, _, hlp⟩ := f5
    simp only [z0, z1, z2, z3, z4, g5]
    have c0 := hbp.cell 0 _ rfl
    have c1 := hbp.cell 1 _ rfl
    have d0 := hbp.frozen 0
    have d1 := hbp.frozen 1
    have HK := Lib.hid hK
    clear hK hn hdis hbnd z0 z1 z2 z3 z4
    go_simp
    refine HK.out _ _ ?_
    clear HK
    have x5 := (hbp.set 0 (.int .i64 (nd : Int))).set 1 (.int .i64 s3)
    have hpw : w.heap.size ≤ bp := by omega
    have HB1 := ((HB.out.trans (hW.mono HB.out.size)).setCell (p := ⟨bp, 0, none⟩) hpw (.int .i64 (nd : Int))).setCell (p := ⟨bp, 1, none⟩) hpw (.int .i64 s3)
    have q1 := ((t1.later hW).other (b := bp) 0 (.int .i64 (nd : Int)) (by omega)).other (b := bp) 1 (.int .i64 s3) (by omega)
    have q2 := ((t2.later hW).other (b := bp) 0 (.int .i64 (nd : Int)) (by omega)).other (b := bp) 1 (.int .i64 s3) (by omega)
    have q3 := ((t3.later hW).other (b := bp) 0 (.int .i64 (nd : Int)) (by omega)).other (b := bp) 1 (.int .i64 s3) (by omega)
    obtain ⟨X0, hX0⟩ : ∃ X0, X0 = (W.setCell ⟨bp, 0, none⟩ (.int .i64 (nd : Int))).setCell ⟨bp, 1, none⟩ (.int .i64 s3) := ⟨_, rfl⟩
    have hX0s : W.heap.size = X0.heap.size := by rw [hX0]; simp
    rw [← hX0] at x5 HB1 q1 q2 q3 ⊢
    have hbl := hbp.lt
    have hWs := hW.size
    have HX := Lib.hid HB1
    have hsX : W0.heap.size ≤ X0.heap.size := by omega
    clear HB1 HB hX0 hX0s t1 t2 t3 hbp c0 c1 d0 d1 g5 hW RC
    generalize u 0 = z0; generalize u 1 = z1; generalize u 2 = z2; generalize u 3 = z3; generalize u 4 = z4; generalize u 5 = z5
    go_upto_region 2 with fail
    refine wp_region_free_last (by kernel_rfl) [
        .val [] (fun _ => .pointer (some ⟨w.heap.size, 0, none⟩)),
        .val [] (fun _ => .int .i64 s1),
        .val [] (fun _ => .pointer (some ⟨w.heap.size + 1, 0, none⟩)),
        .val [] (fun _ => .int .i64 s3),
        .val [] (fun _ => .int .i64 (s1 * s3)),
        .val [] (fun _ => .agg #[.int .i64 (nd : Int), .int .i64 s3]),
        .val [] (fun _ => .pointer (some ⟨w.heap.size, 1, none⟩)),
        .val [] (fun _ => .int .i64 s2),
        .val [] (fun _ => .pointer (some ⟨w.heap.size + 1, 1, none⟩)),
        .val [] (fun _ => .int .i64 s4),
        .val [] (fun _ => .int .i64 st),
        .val [] (fun _ => .pointer (some ⟨w.heap.size, 2, none⟩)),
        .val [] (fun _ => .slice A1 nc k1),
        .val [] (fun _ => .pointer (some ⟨w.heap.size + 1, 2, none⟩)),
        .val [] (fun _ => .slice B1 nd j1),
        .val [] (fun _ => .func (.func f) #[] #[]),
        .own (BoolsE X0.heap.size) P1,
        .val [] (fun _ => .pointer (some ⟨w.heap.size, 3, none⟩)),
        .val [] (fun _ => .slice A2 nc k2),
        .val [] (fun _ => .pointer (some ⟨w.heap.size + 1, 3, none⟩)),
        .val [] (fun _ => .slice B2 nd j2),
        .val [] (fun _ => .agg #[.int .i64 (nd : Int), .int .i64 s3]),
        .val [] (fun _ => .func (.func 193) #[.agg #[.int .i64 (nd : Int), .int .i64 s3]] #[]),
        .own (Push2E X0.heap.size) P2,
        .val [] (fun _ => .pointer (some ⟨w.heap.size, 4, none⟩)),
        .val [] (fun _ => .slice A3 nc k3),
        .val [] (fun _ => .pointer (some ⟨w.heap.size + 1, 4, none⟩)),
        .val [] (fun _ => .slice B3 nd j3),
        .val [] (fun _ => .agg #[.int .i64 (nd : Int), .int .i64 s3]),
        .val [] (fun _ => .func (.func 195) #[.agg #[.int .i64 (nd : Int), .int .i64 s3]] #[]),
        .own (Ints3E X0.heap.size) P3,
        .val [] (fun _ => .pointer (some ⟨w.heap.size, 5, none⟩)),
        .val [] (fun _ => .slice A4 nc k4),
        .val [] (fun _ => .pointer (some ⟨w.heap.size + 1, 5, none⟩)),
        .val [] (fun _ => .slice B4 nd j4),
        .val [] (fun _ => .agg #[.int .i64 (nd : Int), .int .i64 s3]),
        .val [] (fun _ => .func (.func 197) #[.agg #[.int .i64 (nd : Int), .int .i64 s3]] #[]),
        .own (Ints2E X0.heap.size) P4,
        .val [16, 23, 30, 37] (fun u => .agg #[.int .i64 (s1 * s3), .int .i64 st, u 16, u 23, u 30, u 37])] ?hp ?hfw ?deps ?oks ?hl ?hpos ?steps
    case hp => kernel_rfl
    case hfw => kernel_rfl
    case deps => kernel_rfl
    case hl => kernel_rfl
    case hpos => kernel_rfl
    case oks =>
      intro F hF
      simp only [List.mem_cons, List.not_mem_nil, or_false] at hF
      rcases hF with rfl | rfl | rfl | rfl | rfl | rfl | rfl | rfl | rfl | rfl | rfl | rfl | rfl | rfl | rfl | rfl | rfl | rfl | rfl | rfl | rfl | rfl | rfl | rfl | rfl | rfl | rfl | rfl | rfl | rfl | rfl | rfl | rfl | rfl | rfl | rfl | rfl | rfl | rfl
      · trivial
      · trivial
      · trivial
      · trivial
      · trivial
      · trivial
      · trivial
      · trivial
      · trivial
      · trivial
      · trivial
      · trivial
      · trivial
      · trivial
      · trivial
      · trivial
      · exact ⟨_, bools_ok _⟩
      · trivial
      · trivial
      · trivial
      · trivial
      · trivial
      · trivial
      · exact ⟨_, push2_ok _⟩
      · trivial
      · trivial
      · trivial
      · trivial
      · trivial
      · trivial
      · exact ⟨_, ints3_ok _⟩
      · trivial
      · trivial
      · trivial
      · trivial
      · trivial
      · trivial
      · exact ⟨_, ints2_ok _⟩
      · trivial
    case steps =>
      refine StepsL.cons ?_ ?_
      · refine FreeStep.val [] _ rfl rfl fun u β W hW hn fr hfr K hK => ?_
        simp only [frameL, putL, Act.put, List.setIfInBounds_toArray, List.set_cons_zero, List.set_cons_succ, Nat.zero_add, Nat.reduceAdd] at hfr
        subst hfr
        have HK := Lib.hid hK
        clear hK hn
        go_simp
        have h9 := HK.out
        revert h9
        clear HK
        go_simp
        try exact id
      refine StepsL.cons ?_ ?_
      · refine FreeStep.val [] _ rfl rfl fun u β W hW hn fr hfr K hK => ?_
        simp only [frameL, putL, Act.put, List.setIfInBounds_toArray, List.set_cons_zero, List.set_cons_succ, Nat.zero_add, Nat.reduceAdd] at hfr
        subst hfr
        have e0 : u 0 = .pointer (some ⟨w.heap.size, 0, none⟩) := Have.get (k := 0) hn rfl
        simp only [e0] at hK
        have c0 := cellL (q1.cell 0 _ rfl) hW
        have HK := Lib.hid hK
        clear hK hn
        go_simp
        have h9 := HK.out
        revert h9
        clear HK
        go_simp
        try exact id
      refine StepsL.cons ?_ ?_
      · refine FreeStep.val [] _ rfl rfl fun u β W hW hn fr hfr K hK => ?_
        simp only [frameL, putL, Act.put, List.setIfInBounds_toArray, List.set_cons_zero, List.set_cons_succ, Nat.zero_add, Nat.reduceAdd] at hfr
        subst hfr
        have HK := Lib.hid hK
        clear hK hn
        go_simp
        have h9 := HK.out
        revert h9
        clear HK
        go_simp
        try exact id
      refine StepsL.cons ?_ ?_
      · refine FreeStep.val [] _ rfl rfl fun u β W hW hn fr hfr K hK => ?_
        simp only [frameL, putL, Act.put, List.setIfInBounds_toArray, List.set_cons_zero, List.set_cons_succ, Nat.zero_add, Nat.reduceAdd] at hfr
        subst hfr
        have e2 : u 2 = .pointer (some ⟨w.heap.size + 1, 0, none⟩) := Have.get (k := 2) hn rfl
        simp only [e2] at hK
        have c0 := cellL (q2.cell 0 _ rfl) hW
        have HK := Lib.hid hK
        clear hK hn
        go_simp
        have h9 := HK.out
        revert h9
        clear HK
        go_simp
        try exact id
      refine StepsL.cons ?_ ?_
      · refine FreeStep.val [] _ rfl rfl fun u β W hW hn fr hfr K hK => ?_
        simp only [frameL, putL, Act.put, List.setIfInBounds_toArray, List.set_cons_zero, List.set_cons_succ, Nat.zero_add, Nat.reduceAdd] at hfr
        subst hfr
        have e1 : u 1 = .int .i64 s1 := Have.get (k := 1) hn rfl
        have e3 : u 3 = .int .i64 s3 := Have.get (k := 3) hn rfl
        simp only [e1, e3] at hK
        have HK := Lib.hid hK
        clear hK hn
        go_simp
        have h9 := HK.out
        revert h9
        clear HK
        go_simp
        try exact id
      refine StepsL.cons ?_ ?_
      · refine FreeStep.val [] _ rfl rfl fun u β W hW hn fr hfr K hK => ?_
        simp only [frameL, putL, Act.put, List.setIfInBounds_toArray, List.set_cons_zero, List.set_cons_succ, Nat.zero_add, Nat.reduceAdd] at hfr
        subst hfr
        have c0 := cellL (x5.cell 0 _ rfl) hW
        have c1 := cellL (x5.cell 1 _ rfl) hW
        have HK := Lib.hid hK
        clear hK hn
        go_simp
        have h9 := HK.out
        revert h9
        clear HK
        go_simp
        try exact id
      refine StepsL.cons ?_ ?_
      · refine FreeStep.val [] _ rfl rfl fun u β W hW hn fr hfr K hK => ?_
        simp only [frameL, putL, Act.put, List.setIfInBounds_toArray, List.set_cons_zero, List.set_cons_succ, Nat.zero_add, Nat.reduceAdd] at hfr
        subst hfr
        have HK := Lib.hid hK
        clear hK hn
        go_simp
        have h9 := HK.out
        revert h9
        clear HK
        go_simp
        try exact id
      refine StepsL.cons ?_ ?_
      · refine FreeStep.val [] _ rfl rfl fun u β W hW hn fr hfr K hK => ?_
        simp only [frameL, putL, Act.put, List.setIfInBounds_toArray, List.set_cons_zero, List.set_cons_succ, Nat.zero_add, Nat.reduceAdd] at hfr
        subst hfr
        have e6 : u 6 = .pointer (some ⟨w.heap.size, 1, none⟩) := Have.get (k := 6) hn rfl
        simp only [e6] at hK
        have c1 := cellL (q1.cell 1 _ rfl) hW
        have HK := Lib.hid hK
        clear hK hn
        go_simp
        have h9 := HK.out
        revert h9
        clear HK
        go_simp
        try exact id
      refine StepsL.cons ?_ ?_
      · refine FreeStep.val [] _ rfl rfl fun u β W hW hn fr hfr K hK => ?_
        simp only [frameL, putL, Act.put, List.setIfInBounds_toArray, List.set_cons_zero, List.set_cons_succ, Nat.zero_add, Nat.reduceAdd] at hfr
        subst hfr
        have HK := Lib.hid hK
        clear hK hn
        go_simp
        have h9 := HK.out
        revert h9
        clear HK
        go_simp
        try exact id
      refine StepsL.cons ?_ ?_
      · refine FreeStep.val [] _ rfl rfl fun u β W hW hn fr hfr K hK => ?_
        simp only [frameL, putL, Act.put, List.setIfInBounds_toArray, List.set_cons_zero, List.set_cons_succ, Nat.zero_add, Nat.reduceAdd] at hfr
        subst hfr
        have e8 : u 8 = .pointer (some ⟨w.heap.size + 1, 1, none⟩) := Have.get (k := 8) hn rfl
        simp only [e8] at hK
        have c1 := cellL (q2.cell 1 _ rfl) hW
        have HK := Lib.hid hK
        clear hK hn
        go_simp
        have h9 := HK.out
        revert h9
        clear HK
        go_simp
        try exact id
      refine StepsL.cons ?_ ?_
      · refine FreeStep.calm [] _ rfl rfl fun u β W hW hn fr hfr K hK => ?_
        simp only [frameL, putL, Act.put, List.setIfInBounds_toArray, List.set_cons_zero, List.set_cons_succ, Nat.zero_add, Nat.reduceAdd] at hfr
        subst hfr
        have e5 : u 5 = .agg #[.int .i64 (nd : Int), .int .i64 s3] := Have.get (k := 5) hn rfl
        have e7 : u 7 = .int .i64 s2 := Have.get (k := 7) hn rfl
        have e9 : u 9 = .int .i64 s4 := Have.get (k := 9) hn rfl
        simp only [e5, e7, e9] at hK
        have Q := Lib.hid (R10.out W)
        have HK := Lib.hid hK
        clear hK hn
        go_simp
        refine Q.out.mono ?_
        rintro e w9 ⟨rfl, hb9⟩
        exact HK.out w9 hb9
      refine StepsL.cons ?_ ?_
      · refine FreeStep.val [] _ rfl rfl fun u β W hW hn fr hfr K hK => ?_
        simp only [frameL, putL, Act.put, List.setIfInBounds_toArray, List.set_cons_zero, List.set_cons_succ, Nat.zero_add, Nat.reduceAdd] at hfr
        subst hfr
        have HK := Lib.hid hK
        clear hK hn
        go_simp
        have h9 := HK.out
        revert h9
        clear HK
        go_simp
        try exact id
      refine StepsL.cons ?_ ?_
      · refine FreeStep.val [] _ rfl rfl fun u β W hW hn fr hfr K hK => ?_
        simp only [frameL, putL, Act.put, List.setIfInBounds_toArray, List.set_cons_zero, List.set_cons_succ, Nat.zero_add, Nat.reduceAdd] at hfr
        subst hfr
        have e11 : u 11 = .pointer (some ⟨w.heap.size, 2, none⟩) := Have.get (k := 11) hn rfl
        simp only [e11] at hK
        have c2 := cellL (q1.cell 2 _ rfl) hW
        have HK := Lib.hid hK
        clear hK hn
        go_simp
        have h9 := HK.out
        revert h9
        clear HK
        go_simp
        try exact id
      refine StepsL.cons ?_ ?_
      · refine FreeStep.val [] _ rfl rfl fun u β W hW hn fr hfr K hK => ?_
        simp only [frameL, putL, Act.put, List.setIfInBounds_toArray, List.set_cons_zero, List.set_cons_succ, Nat.zero_add, Nat.reduceAdd] at hfr
        subst hfr
        have HK := Lib.hid hK
        clear hK hn
        go_simp
        have h9 := HK.out
        revert h9
        clear HK
        go_simp
        try exact id
      refine StepsL.cons ?_ ?_
      · refine FreeStep.val [] _ rfl rfl fun u β W hW hn fr hfr K hK => ?_
        simp only [frameL, putL, Act.put, List.setIfInBounds_toArray, List.set_cons_zero, List.set_cons_succ, Nat.zero_add, Nat.reduceAdd] at hfr
        subst hfr
        have e13 : u 13 = .pointer (some ⟨w.heap.size + 1, 2, none⟩) := Have.get (k := 13) hn rfl
        simp only [e13] at hK
        have c2 := cellL (q2.cell 2 _ rfl) hW
        have HK := Lib.hid hK
        clear hK hn
        go_simp
        have h9 := HK.out
        revert h9
        clear HK
        go_simp
        try exact id
      refine StepsL.cons ?_ ?_
      · refine FreeStep.val [] _ rfl rfl fun u β W hW hn fr hfr K hK => ?_
        simp only [frameL, putL, Act.put, List.setIfInBounds_toArray, List.set_cons_zero, List.set_cons_succ, Nat.zero_add, Nat.reduceAdd] at hfr
        subst hfr
        have HK := Lib.hid hK
        clear hK hn
        go_simp
        have h9 := HK.out
        revert h9
        clear HK
        go_simp
        try exact id
      refine StepsL.cons ?_ ?_
      · refine FreeStep.own (base := X0.heap.size) rfl (bools_ok _) fun u β W hW hn fr hfr K hK => ?_
        simp only [frameL, putL, Act.put, List.setIfInBounds_toArray, List.set_cons_zero, List.set_cons_succ, Nat.zero_add, Nat.reduceAdd] at hfr
        subst hfr
        have e12 : u 12 = .slice A1 nc k1 := Have.get (k := 12) hn rfl
        have e14 : u 14 = .slice B1 nd j1 := Have.get (k := 14) hn rfl
        have e15 : u 15 = .func (.func f) #[] #[] := Have.get (k := 15) hn rfl
        simp only [e12, e14, e15] at hK
        have hsz := hW.size
        have Q := Lib.hid (R16.out W (HX.out.trans (hW.mono HX.out.size)))
        have HK := Lib.hid hK
        clear hK hn
        go_simp
        refine Q.out.mono ?_
        rintro e w9 ⟨v9, cs9, rfl, h9, hb9⟩
        exact HK.out v9 cs9 w9 hb9 (bools_base hsz _ _ _ _ h9) (fun b hb => ((bools_ok _).lt h9 b hb).1)
      refine StepsL.cons ?_ ?_
      · refine FreeStep.val [] _ rfl rfl fun u β W hW hn fr hfr K hK => ?_
        simp only [frameL, putL, Act.put, List.setIfInBounds_toArray, List.set_cons_zero, List.set_cons_succ, Nat.zero_add, Nat.reduceAdd] at hfr
        subst hfr
        have HK := Lib.hid hK
        clear hK hn
        go_simp
        have h9 := HK.out
        revert h9
        clear HK
        go_simp
        try exact id
      refine StepsL.cons ?_ ?_
      · refine FreeStep.val [] _ rfl rfl fun u β W hW hn fr hfr K hK => ?_
        simp only [frameL, putL, Act.put, List.setIfInBounds_toArray, List.set_cons_zero, List.set_cons_succ, Nat.zero_add, Nat.reduceAdd] at hfr
        subst hfr
        have e17 : u 17 = .pointer (some ⟨w.heap.size, 3, none⟩) := Have.get (k := 17) hn rfl
        simp only [e17] at hK
        have c3 := cellL (q1.cell 3 _ rfl) hW
        have HK := Lib.hid hK
        clear hK hn
        go_simp
        have h9 := HK.out
        revert h9
        clear HK
        go_simp
        try exact id
      refine StepsL.cons ?_ ?_
      · refine FreeStep.val [] _ rfl rfl fun u β W hW hn fr hfr K hK => ?_
        simp only [frameL, putL, Act.put, List.setIfInBounds_toArray, List.set_cons_zero, List.set_cons_succ, Nat.zero_add, Nat.reduceAdd] at hfr
        subst hfr
        have HK := Lib.hid hK
        clear hK hn
        go_simp
        have h9 := HK.out
        revert h9
        clear HK
        go_simp
        try exact id
      refine StepsL.cons ?_ ?_
      · refine FreeStep.val [] _ rfl rfl fun u β W hW hn fr hfr K hK => ?_
        simp only [frameL, putL, Act.put, List.setIfInBounds_toArray, List.set_cons_zero, List.set_cons_succ, Nat.zero_add, Nat.reduceAdd] at hfr
        subst hfr
        have e19 : u 19 = .pointer (some ⟨w.heap.size + 1, 3, none⟩) := Have.get (k := 19) hn rfl
        simp only [e19] at hK
        have c3 := cellL (q2.cell 3 _ rfl) hW
        have HK := Lib.hid hK
        clear hK hn
        go_simp
        have h9 := HK.out
        revert h9
        clear HK
        go_simp
        try exact id
      refine StepsL.cons ?_ ?_
      · refine FreeStep.val [] _ rfl rfl fun u β W hW hn fr hfr K hK => ?_
        simp only [frameL, putL, Act.put, List.setIfInBounds_toArray, List.set_cons_zero, List.set_cons_succ, Nat.zero_add, Nat.reduceAdd] at hfr
        subst hfr
        have c0 := cellL (x5.cell 0 _ rfl) hW
        have c1 := cellL (x5.cell 1 _ rfl) hW
        have HK := Lib.hid hK
        clear hK hn
        go_simp
        have h9 := HK.out
        revert h9
        clear HK
        go_simp
        try exact id
      refine StepsL.cons ?_ ?_
      · refine FreeStep.val [] _ rfl rfl fun u β W hW hn fr hfr K hK => ?_
        simp only [frameL, putL, Act.put, List.setIfInBounds_toArray, List.set_cons_zero, List.set_cons_succ, Nat.zero_add, Nat.reduceAdd] at hfr
        subst hfr
        have e21 : u 21 = .agg #[.int .i64 (nd : Int), .int .i64 s3] := Have.get (k := 21) hn rfl
        simp only [e21] at hK
        have HK := Lib.hid hK
        clear hK hn
        go_simp
        have h9 := HK.out
        revert h9
        clear HK
        go_simp
        try exact id
      refine StepsL.cons ?_ ?_
      · refine FreeStep.own (base := X0.heap.size) rfl (push2_ok _) fun u β W hW hn fr hfr K hK => ?_
        simp only [frameL, putL, Act.put, List.setIfInBounds_toArray, List.set_cons_zero, List.set_cons_succ, Nat.zero_add, Nat.reduceAdd] at hfr
        subst hfr
        have e18 : u 18 = .slice A2 nc k2 := Have.get (k := 18) hn rfl
        have e20 : u 20 = .slice B2 nd j2 := Have.get (k := 20) hn rfl
        have e22 : u 22 = .func (.func 193) #[.agg #[.int .i64 (nd : Int), .int .i64 s3]] #[] := Have.get (k := 22) hn rfl
        simp only [e18, e20, e22] at hK
        have hsz := hW.size
        have Q := Lib.hid (R23.out W (HX.out.trans (hW.mono HX.out.size)))
        have HK := Lib.hid hK
        clear hK hn
        go_simp
        refine Q.out.mono ?_
        rintro e w9 ⟨v9, cs9, rfl, h9, hb9⟩
        exact HK.out v9 cs9 w9 hb9 (pushes2_base hsz _ _ _ _ h9) (fun b hb => ((push2_ok _).lt h9 b hb).1)
      refine StepsL.cons ?_ ?_
      · refine FreeStep.val [] _ rfl rfl fun u β W hW hn fr hfr K hK => ?_
        simp only [frameL, putL, Act.put, List.setIfInBounds_toArray, List.set_cons_zero, List.set_cons_succ, Nat.zero_add, Nat.reduceAdd] at hfr
        subst hfr
        have HK := Lib.hid hK
        clear hK hn
        go_simp
        have h9 := HK.out
        revert h9
        clear HK
        go_simp
        try exact id
      refine StepsL.cons ?_ ?_
      · refine FreeStep.val [] _ rfl rfl fun u β W hW hn fr hfr K hK => ?_
        simp only [frameL, putL, Act.put, List.setIfInBounds_toArray, List.set_cons_zero, List.set_cons_succ, Nat.zero_add, Nat.reduceAdd] at hfr
        subst hfr
        have e24 : u 24 = .pointer (some ⟨w.heap.size, 4, none⟩) := Have.get (k := 24) hn rfl
        simp only [e24] at hK
        have c4 := cellL (q1.cell 4 _ rfl) hW
        have HK := Lib.hid hK
        clear hK hn
        go_simp
        have h9 := HK.out
        revert h9
        clear HK
        go_simp
        try exact id
      refine StepsL.cons ?_ ?_
      · refine FreeStep.val [] _ rfl rfl fun u β W hW hn fr hfr K hK => ?_
        simp only [frameL, putL, Act.put, List.setIfInBounds_toArray, List.set_cons_zero, List.set_cons_succ, Nat.zero_add, Nat.reduceAdd] at hfr
        subst hfr
        have HK := Lib.hid hK
        clear hK hn
        go_simp
        have h9 := HK.out
        revert h9
        clear HK
        go_simp
        try exact id
      refine StepsL.cons ?_ ?_
      · refine FreeStep.val [] _ rfl rfl fun u β W hW hn fr hfr K hK => ?_
        simp only [frameL, putL, Act.put, List.setIfInBounds_toArray, List.set_cons_zero, List.set_cons_succ, Nat.zero_add, Nat.reduceAdd] at hfr
        subst hfr
        have e26 : u 26 = .pointer (some ⟨w.heap.size + 1, 4, none⟩) := Have.get (k := 26) hn rfl
        simp only [e26] at hK
        have c4 := cellL (q2.cell 4 _ rfl) hW
        have HK := Lib.hid hK
        clear hK hn
        go_simp
        have h9 := HK.out
        revert h9
        clear HK
        go_simp
        try exact id
      refine StepsL.cons ?_ ?_
      · refine FreeStep.val [] _ rfl rfl fun u β W hW hn fr hfr K hK => ?_
        simp only [frameL, putL, Act.put, List.setIfInBounds_toArray, List.set_cons_zero, List.set_cons_succ, Nat.zero_add, Nat.reduceAdd] at hfr
        subst hfr
        have c0 := cellL (x5.cell 0 _ rfl) hW
        have c1 := cellL (x5.cell 1 _ rfl) hW
        have HK := Lib.hid hK
        clear hK hn
        go_simp
        have h9 := HK.out
        revert h9
        clear HK
        go_simp
        try exact id
      refine StepsL.cons ?_ ?_
      · refine FreeStep.val [] _ rfl rfl fun u β W hW hn fr hfr K hK => ?_
        simp only [frameL, putL, Act.put, List.setIfInBounds_toArray, List.set_cons_zero, List.set_cons_succ, Nat.zero_add, Nat.reduceAdd] at hfr
        subst hfr
        have e28 : u 28 = .agg #[.int .i64 (nd : Int), .int .i64 s3] := Have.get (k := 28) hn rfl
        simp only [e28] at hK
        have HK := Lib.hid hK
        clear hK hn
        go_simp
        have h9 := HK.out
        revert h9
        clear HK
        go_simp
        try exact id
      refine StepsL.cons ?_ ?_
      · refine FreeStep.own (base := X0.heap.size) rfl (ints3_ok _) fun u β W hW hn fr hfr K hK => ?_
        simp only [frameL, putL, Act.put, List.setIfInBounds_toArray, List.set_cons_zero, List.set_cons_succ, Nat.zero_add, Nat.reduceAdd] at hfr
        subst hfr
        have e25 : u 25 = .slice A3 nc k3 := Have.get (k := 25) hn rfl
        have e27 : u 27 = .slice B3 nd j3 := Have.get (k := 27) hn rfl
        have e29 : u 29 = .func (.func 195) #[.agg #[.int .i64 (nd : Int), .int .i64 s3]] #[] := Have.get (k := 29) hn rfl
        simp only [e25, e27, e29] at hK
        have hsz := hW.size
        have Q := Lib.hid (R30.out W (HX.out.trans (hW.mono HX.out.size)))
        have HK := Lib.hid hK
        clear hK hn
        go_simp
        refine Q.out.mono ?_
        rintro e w9 ⟨v9, cs9, rfl, h9, hb9⟩
        exact HK.out v9 cs9 w9 hb9 (ints3_base hsz _ _ _ _ h9) (fun b hb => ((ints3_ok _).lt h9 b hb).1)
      refine StepsL.cons ?_ ?_
      · refine FreeStep.val [] _ rfl rfl fun u β W hW hn fr hfr K hK => ?_
        simp only [frameL, putL, Act.put, List.setIfInBounds_toArray, List.set_cons_zero, List.set_cons_succ, Nat.zero_add, Nat.reduceAdd] at hfr
        subst hfr
        have HK := Lib.hid hK
        clear hK hn
        go_simp
        have h9 := HK.out
        revert h9
        clear HK
        go_simp
        try exact id
      refine StepsL.cons ?_ ?_
      · refine FreeStep.val [] _ rfl rfl fun u β W hW hn fr hfr K hK => ?_
        simp only [frameL, putL, Act.put, List.setIfInBounds_toArray, List.set_cons_zero, List.set_cons_succ, Nat.zero_add, Nat.reduceAdd] at hfr
        subst hfr
        have e31 : u 31 = .pointer (some ⟨w.heap.size, 5, none⟩) := Have.get (k := 31) hn rfl
        simp only [e31] at hK
        have c5 := cellL (q1.cell 5 _ rfl) hW
        have HK := Lib.hid hK
        clear hK hn
        go_simp
        have h9 := HK.out
        revert h9
        clear HK
        go_simp
        try exact id
      refine StepsL.cons ?_ ?_
      · refine FreeStep.val [] _ rfl rfl fun u β W hW hn fr hfr K hK => ?_
        simp only [frameL, putL, Act.put, List.setIfInBounds_toArray, List.set_cons_zero, List.set_cons_succ, Nat.zero_add, Nat.reduceAdd] at hfr
        subst hfr
        have HK := Lib.hid hK
        clear hK hn
        go_simp
        have h9 := HK.out
        revert h9
        clear HK
        go_simp
        try exact id
      refine StepsL.cons ?_ ?_
      · refine FreeStep.val [] _ rfl rfl fun u β W hW hn fr hfr K hK => ?_
        simp only [frameL, putL, Act.put, List.setIfInBounds_toArray, List.set_cons_zero, List.set_cons_succ, Nat.zero_add, Nat.reduceAdd] at hfr
        subst hfr
        have e33 : u 33 = .pointer (some ⟨w.heap.size + 1, 5, none⟩) := Have.get (k := 33) hn rfl
        simp only [e33] at hK
        have c5 := cellL (q2.cell 5 _ rfl) hW
        have HK := Lib.hid hK
        clear hK hn
        go_simp
        have h9 := HK.out
        revert h9
        clear HK
        go_simp
        try exact id
      refine StepsL.cons ?_ ?_
      · refine FreeStep.val [] _ rfl rfl fun u β W hW hn fr hfr K hK => ?_
        simp only [frameL, putL, Act.put, List.setIfInBounds_toArray, List.set_cons_zero, List.set_cons_succ, Nat.zero_add, Nat.reduceAdd] at hfr
        subst hfr
        have c0 := cellL (x5.cell 0 _ rfl) hW
        have c1 := cellL (x5.cell 1 _ rfl) hW
        have HK := Lib.hid hK
        clear hK hn
        go_simp
        have h9 := HK.out
        revert h9
        clear HK
        go_simp
        try exact id
      refine StepsL.cons ?_ ?_
      · refine FreeStep.val [] _ rfl rfl fun u β W hW hn fr hfr K hK => ?_
        simp only [frameL, putL, Act.put, List.setIfInBounds_toArray, List.set_cons_zero, List.set_cons_succ, Nat.zero_add, Nat.reduceAdd] at hfr
        subst hfr
        have e35 : u 35 = .agg #[.int .i64 (nd : Int), .int .i64 s3] := Have.get (k := 35) hn rfl
        simp only [e35] at hK
        have HK := Lib.hid hK
        clear hK hn
        go_simp
        have h9 := HK.out
        revert h9
        clear HK
        go_simp
        try exact id
      refine StepsL.cons ?_ ?_
      · refine FreeStep.own (base := X0.heap.size) rfl (ints2_ok _) fun u β W hW hn fr hfr K hK => ?_
        simp only [frameL, putL, Act.put, List.setIfInBounds_toArray, List.set_cons_zero, List.set_cons_succ, Nat.zero_add, Nat.reduceAdd] at hfr
        subst hfr
        have e32 : u 32 = .slice A4 nc k4 := Have.get (k := 32) hn rfl
        have e34 : u 34 = .slice B4 nd j4 := Have.get (k := 34) hn rfl
        have e36 : u 36 = .func (.func 197) #[.agg #[.int .i64 (nd : Int), .int .i64 s3]] #[] := Have.get (k := 36) hn rfl
        simp only [e32, e34, e36] at hK
        have hsz := hW.size
        have Q := Lib.hid (R37.out W (HX.out.trans (hW.mono HX.out.size)))
        have HK := Lib.hid hK
        clear hK hn
        go_simp
        refine Q.out.mono ?_
        rintro e w9 ⟨v9, cs9, rfl, h9, hb9⟩
        exact HK.out v9 cs9 w9 hb9 (ints2_base hsz _ _ _ _ h9) (fun b hb => ((ints2_ok _).lt h9 b hb).1)
      refine StepsL.cons ?_ ?_
      · refine FreeStep.val [16, 23, 30, 37] _ rfl rfl fun u β W hW hn fr hfr K hK => ?_
        simp only [frameL, putL, Act.put, List.setIfInBounds_toArray, List.set_cons_zero, List.set_cons_succ, Nat.zero_add, Nat.reduceAdd] at hfr
        subst hfr
        have e4 : u 4 = .int .i64 (s1 * s3) := Have.get (k := 4) hn rfl
        have e10 : u 10 = .int .i64 st := Have.get (k := 10) hn rfl
        have f16 : (BoolsE X0.heap.size) W (u 16) P1 (β 16) := Have.get (k := 16) hn rfl
        have f23 : (Push2E X0.heap.size) W (u 23) P2 (β 23) := Have.get (k := 23) hn rfl
        have f30 : (Ints3E X0.heap.size) W (u 30) P3 (β 30) := Have.get (k := 30) hn rfl
        have f37 : (Ints2E X0.heap.size) W (u 37) P4 (β 37) := Have.get (k := 37) hn rfl
        obtain ⟨A16, k16, g16⟩ := RowE.slice f16
        obtain ⟨A23, k23, g23⟩ := ManyE.slice f23
        obtain ⟨A30, k30, g30⟩ := ManyE.slice f30
        obtain ⟨A37, k37, g37⟩ := ManyE.slice f37
        have hon16 : only [16, 23, 30, 37] u 16 = u 16 := rfl
        have hon23 : only [16, 23, 30, 37] u 23 = u 23 := rfl
        have hon30 : only [16, 23, 30, 37] u 30 = u 30 := rfl
        have hon37 : only [16, 23, 30, 37] u 37 = u 37 := rfl
        simp only [hon37, hon30, hon23, hon16, e4, e10, g16, g23, g30, g37] at hK
        have HK := Lib.hid hK
        clear hK hn hon16 hon23 hon30 hon37 f16 f23 f30 f37
        go_simp
        exact HK.out
      intro u β W hW hn hdis hbnd fr hfr K hK
      simp only [frameL, putL, Act.put, List.setIfInBounds_toArray, List.set_cons_zero, List.set_cons_succ, Nat.zero_add, Nat.reduceAdd] at hfr
      subst hfr
      have z0 : u 0 = .pointer (some ⟨w.heap.size, 0, none⟩) := Have.get (k := 0) hn rfl
      have z1 : u 1 = .int .i64 s1 := Have.get (k := 1) hn rfl
      have z2 : u 2 = .pointer (some ⟨w.heap.size + 1, 0, none⟩) := Have.get (k := 2) hn rfl
      have z3 : u 3 = .int .i64 s3 := Have.get (k := 3) hn rfl
      have z4 : u 4 = .int .i64 (s1 * s3) := Have.get (k := 4) hn rfl
      have z5 : u 5 = .agg #[.int .i64 (nd : Int), .int .i64 s3] := Have.get (k := 5) hn rfl
      have z6 : u 6 = .pointer (some ⟨w.heap.size, 1, none⟩) := Have.get (k := 6) hn rfl
      have z7 : u 7 = .int .i64 s2 := Have.get (k := 7) hn rfl
      have z8 : u 8 = .pointer (some ⟨w.heap.size + 1, 1, none⟩) := Have.get (k := 8) hn rfl
      have z9 : u 9 = .int .i64 s4 := Have.get (k := 9) hn rfl
      have z10 : u 10 = .int .i64 st := Have.get (k := 10) hn rfl
      have z11 : u 11 = .pointer (some ⟨w.heap.size, 2, none⟩) := Have.get (k := 11) hn rfl
      have z12 : u 12 = .slice A1 nc k1 := Have.get (k := 12) hn rfl
      have z13 : u 13 = .pointer (some ⟨w.heap.size + 1, 2, none⟩) := Have.get (k := 13) hn rfl
      have z14 : u 14 = .slice B1 nd j1 := Have.get (k := 14) hn rfl
      have z15 : u 15 = .func (.func f) #[] #[] := Have.get (k := 15) hn rfl
      have f16 : (BoolsE X0.heap.size) W (u 16) P1 (β 16) := Have.get (k := 16) hn rfl
      have z17 : u 17 = .pointer (some ⟨w.heap.size, 3, none⟩) := Have.get (k := 17) hn rfl
      have z18 : u 18 = .slice A2 nc k2 := Have.get (k := 18) hn rfl
      have z19 : u 19 = .pointer (some ⟨w.heap.size + 1, 3, none⟩) := Have.get (k := 19) hn rfl
      have z20 : u 20 = .slice B2 nd j2 := Have.get (k := 20) hn rfl
      have z21 : u 21 = .agg #[.int .i64 (nd : Int), .int .i64 s3] := Have.get (k := 21) hn rfl
      have z22 : u 22 = .func (.func 193) #[.agg #[.int .i64 (nd : Int), .int .i64 s3]] #[] := Have.get (k := 22) hn rfl
      have f23 : (Push2E X0.heap.size) W (u 23) P2 (β 23) := Have.get (k := 23) hn rfl
      have z24 : u 24 = .pointer (some ⟨w.heap.size, 4, none⟩) := Have.get (k := 24) hn rfl
      have z25 : u 25 = .slice A3 nc k3 := Have.get (k := 25) hn rfl
      have z26 : u 26 = .pointer (some ⟨w.heap.size + 1, 4, none⟩) := Have.get (k := 26) hn rfl
      have z27 : u 27 = .slice B3 nd j3 := Have.get (k := 27) hn rfl
      have z28 : u 28 = .agg #[.int .i64 (nd : Int), .int .i64 s3] := Have.get (k := 28) hn rfl
      have z29 : u 29 = .func (.func 195) #[.agg #[.int .i64 (nd : Int), .int .i64 s3]] #[] := Have.get (k := 29) hn rfl
      have f30 : (Ints3E X0.heap.size) W (u 30) P3 (β 30) := Have.get (k := 30) hn rfl
      have z31 : u 31 = .pointer (some ⟨w.heap.size, 5, none⟩) := Have.get (k := 31) hn rfl
      have z32 : u 32 = .slice A4 nc k4 := Have.get (k := 32) hn rfl
      have z33 : u 33 = .pointer (some ⟨w.heap.size + 1, 5, none⟩) := Have.get (k := 33) hn rfl
      have z34 : u 34 = .slice B4 nd j4 := Have.get (k := 34) hn rfl
      have z35 : u 35 = .agg #[.int .i64 (nd : Int), .int .i64 s3] := Have.get (k := 35) hn rfl
      have z36 : u 36 = .func (.func 197) #[.agg #[.int .i64 (nd : Int), .int .i64 s3]] #[] := Have.get (k := 36) hn rfl
      have f37 : (Ints2E X0.heap.size) W (u 37) P4 (β 37) := Have.get (k := 37) hn rfl
      have z38 : u 38 = .agg #[.int .i64 (s1 * s3), .int .i64 st, u 16, u 23, u 30, u 37] := Have.get (k := 38) hn rfl
      obtain ⟨A16, k16, g16⟩ := RowE.slice f16
      obtain ⟨A23, k23, g23⟩ := ManyE.slice f23
      obtain ⟨A30, k30, g30⟩ := ManyE.slice f30
      obtain ⟨A37, k37, g37⟩ := ManyE.slice f37
      rw [L1.out] at g16
      rw [L2.out] at g23
      rw [L3.out] at g30
      rw [L4.out] at g37
      rw [g16] at f16
      rw [g23] at f23
      rw [g30] at f30
      rw [g37] at f37
      have hdis2 : (β 16 ++ (β 23 ++ (β 30 ++ β 37))).Nodup := by
        have dd : ∀ (x y : List Nat), x.Nodup → y.Nodup → (∀ b ∈ x, b ∉ y) → (x ++ y).Nodup := fun x y h1 h2 h3 => List.nodup_append.2 ⟨h1, h2, fun b hb b' hb' e => h3 b hb (e ▸ hb')⟩
        have hh := fun i j (hi : i < 39) (hj : j < 39) (hij : i ≠ j) => hdis i j hi hj hij
        exact dd _ _ ((bools_ok _).nodup f16) (dd _ _ ((push2_ok _).nodup f23) (dd _ _ ((ints3_ok _).nodup f30) ((ints2_ok _).nodup f37) (hh 30 37 (by decide) (by decide) (by decide)))
          (fun b hb h => by rcases List.mem_append.1 h with h | h; exact hh 23 30 (by decide) (by decide) (by decide) b hb h; exact hh 23 37 (by decide) (by decide) (by decide) b hb h))
          (fun b hb h => by
            rcases List.mem_append.1 h with h | h
            · exact hh 16 23 (by decide) (by decide) (by decide) b hb h
            · rcases List.mem_append.1 h with h | h
              · exact hh 16 30 (by decide) (by decide) (by decide) b hb h
              · exact hh 16 37 (by decide) (by decide) (by decide) b hb h)
      simp only [z0, z1, z2, z3, z4, z5, z6, z7, z8, z9, z10, z11, z12, z13, z14, z15, z17, z18, z19, z20, z21, z22, z24, z25, z26, z27, z28, z29, z31, z32, z33, z34, z35, z36, z38, g16, g23, g30, g37]
      have HF := Lib.hid (And.intro f16 (And.intro f23 (And.intro f30 (And.intro f37 (And.intro hdis2 (HX.out.trans (hW.mono HX.out.size)))))))
      have hbx := q3.later hW
      have hsXW := hW.size
      obtain ⟨c0, c1, c2, c3, c4, c5, cl⟩ := id hbx.all6
      have d0 := hbx.frozen 0
      have d1 := hbx.frozen 1
      have d2 := hbx.frozen 2
      have d3 := hbx.frozen 3
      have d4 := hbx.frozen 4
      have d5 := hbx.frozen 5
      have HK := Lib.hid hK
      clear hK hn hdis hbnd z0 z1 z2 z3 z4 z5 z6 z7 z8 z9 z10 z11 z12 z13 z14 z15 z17 z18 z19 z20 z21 z22 z24 z25 z26 z27 z28 z29 z31 z32 z33 z34 z35 z36 z38 f16 f23 f30 f37 hdis2 g16 g23 g30 g37
      go_simp
      refine HK.out _ _ ?_
      clear HK
      clear c0 c1 c2 c3 c4 c5 cl d0 d1 d2 d3 d4 d5
      go_wp2
      obtain ⟨f16, f23, f30, f37, hdis2, hBW⟩ := HF.out
      have x0_ := hbx.set 0 (.int .i64 (s1 * s3))
      have x1_ := x0_.set 1 (.int .i64 st)
      have x2_ := x1_.set 2 (.slice A16 (nc * nd) k16)
      have x3_ := x2_.set 3 (.slice A23 (nc * nd) k23)
      have x4_ := x3_.set 4 (.slice A30 (nc * nd) k30)
      have x5_ := x4_.set 5 (.slice A37 (nc * nd) k37)
      have hfr : ∀ (V : World) (i : Nat) (v : Value) (b : Nat), X0.heap.size ≤ b → (V.setCell ⟨w.heap.size + 1 + 1, i, none⟩ v).heap[b]? = V.heap[b]? := fun V i v b hb => Below.heap_setCell V ⟨w.heap.size + 1 + 1, i, none⟩ v b (fun e => by
        have h2 : b = w.heap.size + 1 + 1 := e
        omega)
      obtain ⟨Wf, hWf⟩ : ∃ Wf, Wf = ((((((W.setCell ⟨w.heap.size + 1 + 1, 0, none⟩ (.int .i64 (s1 * s3))).setCell ⟨w.heap.size + 1 + 1, 1, none⟩ (.int .i64 st)).setCell ⟨w.heap.size + 1 + 1, 2, none⟩ (.slice A16 (nc * nd) k16)).setCell ⟨w.heap.size + 1 + 1, 3, none⟩ (.slice A23 (nc * nd) k23)).setCell ⟨w.heap.size + 1 + 1, 4, none⟩ (.slice A30 (nc * nd) k30)).setCell ⟨w.heap.size + 1 + 1, 5, none⟩ (.slice A37 (nc * nd) k37)) := ⟨_, rfl⟩
      have hkeep : ∀ b, X0.heap.size ≤ b → Wf.heap[b]? = W.heap[b]? := fun b hb => by rw [hWf, hfr _ _ _ b hb, hfr _ _ _ b hb, hfr _ _ _ b hb, hfr _ _ _ b hb, hfr _ _ _ b hb, hfr _ _ _ b hb]
      have hrb : w.heap.size ≤ w.heap.size + 1 + 1 := by omega
      have hBf : Below w.heap.size w Wf := by
        rw [hWf]
        exact ((((((hBW.setCell (p := ⟨w.heap.size + 1 + 1, 0, none⟩) hrb _).setCell (p := ⟨w.heap.size + 1 + 1, 1, none⟩) hrb _).setCell (p := ⟨w.heap.size + 1 + 1, 2, none⟩) hrb _).setCell (p := ⟨w.heap.size + 1 + 1, 3, none⟩) hrb _).setCell (p := ⟨w.heap.size + 1 + 1, 4, none⟩) hrb _).setCell (p := ⟨w.heap.size + 1 + 1, 5, none⟩) hrb _)
      rw [← hWf] at x5_ ⊢
      have hwX : w.heap.size ≤ X0.heap.size := by omega
      have F16 := bools_base hwX _ _ _ _ ((bools_ok _).kept f16 fun b hb => hkeep b ((bools_ok _).lt f16 b hb).1)
      have F23 := pushes2_base hwX _ _ _ _ ((push2_ok _).kept f23 fun b hb => hkeep b ((push2_ok _).lt f23 b hb).1)
      have F30 := ints3_base hwX _ _ _ _ ((ints3_ok _).kept f30 fun b hb => hkeep b ((ints3_ok _).lt f30 b hb).1)
      have F37 := ints2_base hwX _ _ _ _ ((ints2_ok _).kept f37 fun b hb => hkeep b ((ints2_ok _).lt f37 b hb).1)
      have y0 := x5_.cell 0 (.int .i64 (s1 * s3)) rfl
      have y1 := x5_.cell 1 (.int .i64 st) rfl
      have y2 := x5_.cell 2 (.slice A16 (nc * nd) k16) rfl
      have y3 := x5_.cell 3 (.slice A23 (nc * nd) k23) rfl
      have y4 := x5_.cell 4 (.slice A30 (nc * nd) k30) rfl
      have y5 := x5_.cell 5 (.slice A37 (nc * nd) k37) rfl
      have fin : CkE w.heap.size Wf (.agg #[.int .i64 (s1 * s3), .int .i64 st, .slice A16 (nc * nd) k16, .slice A23 (nc * nd) k23, .slice A30 (nc * nd) k30, .slice A37 (nc * nd) k37]) { stack := s1 * s3, start := st, accept := P1, call := P2, ret := P3, inner := P4 } (β 16 ++ (β 23 ++ (β 30 ++ β 37))) := ⟨_, _, _, _, _, _, _, _, rfl, F16, F23, F30, F37, rfl, hdis2⟩
      clear hWf hkeep hfr x0_ x1_ x2_ x3_ x4_ x5_ f16 f23 f30 f37 F16 F23 F30 F37
      exact bodyPost_ret (v := .agg #[.int .i64 (s1 * s3), .int .i64 st, .slice A16 (nc * nd) k16, .slice A23 (nc * nd) k23, .slice A30 (nc * nd) k30, .slice A37 (nc * nd) k37]) (by simp [results, Try.results122, go_sem, y0, y1, y2, y3, y4, y5]) rfl ⟨_, _, rfl, fin, hBf⟩
end Go.Proofs.Ytfaiifiohomdmaa
