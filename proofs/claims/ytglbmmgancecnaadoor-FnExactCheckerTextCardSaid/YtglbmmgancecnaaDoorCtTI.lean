/- The text of a checker, of the program. -/
import Derived.Test.YtglbmmgancecnaaDoorMovN
import Derived.Test.YtglbmmgancecnaaDoorVWalk
import Derived.Test.YtglbmmgancecnaaDoorLitF
import Derived.Test.YtglbmmgancecnaaDoorFree
namespace Go.Proofs.YtglbmmgancecnaaDoor
open Go.RowKit
set_option linter.unusedVariables false

theorem lies_all {base : Nat} {w : World} {va vc vr vi : Value} {c : Ck} {b1 b2 b3 b4 : List Nat} (hok : OkC c)
    (h1 : BoolsE base w va c.accept b1) (h2 : Push2E base w vc c.call b2) (h3 : Ints3E base w vr c.ret b3) (h4 : Ints2E base w vi c.inner b4) :
    ∃ ga ka gc kc gr kr gi ki, va = .slice (some ⟨ga, 0, none⟩) c.accept.length ka ∧ vc = .slice (some ⟨gc, 0, none⟩) c.accept.length kc ∧ vr = .slice (some ⟨gr, 0, none⟩) c.accept.length kr ∧ vi = .slice (some ⟨gi, 0, none⟩) c.accept.length ki ∧
      ∀ s, s < c.accept.length → ∃ x y r q i j gp kp g2 k2 g3 k3 g4 k4 gj kj, AtC c s x y r q i j ∧ LiesAt w (c.accept[s]?.getD false) x y r q i j s ga gc gr gi gp kp g2 k2 g3 k3 g4 k4 gj kj := by
  obtain ⟨x, y, r, q, i, j, hA⟩ := AtC.of hok (s := 0) hok.n1
  obtain ⟨ga, ka, gc, kc, gr, kr, gi, ki, _, _, _, _, _, _, _, _, _, _, rfl, rfl, rfl, rfl, _⟩ := lies_of h1 h2 h3 h4 hA hok.n1
  refine ⟨ga, ka, gc, kc, gr, kr, gi, ki, rfl, by rw [hok.lc], by rw [hok.lr], by rw [hok.li], fun s hs => ?_⟩
  obtain ⟨x, y, r, q, i, j, hA⟩ := AtC.of hok hs
  obtain ⟨ga', ka', gc', kc', gr', kr', gi', ki', gp, kp, g2, k2, g3, k3, g4, k4, gj, kj, e1, e2, e3, e4, hL⟩ := lies_of h1 h2 h3 h4 hA hs
  simp only [Value.slice.injEq, Option.some.injEq, Addr.mk.injEq, and_true, true_and] at e1 e2 e3 e4
  obtain ⟨rfl, _⟩ := e1
  obtain ⟨rfl, _⟩ := e2
  obtain ⟨rfl, _⟩ := e3
  obtain ⟨rfl, _⟩ := e4
  exact ⟨x, y, r, q, i, j, gp, kp, g2, k2, g3, k3, g4, k4, gj, kj, hA, hL⟩

theorem impl_line (t : ByteArray) (g n c : Nat) (xs : List Int) (w : World) (ht : t.size ≤ 1000) (hn : xs.length = n) (hn2 : n ≤ 1000) (hx : Big xs) (hg : g < w.heap.size) (hp : Pow10 w)
    (hc : ∀ (j : Nat) x, xs[j]? = some x → w.cell? ⟨g, j, none⟩ = some (.int .i64 x)) :
    Calls Tryd.prog 20 #[.string t, .slice (some ⟨g, 0, none⟩) n c] w (TupPost (.string (rowT t xs ++ nlB)) w) := by
  have H := Lib.hid (impl_row t g 0 n c xs w (by omega) hn (by omega) hx hg hp (fun j x hj => by rw [Nat.zero_add]; exact hc j x hj))
  have hsz := rowT_size t xs hx
  have hz : nlB.size = 1 := rfl
  rw [hn] at hsz
  rw [show nlB = (⟨#[10]⟩ : ByteArray) from rfl] at hz ⊢
  generalize rowT t xs = R at *
  have hov : ¬ (9223372036854775807 < R.size + 1) := by omega
  clear hn hx hg hp hc
  go_enter Tryd.func20, Tryd.ntmps20
  go_wp2_with fail
  refine H.out.mono ?_
  rintro e w1 ⟨rfl, hb1⟩
  go_wp2
  go_ret
  exact ⟨rfl, hb1⟩

set_option maxHeartbeats 12800000 in
set_option maxRecDepth 100000 in
theorem impl_CheckerText {base : Nat} {v : Value} {c : Ck} {bs : List Nat} (w : World) (hbd : BdC c) (hck : CkE base w v c bs) (hp : Pow10 w) :
    Calls Tryd.prog 7 #[v] w (TupPost (.string (textCk c)) w) := by
  have hV := fun W (hB : Below w.heap.size w W) => impl_ValidChecker W hbd ((ck_ok _).later hck hB)
  obtain ⟨va, vc, vr, vi, b1, b2, b3, b4, rfl, h1, h2, h3, h4, _, _⟩ := hck
  unfold textCk
  cases hk : okM c with
  | false =>
    rw [if_neg (by simp)]
    have x1 := Bx.new w 32 #[.int .i64 c.stack, .int .i64 c.start, va, vc, vr, vi]
    have hB0 := (Below.refl w.heap.size w).alloc (Nat.le_refl _) (.cells #[.int .i64 c.stack, .int .i64 c.start, va, vc, vr, vi] 32)
    have HV := Lib.hid (hV _ hB0)
    rw [hk] at HV
    have HB := Lib.hid hB0
    obtain ⟨c0, c1, c2, c3, c4, c5, cl⟩ := id x1.all6
    clear hV h1 h2 h3 h4 hbd hk hB0 x1
    go_enter Tryd.func7, Tryd.ntmps7
    go_wp2_with fail
    refine HV.out.mono ?_
    rintro e w1 ⟨rfl, hb1⟩
    go_wp2
    go_ret
    exact ⟨rfl, HB.out.trans (hb1.mono HB.out.size)⟩
  | true =>
    rw [if_pos rfl]
    have hok := okC_of hk
    obtain ⟨ga, ka, gc, kc, gr, kr, gi, ki, rfl, rfl, rfl, rfl, hL⟩ := lies_all hok h1 h2 h3 h4
    obtain ⟨n, hn⟩ : ∃ n, n = c.accept.length := ⟨_, rfl⟩
    have hn40 : n ≤ 40 := by rw [hn]; exact hok.n2
    have hbig := head_big hok
    have hHs := headC_size hok
    have hLs := fun s (hs : s < c.accept.length) => lineC_size hok hs
    unfold headC at hHs
    have Htz := Lib.hid (textT_zero c)
    unfold headC at Htz
    rw [← hn] at hL hV hbig hHs hLs Htz ⊢
    have x1 := Bx.new w 32 #[.int .i64 c.stack, .int .i64 c.start, .slice (some ⟨ga, 0, none⟩) n ka, .slice (some ⟨gc, 0, none⟩) n kc, .slice (some ⟨gr, 0, none⟩) n kr, .slice (some ⟨gi, 0, none⟩) n ki]
    have hB0 := (Below.refl w.heap.size w).alloc (Nat.le_refl _) (.cells #[.int .i64 c.stack, .int .i64 c.start, .slice (some ⟨ga, 0, none⟩) n ka, .slice (some ⟨gc, 0, none⟩) n kc, .slice (some ⟨gr, 0, none⟩) n kr, .slice (some ⟨gi, 0, none⟩) n ki] 32)
    have HV := Lib.hid (hV _ hB0)
    rw [hk] at HV
    obtain ⟨W0, hW0⟩ : ∃ W0, W0 = w.alloc (.cells #[.int .i64 c.stack, .int .i64 c.start, .slice (some ⟨ga, 0, none⟩) n ka, .slice (some ⟨gc, 0, none⟩) n kc, .slice (some ⟨gr, 0, none⟩) n kr, .slice (some ⟨gi, 0, none⟩) n ki] 32) := ⟨_, rfl⟩
    rw [← hW0] at x1 hB0 HV
    have HW0 := Lib.hid hW0
    have HL := Lib.hid (fun s hs => by
      obtain ⟨x, y, r, q, i, j, gp, kp, g2, k2, g3, k3, g4, k4, gj, kj, hA, hl⟩ := hL s hs
      exact (⟨x, y, r, q, i, j, gp, kp, g2, k2, g3, k3, g4, k4, gj, kj, hA, hl.later hB0⟩ : ∃ x y r q i j gp kp g2 k2 g3 k3 g4 k4 gj kj, AtC c s x y r q i j ∧ LiesAt W0 (c.accept[s]?.getD false) x y r q i j s ga gc gr gi gp kp g2 k2 g3 k3 g4 k4 gj kj))
    have HH := Lib.hid (fun (W : World) (g cp : Nat) (hg : Bx W g 2 #[.int .i64 (n : Int), .int .i64 c.stack, .int .i64 c.start]) (hW : Below w.heap.size w W) => impl_line ckB g 3 cp [(n : Int), c.stack, c.start] W (by decide) rfl (by omega) hbig hg.lt (hp.later hW) (by
      intro j x hj
      match j, hj with
      | 0, hj => rw [← Option.some.inj hj]; exact hg.cell 0 _ rfl
      | 1, hj => rw [← Option.some.inj hj]; exact hg.cell 1 _ rfl
      | 2, hj => rw [← Option.some.inj hj]; exact hg.cell 2 _ rfl))
    have HM := Lib.hid (fun (t : ByteArray) (g m cp : Nat) (xs : List Int) (W : World) h1 h2 h3 h4 h5 (hW : Below w.heap.size w W) h6 => impl_line t g m cp xs W h1 h2 h3 h4 h5 (hp.later hW) h6)
    have Hls := Lib.hid hLs
    have Hn := Lib.hid hn
    have Hok := Lib.hid hok
    have HB0 := Lib.hid hB0
    have HX := Lib.hid x1
    generalize rowT ckB [(n : Int), c.stack, c.start] ++ nlB = hd at *
    rw [show ckB = (⟨#[99, 104, 101, 99, 107, 101, 114]⟩ : ByteArray) from rfl] at HH
    have hsW := hB0.size
    obtain ⟨c0, c1, c2, c3, c4, c5, cl⟩ := id x1.all6
    clear hV h1 h2 h3 h4 hbd hk hB0 x1 hok hL hbig hLs hn hW0 hp
    go_enter Tryd.func7, Tryd.ntmps7
    go_upto_region 1 with fail
    rw [← HW0.out]
    go_wp2_with fail
    refine HV.out.mono ?_
    rintro e w1 ⟨rfl, hb1⟩
    have HY := Lib.hid (And.intro (HX.out.later hb1) hb1)
    clear hb1 HV c0 c1 c2 c3 c4 c5 cl
    go_upto_region 3 with fail
    refine wp_region_free (by kernel_rfl) [
        .val [] (fun _ => .agg #[.int .i64 c.stack, .int .i64 c.start, .slice (some ⟨ga, 0, none⟩) n ka, .slice (some ⟨gc, 0, none⟩) n kc, .slice (some ⟨gr, 0, none⟩) n kr, .slice (some ⟨gi, 0, none⟩) n ki]),
        .val [] (fun _ => .int .i64 (n : Int)),
        .val [] (fun _ => .pointer (some ⟨w.heap.size, 0, none⟩)),
        .val [] (fun _ => .int .i64 c.stack),
        .val [] (fun _ => .pointer (some ⟨w.heap.size, 1, none⟩)),
        .val [] (fun _ => .int .i64 c.start),
        .own (LitF w1.heap.size 2 #[.int .i64 (n : Int), .int .i64 c.stack, .int .i64 c.start] 3) (),
        .val [] (fun _ => .string hd),
        .val [] (fun _ => .string hd)] ?hp ?hfw ?deps ?oks ?steps ?tail
    case hp => kernel_rfl
    case hfw => kernel_rfl
    case deps => kernel_rfl
    case oks =>
      intro F hF
      simp only [List.mem_cons, List.not_mem_nil, or_false] at hF
      rcases hF with rfl | rfl | rfl | rfl | rfl | rfl | rfl | rfl | rfl
      · trivial
      · trivial
      · trivial
      · trivial
      · trivial
      · trivial
      · exact ⟨_, litf_ok _ _ _ _⟩
      · trivial
      · trivial
    case steps =>
      refine Steps.cons ?_ ?_
      · refine FreeStep.val [] _ rfl rfl fun u β W hW hn fr hfr K hK => ?_
        simp only [frameL, putL, Act.put, List.setIfInBounds_toArray, List.set_cons_zero, List.set_cons_succ, Nat.zero_add, Nat.reduceAdd] at hfr
        subst hfr
        obtain ⟨d0, d1, d2, d3, d4, d5, dl⟩ := id (HY.out.1.later hW).all6
        have HK := Lib.hid hK
        clear hK hn
        go_simp
        have h9 := HK.out
        revert h9
        clear HK
        go_simp
        try exact id
      refine Steps.cons ?_ ?_
      · refine FreeStep.calm [] _ rfl rfl fun u β W hW hn fr hfr K hK => ?_
        simp only [frameL, putL, Act.put, List.setIfInBounds_toArray, List.set_cons_zero, List.set_cons_succ, Nat.zero_add, Nat.reduceAdd] at hfr
        subst hfr
        have e0 : u 0 = .agg #[.int .i64 c.stack, .int .i64 c.start, .slice (some ⟨ga, 0, none⟩) n ka, .slice (some ⟨gc, 0, none⟩) n kc, .slice (some ⟨gr, 0, none⟩) n kr, .slice (some ⟨gi, 0, none⟩) n ki] := Have.get (k := 0) hn rfl
        simp only [e0] at hK
        have HK := Lib.hid hK
        clear hK hn
        go_simp
        refine (impl_count _ _ _ _ _ _ _ _ _ _ _ _ _ _ _).mono ?_
        rintro e wn ⟨rfl, hbn⟩
        have h9 := HK.out _ hbn
        revert h9
        clear HK
        go_simp
        try exact id
      refine Steps.cons ?_ ?_
      · refine FreeStep.val [] _ rfl rfl fun u β W hW hn fr hfr K hK => ?_
        simp only [frameL, putL, Act.put, List.setIfInBounds_toArray, List.set_cons_zero, List.set_cons_succ, Nat.zero_add, Nat.reduceAdd] at hfr
        subst hfr
        have HK := Lib.hid hK
        clear hK hn
        go_simp
        have h9 := HK.out
        revert h9
        clear HK
        go_simp
        try exact id
      refine Steps.cons ?_ ?_
      · refine FreeStep.val [] _ rfl rfl fun u β W hW hn fr hfr K hK => ?_
        simp only [frameL, putL, Act.put, List.setIfInBounds_toArray, List.set_cons_zero, List.set_cons_succ, Nat.zero_add, Nat.reduceAdd] at hfr
        subst hfr
        have e2 : u 2 = .pointer (some ⟨w.heap.size, 0, none⟩) := Have.get (k := 2) hn rfl
        simp only [e2] at hK
        obtain ⟨d0, d1, d2, d3, d4, d5, dl⟩ := id (HY.out.1.later hW).all6
        have HK := Lib.hid hK
        clear hK hn
        go_simp
        have h9 := HK.out
        revert h9
        clear HK
        go_simp
        try exact id
      refine Steps.cons ?_ ?_
      · refine FreeStep.val [] _ rfl rfl fun u β W hW hn fr hfr K hK => ?_
        simp only [frameL, putL, Act.put, List.setIfInBounds_toArray, List.set_cons_zero, List.set_cons_succ, Nat.zero_add, Nat.reduceAdd] at hfr
        subst hfr
        have HK := Lib.hid hK
        clear hK hn
        go_simp
        have h9 := HK.out
        revert h9
        clear HK
        go_simp
        try exact id
      refine Steps.cons ?_ ?_
      · refine FreeStep.val [] _ rfl rfl fun u β W hW hn fr hfr K hK => ?_
        simp only [frameL, putL, Act.put, List.setIfInBounds_toArray, List.set_cons_zero, List.set_cons_succ, Nat.zero_add, Nat.reduceAdd] at hfr
        subst hfr
        have e4 : u 4 = .pointer (some ⟨w.heap.size, 1, none⟩) := Have.get (k := 4) hn rfl
        simp only [e4] at hK
        obtain ⟨d0, d1, d2, d3, d4, d5, dl⟩ := id (HY.out.1.later hW).all6
        have HK := Lib.hid hK
        clear hK hn
        go_simp
        have h9 := HK.out
        revert h9
        clear HK
        go_simp
        try exact id
      refine Steps.cons ?_ ?_
      · refine FreeStep.own (base := w1.heap.size) rfl (litf_ok _ _ _ _) fun u β W hW hn fr hfr K hK => ?_
        simp only [frameL, putL, Act.put, List.setIfInBounds_toArray, List.set_cons_zero, List.set_cons_succ, Nat.zero_add, Nat.reduceAdd] at hfr
        subst hfr
        have e1 : u 1 = .int .i64 (n : Int) := Have.get (k := 1) hn rfl
        have e3 : u 3 = .int .i64 c.stack := Have.get (k := 3) hn rfl
        have e5 : u 5 = .int .i64 c.start := Have.get (k := 5) hn rfl
        simp only [e1, e3, e5] at hK
        have hsz := hW.size
        have HK := Lib.hid hK
        clear hK hn
        go_simp
        exact HK.out _ [W.heap.size] _ ((Below.refl _ _).alloc (Nat.le_refl _) _) (LitF.new _ _ _ W hsz) (fun b hb => by rw [List.mem_singleton.1 hb]; exact Nat.le_refl _)
      refine Steps.cons ?_ ?_
      · refine FreeStep.calm [] _ rfl rfl fun u β W hW hn fr hfr K hK => ?_
        simp only [frameL, putL, Act.put, List.setIfInBounds_toArray, List.set_cons_zero, List.set_cons_succ, Nat.zero_add, Nat.reduceAdd] at hfr
        subst hfr
        have f6 : (LitF w1.heap.size 2 #[.int .i64 (n : Int), .int .i64 c.stack, .int .i64 c.start] 3) W (u 6) () (β 6) := Have.get (k := 6) hn rfl
        obtain ⟨b6, e6, x6, _, _⟩ := f6
        simp only [e6] at hK
        have hBW := HB0.out.trans ((HY.out.2.trans (hW.mono HY.out.2.size)).mono HB0.out.size)
        have HK := Lib.hid hK
        clear hK hn
        go_simp
        refine (HH.out _ _ _ x6 hBW).mono ?_
        rintro e wn ⟨rfl, hbn⟩
        have h9 := HK.out _ hbn
        revert h9
        clear HK
        go_simp
        try exact id
      refine Steps.cons ?_ ?_
      · refine FreeStep.val [] _ rfl rfl fun u β W hW hn fr hfr K hK => ?_
        simp only [frameL, putL, Act.put, List.setIfInBounds_toArray, List.set_cons_zero, List.set_cons_succ, Nat.zero_add, Nat.reduceAdd] at hfr
        subst hfr
        have e7 : u 7 = .string hd := Have.get (k := 7) hn rfl
        simp only [e7] at hK
        have HK := Lib.hid hK
        clear hK hn
        go_simp
        have h9 := HK.out
        revert h9
        clear HK
        go_simp
        try exact id
      exact Steps.nil
    case tail =>
      intro u_ β_ W hW hn hdis hbnd
      have z0 : u_ 0 = .agg #[.int .i64 c.stack, .int .i64 c.start, .slice (some ⟨ga, 0, none⟩) n ka, .slice (some ⟨gc, 0, none⟩) n kc, .slice (some ⟨gr, 0, none⟩) n kr, .slice (some ⟨gi, 0, none⟩) n ki] := Have.get (k := 0) hn rfl
      have z1 : u_ 1 = .int .i64 (n : Int) := Have.get (k := 1) hn rfl
      have z2 : u_ 2 = .pointer (some ⟨w.heap.size, 0, none⟩) := Have.get (k := 2) hn rfl
      have z3 : u_ 3 = .int .i64 c.stack := Have.get (k := 3) hn rfl
      have z4 : u_ 4 = .pointer (some ⟨w.heap.size, 1, none⟩) := Have.get (k := 4) hn rfl
      have z5 : u_ 5 = .int .i64 c.start := Have.get (k := 5) hn rfl
      have g6 : (LitF w1.heap.size 2 #[.int .i64 (n : Int), .int .i64 c.stack, .int .i64 c.start] 3) W (u_ 6) () (β_ 6) := Have.get (k := 6) hn rfl
      have z7 : u_ 7 = .string hd := Have.get (k := 7) hn rfl
      have z8 : u_ 8 = .string hd := Have.get (k := 8) hn rfl
      rw [← frameL_eq (by kernel_rfl)]
      clear hn hdis hbnd
      simp only [frameL, putL, Act.put, List.setIfInBounds_toArray, List.set_cons_zero, List.set_cons_succ, Nat.zero_add, Nat.reduceAdd, z0, z1, z2, z3, z4, z5, z7, z8]
      clear z0 z1 z2 z3 z4 z5 z7 z8
      clear g6
      have HBW := Lib.hid (HY.out.2.trans (hW.mono HY.out.2.size))
      obtain ⟨c0, c1, c2, c3, c4, c5, cl⟩ := id (HX.out.later HBW.out).all6
      clear hW HY
      go_wp2
      clear c0 c1 c2 c3 c4 c5 cl
      go_loopw [3, 21] (fun s k wr => ∃ (m : Nat) (u : ByteArray), m ≤ n ∧ k = .int .i64 m ∧ s = .string u ∧ u.size ≤ 100 + 3400 * m ∧ Hid (u = textT c m) ∧ Hid (Below W0.heap.size W0 wr)) (fun _ k _ => n - (intOf k).toNat)
      case atStart => exact ⟨0, hd, Nat.zero_le _, rfl, rfl, by omega, Htz.out.symm, HBW⟩
      case round =>
        obtain ⟨m, u, hm, rfl, rfl, hu, Hu, HB⟩ := hrel
        by_cases hlt : m < n
        · obtain ⟨x, y, r, q, i, j, gp, kp, g2, k2, g3, k3, g4, k4, gj, kj, hA, hl⟩ := HL.out m hlt
          have hl2 := hl.later HB.out
          have hca := hl2.ca
          have hls := Hls.out m hlt
          have hsu := textT_succ c m
          rw [← Hu.out] at hsu
          have hnum := hA.nums
          have hbg := hA.big
          have hln := hA.len
          have HN := Lib.hid (fun (W : World) (hW : Below wr.heap.size wr W) => impl_moveNumbers (ka := ka) (kc := kc) (kr := kr) (ki := ki) c.stack c.start W hlt (by omega) (hl2.later hW) hA.rl hA.ql hA.r0 hA.q0)
          unfold lineC at hls hsu
          rw [hnum] at hbg hln hls hsu
          have HA := Lib.hid (show [x.1, x.2, y.1, y.2] ++ (r ++ (q ++ [i, j])) = [x.1, x.2] ++ ([y.1, y.2] ++ (r ++ (q ++ [i, j]))) from rfl)
          generalize [x.1, x.2] ++ ([y.1, y.2] ++ (r ++ (q ++ [i, j]))) = LL at *
          generalize c.accept[m]?.getD false = b at *
          have HM2 := Lib.hid (fun (g mm cp : Nat) (W : World) h2 h5 hW h6 => HM.out (ynB b) g mm cp LL W (by have := ynB_size b; omega) h2 (by omega) hbg h5 hW h6)
          generalize rowT (ynB b) LL ++ nlB = ln at *
          obtain ⟨c0, c1, c2, c3, c4, c5, cl⟩ := id (HX.out.later HB.out).all6
          have hov : ¬ (9223372036854775807 < u.size + ln.size) := by omega
          have HS := Lib.hid hsu
          have Hls2 := Lib.hid hls
          have hswr := HB.out.size
          clear hA hl hl2 hsu hnum hbg hln hls HM Hls HL HH
          cases b
          all_goals
            first
              | rw [show ynB true = (⟨#[121, 101, 115]⟩ : ByteArray) from rfl] at HM2
              | rw [show ynB false = (⟨#[110, 111]⟩ : ByteArray) from rfl] at HM2
            go_wp2_with fail
            refine (HN.out _ (Below.refl _ _)).mono ?_
            rintro e w2 ⟨g, mm, cp, rfl, hlen, hg, hcs, hb2⟩
            rw [HA.out] at hlen hcs
            have hBw := HB0.out.trans ((HB.out.trans (hb2.mono hswr)).mono HB0.out.size)
            have HB2 := Lib.hid hb2
            have hs2 := hb2.size
            have HL3 := Lib.hid (HM2.out g mm cp w2 hlen hg hBw hcs)
            clear hlen hg hcs hBw hb2
            go_wp2_with fail
            refine HL3.out.mono ?_
            rintro e w3 ⟨rfl, hb3⟩
            have H3 := Lib.hid (HB.out.trans ((HB2.out.trans (hb3.mono hs2)).mono hswr))
            clear hb3 HL3
            go_wp2
            go_roundw
            case rel => exact ⟨m + 1, _, by omega, by go_num, rfl, by rw [ByteArray.size_append]; have := Hls2.out; omega, HS.out.symm, H3⟩
            case measure => simp [intOf]; omega
        · have e : m = n := by omega
          subst e
          go_wp2
          go_ret
          exact ⟨by rw [Hu.out, Hn.out]; rfl, HB0.out.trans (HB.out.mono HB0.out.size)⟩
end Go.Proofs.YtglbmmgancecnaaDoor
