/- The text of a checker, of the model. -/
import Derived.Test.YtglbmmgancecnaaDoorCtTI
import Derived.Test.YtglbmmgancecnaaDoorSpecOk
import Derived.Test.YtglbmmgancecnaaDoorFree2
namespace Go.Proofs.YtglbmmgancecnaaDoor
open Go.RowKit
set_option linter.unusedVariables false
set_option linter.unusedSimpArgs false

theorem two_row {W : World} {g : Nat} {a b : Int} {T : TypeId} (hg : Bx W g T #[.int .i64 a, .int .i64 b]) : ∀ (j : Nat) x, [a, b][j]? = some x → W.cell? ⟨g, 0 + j, none⟩ = some (.int .i64 x) := by
  intro j x hj
  rw [Nat.zero_add]
  match j, hj with
  | 0, hj => rw [← Option.some.inj hj]; exact hg.cell 0 _ rfl
  | 1, hj => rw [← Option.some.inj hj]; exact hg.cell 1 _ rfl

set_option maxHeartbeats 12800000 in
set_option maxRecDepth 100000 in
theorem spec_CheckerText {base : Nat} {v : Value} {c : Ck} {bs : List Nat} (w : World) (hbd : BdC c) (hck : CkE base w v c bs) :
    Calls Tryd.prog 5 #[v] w (TupPost (.string (textCk c)) w) := by
  obtain ⟨va, vc, vr, vi, b1, b2, b3, b4, rfl, h1, h2, h3, h4, _, _⟩ := hck
  have x1 := Bx.new w 32 #[.int .i64 c.stack, .int .i64 c.start, va, vc, vr, vi]
  have hB0 := (Below.refl w.heap.size w).alloc (Nat.le_refl _) (.cells #[.int .i64 c.stack, .int .i64 c.start, va, vc, vr, vi] 32)
  have hV := spec_l02Ok _ hbd x1 ((bools_ok _).later h1 hB0) ((push2_ok _).later h2 hB0) ((ints3_ok _).later h3 hB0) ((ints2_ok _).later h4 hB0)
  unfold textCk
  cases hk : okM c with
  | false =>
    rw [if_neg (by simp)]
    rw [hk] at hV
    have HV := Lib.hid hV
    have HB := Lib.hid hB0
    obtain ⟨c0, c1, c2, c3, c4, c5, cl⟩ := id x1.all6
    clear hV h1 h2 h3 h4 hbd hk hB0 x1
    go_enter Tryd.func5, Tryd.ntmps5
    go_wp2_with fail
    refine HV.out.mono ?_
    rintro e w1 ⟨rfl, hb1⟩
    go_wp2
    go_ret
    exact ⟨rfl, HB.out.trans (hb1.mono HB.out.size)⟩
  | true =>
    rw [if_pos rfl]
    have hok := okC_of hk
    rw [hk] at hV
    obtain ⟨ga, ka, gc, kc, gr, kr, gi, ki, rfl, rfl, rfl, rfl, hL⟩ := lies_all hok h1 h2 h3 h4
    obtain ⟨n, hn⟩ : ∃ n, n = c.accept.length := ⟨_, rfl⟩
    have hn40 : n ≤ 40 := by rw [hn]; exact hok.n2
    have hbig := head_big hok
    have hHs := headC_size hok
    have hLs := fun s (hs : s < c.accept.length) => lineC_size hok hs
    unfold headC at hHs
    have Htz := Lib.hid (textT_zero c)
    unfold headC at Htz
    rw [← hn] at hL hV hbig hHs hLs Htz x1 hB0 ⊢
    have HV := Lib.hid hV
    obtain ⟨W0, hW0⟩ : ∃ W0, W0 = w.alloc (.cells #[.int .i64 c.stack, .int .i64 c.start, .slice (some ⟨ga, 0, none⟩) n ka, .slice (some ⟨gc, 0, none⟩) n kc, .slice (some ⟨gr, 0, none⟩) n kr, .slice (some ⟨gi, 0, none⟩) n ki] 32) := ⟨_, rfl⟩
    rw [← hW0] at x1 hB0 HV
    have HW0 := Lib.hid hW0
    have HL := Lib.hid (fun s hs => by
      obtain ⟨x, y, r, q, i, j, gp, kp, g2, k2, g3, k3, g4, k4, gj, kj, hA, hl⟩ := hL s hs
      exact (⟨x, y, r, q, i, j, gp, kp, g2, k2, g3, k3, g4, k4, gj, kj, hA, hl.later hB0⟩ : ∃ x y r q i j gp kp g2 k2 g3 k3 g4 k4 gj kj, AtC c s x y r q i j ∧ LiesAt W0 (c.accept[s]?.getD false) x y r q i j s ga gc gr gi gp kp g2 k2 g3 k3 g4 k4 gj kj))
    have HH := Lib.hid (fun (W : World) (g cp : Nat) (hg : Bx W g 2 #[.int .i64 (n : Int), .int .i64 c.stack, .int .i64 c.start]) => spec_row ckB g 0 3 cp [(n : Int), c.stack, c.start] W (by decide) rfl (by omega) hbig hg.lt (by
      intro j x hj
      rw [Nat.zero_add]
      match j, hj with
      | 0, hj => rw [← Option.some.inj hj]; exact hg.cell 0 _ rfl
      | 1, hj => rw [← Option.some.inj hj]; exact hg.cell 1 _ rfl
      | 2, hj => rw [← Option.some.inj hj]; exact hg.cell 2 _ rfl))
    have Hls := Lib.hid hLs
    have Hn := Lib.hid hn
    have HB0 := Lib.hid hB0
    have HX := Lib.hid x1
    rw [show nlB = (⟨#[10]⟩ : ByteArray) from rfl] at hHs Htz
    rw [ByteArray.size_append] at hHs
    generalize rowT ckB [(n : Int), c.stack, c.start] = hd at *
    rw [show ckB = (⟨#[99, 104, 101, 99, 107, 101, 114]⟩ : ByteArray) from rfl] at HH
    have hz : (⟨#[10]⟩ : ByteArray).size = 1 := rfl
    have hov0 : ¬ (9223372036854775807 < hd.size + 1) := by omega
    have hsW := hB0.size
    obtain ⟨c0, c1, c2, c3, c4, c5, cl⟩ := id x1.all6
    clear hV h1 h2 h3 h4 hbd hk hB0 x1 hok hL hbig hLs hn hW0
    go_enter Tryd.func5, Tryd.ntmps5
    go_upto_region 1 with fail
    rw [← HW0.out]
    go_wp2_with fail
    refine HV.out.mono ?_
    rintro e w1 ⟨rfl, hb1⟩
    have HY := Lib.hid hb1
    have hs1 := hb1.size
    clear c0 c1 c2 c3 c4 c5 cl
    obtain ⟨c0, c1, c2, c3, c4, c5, cl⟩ := id (HX.out.later hb1).all6
    clear hb1 HV
    go_wp2_with fail
    refine (HH.out _ _ _ (Bx.new _ _ _)).mono ?_
    rintro e w2 ⟨rfl, hb2⟩
    have HBW := Lib.hid (HY.out.trans (((Below.refl _ _).alloc (Nat.le_refl _) _ |>.trans (hb2.mono (by simp))).mono hs1))
    clear c0 c1 c2 c3 c4 c5 cl hb2 HY
    go_wp2
    go_loopw [3, 4] (fun s k wr => ∃ (m : Nat) (u : ByteArray), m ≤ n ∧ k = .int .i64 m ∧ s = .string u ∧ u.size ≤ 101 + 3400 * m ∧ Hid (u = textT c m) ∧ Hid (Below W0.heap.size W0 wr)) (fun _ k _ => n - (intOf k).toNat)
    case atStart => exact ⟨0, hd ++ (⟨#[10]⟩ : ByteArray), Nat.zero_le _, rfl, rfl, by rw [ByteArray.size_append]; omega, Htz.out.symm, HBW⟩
    case round =>
      obtain ⟨m, u, hm, rfl, rfl, hu, Hu, HB⟩ := hrel
      obtain ⟨c0, c1, c2, c3, c4, c5, cl⟩ := id (HX.out.later HB.out).all6
      by_cases hlt : m < n
      · obtain ⟨x, y, r, q, i, j, gp, kp, g2, k2, g3, k3, g4, k4, gj, kj, hA, hl⟩ := HL.out m hlt
        have hl2 := hl.later HB.out
        have hca := hl2.ca
        have hls := Hls.out m hlt
        have hsu := textT_succ c m
        rw [← Hu.out] at hsu
        rw [hA.line] at hls hsu
        have hrl := hA.rl
        have hql := hA.ql
        have HLr := Lib.hid hl
        obtain ⟨PR, hPR⟩ : ∃ PR : Nat → Int × Int, PR = fun p => if p = 0 then x else y := ⟨_, rfl⟩
        have hP0 : PR 0 = x := by rw [hPR]; rfl
        have hP1 : PR 1 = y := by rw [hPR]; rfl
        have hPb : ∀ p, p < 2 → Big [(PR p).1, (PR p).2] := fun p hp => by
          rcases (show p = 0 ∨ p = 1 by omega) with rfl | rfl
          · rw [hP0]; exact hA.bx
          · rw [hP1]; exact hA.by_
        have hPc : ∀ p, p < 2 → W0.cell? ⟨gp, p * 2, none⟩ = some (.int .i64 (PR p).1) ∧ W0.cell? ⟨gp, p * 2 + 1, none⟩ = some (.int .i64 (PR p).2) := fun p hp => by
          rcases (show p = 0 ∨ p = 1 by omega) with rfl | rfl
          · rw [hP0]; exact ⟨hl.p0, hl.p1⟩
          · rw [hP1]; exact ⟨hl.p2, hl.p3⟩
        rw [← hP0, ← hP1] at hls hsu
        generalize c.accept[m]?.getD false = b at *
        obtain ⟨TX, hTX⟩ : ∃ TX : Nat → ByteArray, TX = fun p => if p = 0 then ynB b else if p = 1 then rowT (ynB b) [(PR 0).1, (PR 0).2] else rowT (rowT (ynB b) [(PR 0).1, (PR 0).2]) [(PR 1).1, (PR 1).2] := ⟨_, rfl⟩
        have hT0 : TX 0 = ynB b := by rw [hTX]; rfl
        have hT2 : TX 2 = rowT (rowT (ynB b) [(PR 0).1, (PR 0).2]) [(PR 1).1, (PR 1).2] := by rw [hTX]; rfl
        have hTs : ∀ p, p < 2 → TX (p + 1) = rowT (TX p) [(PR p).1, (PR p).2] := fun p hp => by
          rcases (show p = 0 ∨ p = 1 by omega) with rfl | rfl <;> (rw [hTX]; rfl)
        have s0 := ynB_size b
        have s1 := rowT_size (ynB b) [(PR 0).1, (PR 0).2] (hPb 0 (by decide))
        have s2 := rowT_size (rowT (ynB b) [(PR 0).1, (PR 0).2]) [(PR 1).1, (PR 1).2] (hPb 1 (by decide))
        simp only [List.length_cons, List.length_nil] at s1 s2
        have hTz : ∀ p, p ≤ 2 → (TX p).size ≤ 100 := fun p hp => by
          rcases (show p = 0 ∨ p = 1 ∨ p = 2 by omega) with rfl | rfl | rfl
          · rw [hT0]; omega
          · rw [hTX]; show (rowT (ynB b) _).size ≤ 100; omega
          · rw [hT2]; omega
        rw [← hT2] at hls hsu
        have s4 := hTz 2 (Nat.le_refl _)
        have s5 := rowT_size (TX 2) r hA.br
        have s6 := rowT_size (rowT (TX 2) r) q hA.bq
        have HR := Lib.hid (fun (p : Nat) (hp : p < 2) (W : World) (g cp : Nat) (hg : Bx W g 2 #[.int .i64 (PR p).1, .int .i64 (PR p).2]) => (hTs p hp ▸ spec_row (TX p) g 0 2 cp [(PR p).1, (PR p).2] W (by have := hTz p (by omega); omega) rfl (by omega) (hPb p hp) hg.lt (two_row hg) : Calls Tryd.prog 14 #[.string (TX p), .slice (some ⟨g, 0, none⟩) 2 cp] W (TupPost (.string (TX (p + 1))) W)))
        have HR5 := Lib.hid (fun (W : World) (hW : Below W0.heap.size W0 W) => spec_row (TX 2) g3 0 r.length k3 r W (by omega) rfl (by omega) hA.br (hl.later hW).l3 (fun t u hu => by rw [Nat.zero_add]; exact (hl.later hW).rc t u hu))
        have HR6 := Lib.hid (fun (W : World) (hW : Below W0.heap.size W0 W) => spec_row (rowT (TX 2) r) g4 0 q.length k4 q W (by omega) rfl (by omega) hA.bq (hl.later hW).l4 (fun t u hu => by rw [Nat.zero_add]; exact (hl.later hW).qc t u hu))
        have HR7 := Lib.hid (fun (W : World) (hW : Below W0.heap.size W0 W) => spec_row (rowT (rowT (TX 2) r) q) gj 0 2 kj [i, j] W (by omega) rfl (by omega) hA.bi (hl.later hW).lj (fun t u hu => by
          rw [Nat.zero_add]
          match t, hu with
          | 0, hu => rw [← Option.some.inj hu]; exact (hl.later hW).i0
          | 1, hu => rw [← Option.some.inj hu]; exact (hl.later hW).i1))
        have HT0 := Lib.hid hT0
        have HPc := Lib.hid hPc
        rw [show nlB = (⟨#[10]⟩ : ByteArray) from rfl] at hls hsu
        rw [ByteArray.size_append] at hls
        generalize rowT (rowT (rowT (TX 2) r) q) [i, j] = u7 at *
        generalize rowT (rowT (TX 2) r) q = u6 at *
        generalize rowT (TX 2) r = u5 at *
        have hov1 : ¬ (9223372036854775807 < u7.size + 1) := by omega
        have hov2 : ¬ (9223372036854775807 < u.size + (u7.size + 1)) := by omega
        have HS := Lib.hid hsu
        have hswr := HB.out.size
        obtain ⟨rl, hrl'⟩ : ∃ rl, rl = r.length := ⟨_, rfl⟩
        obtain ⟨ql, hql'⟩ : ∃ ql, ql = q.length := ⟨_, rfl⟩
        have HLr0 := HLr
        have Hls3 := Lib.hid hls
        clear hA hl hl2 hsu hPR hP0 hP1 hPb hPc hTX hT0 hT2 hTs hTz s0 s1 s2 s4 s5 s6 HH HL Hls hls
        cases b
        all_goals
          go_wp2
          clear c0 c1 c2 c3 c4 c5 cl hca
          go_loopw [5, 6] (fun s k wr2 => ∃ p : Nat, p ≤ 2 ∧ k = .int .i64 p ∧ s = .string (TX p) ∧ Hid (Below W0.heap.size W0 wr2)) (fun _ k _ => 2 - (intOf k).toNat)
          case atStart => exact ⟨0, by omega, rfl, by rw [HT0.out]; rfl, HB⟩
          case round =>
            obtain ⟨p, hp, rfl, rfl, HB2⟩ := hrel
            have hsw2 := HB2.out.size
            have HY := Lib.hid (HX.out.later HB2.out)
            have HLw := Lib.hid (HLr.out.later HB2.out)
            by_cases hlt2 : p < 2
            · have HPw := Lib.hid (And.intro ((HB2.out.cell (p := ⟨gp, p * 2, none⟩) HLr.out.lp).trans (HPc.out p hlt2).1) (And.intro ((HB2.out.cell (p := ⟨gp, p * 2 + 1, none⟩) HLr.out.lp).trans (HPc.out p hlt2).2) HLw.out.lp))
              have HRp := Lib.hid (HR.out p hlt2)
              obtain ⟨u3, hu3⟩ : ∃ z, z = TX (p + 1) := ⟨_, rfl⟩
              rw [← hu3] at HRp
              have Hu3 := Lib.hid hu3
              clear hu3 HR HPc HR5 HR6 HR7 HT0
              generalize TX p = u2 at *
              generalize (PR p).1 = X1 at *
              generalize (PR p).2 = X2 at *
              go_upto_region 13 with fail
              refine wp_region_free_seq2 (by kernel_rfl) [
                  .val [] (fun _ => .string u2),
                  .val [] (fun _ => .pointer (some ⟨w.heap.size, 3, none⟩)),
                  .val [] (fun _ => .slice (some ⟨gc, 0, none⟩) n kc),
                  .val [] (fun _ => .int .i64 (m : Int)),
                  .val [] (fun _ => .pointer (some ⟨gc, m, none⟩)),
                  .val [] (fun _ => .slice (some ⟨gp, 0, none⟩) 2 kp),
                  .val [] (fun _ => .int .i64 (p : Int)),
                  .val [] (fun _ => .pointer (some ⟨gp, p * 2, none⟩)),
                  .val [] (fun _ => .pointer (some ⟨gp, p * 2, none⟩)),
                  .val [] (fun _ => .int .i64 X1),
                  .val [] (fun _ => .pointer (some ⟨w.heap.size, 3, none⟩)),
                  .val [] (fun _ => .slice (some ⟨gc, 0, none⟩) n kc),
                  .val [] (fun _ => .int .i64 (m : Int)),
                  .val [] (fun _ => .pointer (some ⟨gc, m, none⟩)),
                  .val [] (fun _ => .slice (some ⟨gp, 0, none⟩) 2 kp),
                  .val [] (fun _ => .int .i64 (p : Int)),
                  .val [] (fun _ => .pointer (some ⟨gp, p * 2, none⟩)),
                  .val [] (fun _ => .pointer (some ⟨gp, p * 2 + 1, none⟩)),
                  .val [] (fun _ => .int .i64 X2),
                  .own (LitF wr.heap.size 2 #[.int .i64 X1, .int .i64 X2] 2) (),
                  .val [] (fun _ => .string u3)] 21 0 (.string u2) rfl ?hsel ?hfree ?hready (fun c a w h => h) ?hy rfl rfl ?hp ?hfw ?deps ?oks ?hforced ?hf ?steps ?tail
              case hsel => kernel_rfl
              case hfree => kernel_rfl
              case hready => kernel_rfl
              case hforced => kernel_rfl
              case hf => kernel_rfl
              case hy => exact Or.inl ⟨by first | rfl | go_simp, fun w => by first | rfl | go_simp⟩
              case hp => kernel_rfl
              case hfw => kernel_rfl
              case deps => kernel_rfl
              case oks =>
                intro F hF
                simp only [List.mem_cons, List.not_mem_nil, or_false] at hF
                rcases hF with rfl | rfl | rfl | rfl | rfl | rfl | rfl | rfl | rfl | rfl | rfl | rfl | rfl | rfl | rfl | rfl | rfl | rfl | rfl | rfl | rfl
                · trivial
                · trivial
                · trivial
                · trivial
                · trivial
                · trivial
                · trivial
                · trivial
                · trivial
                · trivial
                · trivial
                · trivial
                · trivial
                · trivial
                · trivial
                · trivial
                · trivial
                · trivial
                · trivial
                · exact ⟨_, litf_ok _ _ _ _⟩
                · trivial
              case steps =>
                refine Steps.cons ?_ ?_
                · exact fun _ h => absurd rfl h
                refine Steps.cons ?_ ?_
                · intro _ _; refine FreeStep.val [] _ rfl rfl fun u β W hW hn fr hfr K hK => ?_
                  simp only [frameL, putL, Act.put, List.setIfInBounds_toArray, List.set_cons_zero, List.set_cons_succ, Nat.zero_add, Nat.reduceAdd] at hfr
                  subst hfr
                  have HK := Lib.hid hK
                  clear hK hn
                  go_simp
                  have h9 := HK.out
                  revert h9
                  clear HK
                  go_simp
                  try exact id
                refine Steps.cons ?_ ?_
                · intro _ _; refine FreeStep.val [] _ rfl rfl fun u β W hW hn fr hfr K hK => ?_
                  simp only [frameL, putL, Act.put, List.setIfInBounds_toArray, List.set_cons_zero, List.set_cons_succ, Nat.zero_add, Nat.reduceAdd] at hfr
                  subst hfr
                  have e1 : u 1 = .pointer (some ⟨w.heap.size, 3, none⟩) := Have.get (k := 1) hn rfl
                  simp only [e1] at hK
                  obtain ⟨d0, d1, d2, d3, d4, d5, dl⟩ := id (HY.out.later hW).all6
                  have HK := Lib.hid hK
                  clear hK hn
                  go_simp
                  have h9 := HK.out
                  revert h9
                  clear HK
                  go_simp
                  try exact id
                refine Steps.cons ?_ ?_
                · intro _ _; refine FreeStep.val [] _ rfl rfl fun u β W hW hn fr hfr K hK => ?_
                  simp only [frameL, putL, Act.put, List.setIfInBounds_toArray, List.set_cons_zero, List.set_cons_succ, Nat.zero_add, Nat.reduceAdd] at hfr
                  subst hfr
                  have HK := Lib.hid hK
                  clear hK hn
                  go_simp
                  have h9 := HK.out
                  revert h9
                  clear HK
                  go_simp
                  try exact id
                refine Steps.cons ?_ ?_
                · intro _ _; refine FreeStep.val [] _ rfl rfl fun u β W hW hn fr hfr K hK => ?_
                  simp only [frameL, putL, Act.put, List.setIfInBounds_toArray, List.set_cons_zero, List.set_cons_succ, Nat.zero_add, Nat.reduceAdd] at hfr
                  subst hfr
                  have e2 : u 2 = .slice (some ⟨gc, 0, none⟩) n kc := Have.get (k := 2) hn rfl
                  have e3 : u 3 = .int .i64 (m : Int) := Have.get (k := 3) hn rfl
                  simp only [e2, e3] at hK
                  have HK := Lib.hid hK
                  clear hK hn
                  go_simp
                  have h9 := HK.out
                  revert h9
                  clear HK
                  go_simp
                  try exact id
                refine Steps.cons ?_ ?_
                · intro _ _; refine FreeStep.val [] _ rfl rfl fun u β W hW hn fr hfr K hK => ?_
                  simp only [frameL, putL, Act.put, List.setIfInBounds_toArray, List.set_cons_zero, List.set_cons_succ, Nat.zero_add, Nat.reduceAdd] at hfr
                  subst hfr
                  have e4 : u 4 = .pointer (some ⟨gc, m, none⟩) := Have.get (k := 4) hn rfl
                  simp only [e4] at hK
                  have c9 := (HLw.out.later hW).cc
                  have HK := Lib.hid hK
                  clear hK hn
                  go_simp
                  have h9 := HK.out
                  revert h9
                  clear HK
                  go_simp
                  try exact id
                refine Steps.cons ?_ ?_
                · intro _ _; refine FreeStep.val [] _ rfl rfl fun u β W hW hn fr hfr K hK => ?_
                  simp only [frameL, putL, Act.put, List.setIfInBounds_toArray, List.set_cons_zero, List.set_cons_succ, Nat.zero_add, Nat.reduceAdd] at hfr
                  subst hfr
                  have HK := Lib.hid hK
                  clear hK hn
                  go_simp
                  have h9 := HK.out
                  revert h9
                  clear HK
                  go_simp
                  try exact id
                refine Steps.cons ?_ ?_
                · intro _ _; refine FreeStep.val [] _ rfl rfl fun u β W hW hn fr hfr K hK => ?_
                  simp only [frameL, putL, Act.put, List.setIfInBounds_toArray, List.set_cons_zero, List.set_cons_succ, Nat.zero_add, Nat.reduceAdd] at hfr
                  subst hfr
                  have e5 : u 5 = .slice (some ⟨gp, 0, none⟩) 2 kp := Have.get (k := 5) hn rfl
                  have e6 : u 6 = .int .i64 (p : Int) := Have.get (k := 6) hn rfl
                  simp only [e5, e6] at hK
                  have HK := Lib.hid hK
                  clear hK hn
                  go_simp
                  have h9 := HK.out
                  revert h9
                  clear HK
                  go_simp
                  try exact id
                refine Steps.cons ?_ ?_
                · intro _ _; refine FreeStep.val [] _ rfl rfl fun u β W hW hn fr hfr K hK => ?_
                  simp only [frameL, putL, Act.put, List.setIfInBounds_toArray, List.set_cons_zero, List.set_cons_succ, Nat.zero_add, Nat.reduceAdd] at hfr
                  subst hfr
                  have e7 : u 7 = .pointer (some ⟨gp, p * 2, none⟩) := Have.get (k := 7) hn rfl
                  simp only [e7] at hK
                  have HK := Lib.hid hK
                  clear hK hn
                  go_simp
                  have h9 := HK.out
                  revert h9
                  clear HK
                  go_simp
                  try exact id
                refine Steps.cons ?_ ?_
                · intro _ _; refine FreeStep.val [] _ rfl rfl fun u β W hW hn fr hfr K hK => ?_
                  simp only [frameL, putL, Act.put, List.setIfInBounds_toArray, List.set_cons_zero, List.set_cons_succ, Nat.zero_add, Nat.reduceAdd] at hfr
                  subst hfr
                  have e8 : u 8 = .pointer (some ⟨gp, p * 2, none⟩) := Have.get (k := 8) hn rfl
                  simp only [e8] at hK
                  have c9 := (hW.cell (p := ⟨gp, p * 2, none⟩) HPw.out.2.2).trans HPw.out.1
                  have HK := Lib.hid hK
                  clear hK hn
                  go_simp
                  have h9 := HK.out
                  revert h9
                  clear HK
                  go_simp
                  try exact id
                refine Steps.cons ?_ ?_
                · intro _ _; refine FreeStep.val [] _ rfl rfl fun u β W hW hn fr hfr K hK => ?_
                  simp only [frameL, putL, Act.put, List.setIfInBounds_toArray, List.set_cons_zero, List.set_cons_succ, Nat.zero_add, Nat.reduceAdd] at hfr
                  subst hfr
                  have HK := Lib.hid hK
                  clear hK hn
                  go_simp
                  have h9 := HK.out
                  revert h9
                  clear HK
                  go_simp
                  try exact id
                refine Steps.cons ?_ ?_
                · intro _ _; refine FreeStep.val [] _ rfl rfl fun u β W hW hn fr hfr K hK => ?_
                  simp only [frameL, putL, Act.put, List.setIfInBounds_toArray, List.set_cons_zero, List.set_cons_succ, Nat.zero_add, Nat.reduceAdd] at hfr
                  subst hfr
                  have e10 : u 10 = .pointer (some ⟨w.heap.size, 3, none⟩) := Have.get (k := 10) hn rfl
                  simp only [e10] at hK
                  obtain ⟨d0, d1, d2, d3, d4, d5, dl⟩ := id (HY.out.later hW).all6
                  have HK := Lib.hid hK
                  clear hK hn
                  go_simp
                  have h9 := HK.out
                  revert h9
                  clear HK
                  go_simp
                  try exact id
                refine Steps.cons ?_ ?_
                · intro _ _; refine FreeStep.val [] _ rfl rfl fun u β W hW hn fr hfr K hK => ?_
                  simp only [frameL, putL, Act.put, List.setIfInBounds_toArray, List.set_cons_zero, List.set_cons_succ, Nat.zero_add, Nat.reduceAdd] at hfr
                  subst hfr
                  have HK := Lib.hid hK
                  clear hK hn
                  go_simp
                  have h9 := HK.out
                  revert h9
                  clear HK
                  go_simp
                  try exact id
                refine Steps.cons ?_ ?_
                · intro _ _; refine FreeStep.val [] _ rfl rfl fun u β W hW hn fr hfr K hK => ?_
                  simp only [frameL, putL, Act.put, List.setIfInBounds_toArray, List.set_cons_zero, List.set_cons_succ, Nat.zero_add, Nat.reduceAdd] at hfr
                  subst hfr
                  have e11 : u 11 = .slice (some ⟨gc, 0, none⟩) n kc := Have.get (k := 11) hn rfl
                  have e12 : u 12 = .int .i64 (m : Int) := Have.get (k := 12) hn rfl
                  simp only [e11, e12] at hK
                  have HK := Lib.hid hK
                  clear hK hn
                  go_simp
                  have h9 := HK.out
                  revert h9
                  clear HK
                  go_simp
                  try exact id
                refine Steps.cons ?_ ?_
                · intro _ _; refine FreeStep.val [] _ rfl rfl fun u β W hW hn fr hfr K hK => ?_
                  simp only [frameL, putL, Act.put, List.setIfInBounds_toArray, List.set_cons_zero, List.set_cons_succ, Nat.zero_add, Nat.reduceAdd] at hfr
                  subst hfr
                  have e13 : u 13 = .pointer (some ⟨gc, m, none⟩) := Have.get (k := 13) hn rfl
                  simp only [e13] at hK
                  have c9 := (HLw.out.later hW).cc
                  have HK := Lib.hid hK
                  clear hK hn
                  go_simp
                  have h9 := HK.out
                  revert h9
                  clear HK
                  go_simp
                  try exact id
                refine Steps.cons ?_ ?_
                · intro _ _; refine FreeStep.val [] _ rfl rfl fun u β W hW hn fr hfr K hK => ?_
                  simp only [frameL, putL, Act.put, List.setIfInBounds_toArray, List.set_cons_zero, List.set_cons_succ, Nat.zero_add, Nat.reduceAdd] at hfr
                  subst hfr
                  have HK := Lib.hid hK
                  clear hK hn
                  go_simp
                  have h9 := HK.out
                  revert h9
                  clear HK
                  go_simp
                  try exact id
                refine Steps.cons ?_ ?_
                · intro _ _; refine FreeStep.val [] _ rfl rfl fun u β W hW hn fr hfr K hK => ?_
                  simp only [frameL, putL, Act.put, List.setIfInBounds_toArray, List.set_cons_zero, List.set_cons_succ, Nat.zero_add, Nat.reduceAdd] at hfr
                  subst hfr
                  have e14 : u 14 = .slice (some ⟨gp, 0, none⟩) 2 kp := Have.get (k := 14) hn rfl
                  have e15 : u 15 = .int .i64 (p : Int) := Have.get (k := 15) hn rfl
                  simp only [e14, e15] at hK
                  have HK := Lib.hid hK
                  clear hK hn
                  go_simp
                  have h9 := HK.out
                  revert h9
                  clear HK
                  go_simp
                  try exact id
                refine Steps.cons ?_ ?_
                · intro _ _; refine FreeStep.val [] _ rfl rfl fun u β W hW hn fr hfr K hK => ?_
                  simp only [frameL, putL, Act.put, List.setIfInBounds_toArray, List.set_cons_zero, List.set_cons_succ, Nat.zero_add, Nat.reduceAdd] at hfr
                  subst hfr
                  have e16 : u 16 = .pointer (some ⟨gp, p * 2, none⟩) := Have.get (k := 16) hn rfl
                  simp only [e16] at hK
                  have HK := Lib.hid hK
                  clear hK hn
                  go_simp
                  have h9 := HK.out
                  revert h9
                  clear HK
                  go_simp
                  try exact id
                refine Steps.cons ?_ ?_
                · intro _ _; refine FreeStep.val [] _ rfl rfl fun u β W hW hn fr hfr K hK => ?_
                  simp only [frameL, putL, Act.put, List.setIfInBounds_toArray, List.set_cons_zero, List.set_cons_succ, Nat.zero_add, Nat.reduceAdd] at hfr
                  subst hfr
                  have e17 : u 17 = .pointer (some ⟨gp, p * 2 + 1, none⟩) := Have.get (k := 17) hn rfl
                  simp only [e17] at hK
                  have c9 := (hW.cell (p := ⟨gp, p * 2 + 1, none⟩) HPw.out.2.2).trans HPw.out.2.1
                  have HK := Lib.hid hK
                  clear hK hn
                  go_simp
                  have h9 := HK.out
                  revert h9
                  clear HK
                  go_simp
                  try exact id
                refine Steps.cons ?_ ?_
                · intro _ _; refine FreeStep.own (base := wr.heap.size) rfl (litf_ok _ _ _ _) fun u β W hW hn fr hfr K hK => ?_
                  simp only [frameL, putL, Act.put, List.setIfInBounds_toArray, List.set_cons_zero, List.set_cons_succ, Nat.zero_add, Nat.reduceAdd] at hfr
                  subst hfr
                  have e9 : u 9 = .int .i64 X1 := Have.get (k := 9) hn rfl
                  have e18 : u 18 = .int .i64 X2 := Have.get (k := 18) hn rfl
                  simp only [e9, e18] at hK
                  have hsz := hW.size
                  have HK := Lib.hid hK
                  clear hK hn
                  go_simp
                  have h9 := HK.out _ [W.heap.size] _ ((Below.refl _ _).alloc (Nat.le_refl _) _) (LitF.new _ _ _ W hsz) (fun b hb => by rw [List.mem_singleton.1 hb]; exact Nat.le_refl _)
                  revert h9
                  clear HK
                  go_simp
                  try exact id
                refine Steps.cons ?_ ?_
                · intro _ _; refine FreeStep.calm [] _ rfl rfl fun u β W hW hn fr hfr K hK => ?_
                  simp only [frameL, putL, Act.put, List.setIfInBounds_toArray, List.set_cons_zero, List.set_cons_succ, Nat.zero_add, Nat.reduceAdd] at hfr
                  subst hfr
                  have e0 : u 0 = .string u2 := Have.get (k := 0) hn rfl
                  have f19 : (LitF wr.heap.size 2 #[.int .i64 X1, .int .i64 X2] 2) W (u 19) () (β 19) := Have.get (k := 19) hn rfl
                  obtain ⟨b6, e6, x6, _, _⟩ := f19
                  simp only [e0, e6] at hK
                  have HK := Lib.hid hK
                  clear hK hn
                  go_simp
                  refine (HRp.out _ _ _ x6).mono ?_
                  rintro e wn ⟨rfl, hbn⟩
                  have h9 := HK.out _ hbn
                  revert h9
                  clear HK
                  go_simp
                  try exact id
                refine Steps.cons ?_ ?_
                · exact fun h => absurd h (by decide)
                exact Steps.nil
              case tail =>
                intro u β W hW hn hdis hbnd fr hfr
                simp only [frameL, putL, Act.put, List.setIfInBounds_toArray, List.set_cons_zero, List.set_cons_succ, Nat.zero_add, Nat.reduceAdd] at hfr
                subst hfr
                have z0 : u 0 = .string u2 := Have.get (k := 0) hn rfl
                have z1 : u 1 = .pointer (some ⟨w.heap.size, 3, none⟩) := Have.get (k := 1) hn rfl
                have z2 : u 2 = .slice (some ⟨gc, 0, none⟩) n kc := Have.get (k := 2) hn rfl
                have z3 : u 3 = .int .i64 (m : Int) := Have.get (k := 3) hn rfl
                have z4 : u 4 = .pointer (some ⟨gc, m, none⟩) := Have.get (k := 4) hn rfl
                have z5 : u 5 = .slice (some ⟨gp, 0, none⟩) 2 kp := Have.get (k := 5) hn rfl
                have z6 : u 6 = .int .i64 (p : Int) := Have.get (k := 6) hn rfl
                have z7 : u 7 = .pointer (some ⟨gp, p * 2, none⟩) := Have.get (k := 7) hn rfl
                have z8 : u 8 = .pointer (some ⟨gp, p * 2, none⟩) := Have.get (k := 8) hn rfl
                have z9 : u 9 = .int .i64 X1 := Have.get (k := 9) hn rfl
                have z10 : u 10 = .pointer (some ⟨w.heap.size, 3, none⟩) := Have.get (k := 10) hn rfl
                have z11 : u 11 = .slice (some ⟨gc, 0, none⟩) n kc := Have.get (k := 11) hn rfl
                have z12 : u 12 = .int .i64 (m : Int) := Have.get (k := 12) hn rfl
                have z13 : u 13 = .pointer (some ⟨gc, m, none⟩) := Have.get (k := 13) hn rfl
                have z14 : u 14 = .slice (some ⟨gp, 0, none⟩) 2 kp := Have.get (k := 14) hn rfl
                have z15 : u 15 = .int .i64 (p : Int) := Have.get (k := 15) hn rfl
                have z16 : u 16 = .pointer (some ⟨gp, p * 2, none⟩) := Have.get (k := 16) hn rfl
                have z17 : u 17 = .pointer (some ⟨gp, p * 2 + 1, none⟩) := Have.get (k := 17) hn rfl
                have z18 : u 18 = .int .i64 X2 := Have.get (k := 18) hn rfl
                have f19 : (LitF wr.heap.size 2 #[.int .i64 X1, .int .i64 X2] 2) W (u 19) () (β 19) := Have.get (k := 19) hn rfl
                have z20 : u 20 = .string u3 := Have.get (k := 20) hn rfl
                obtain ⟨b6, e6, x6, _, _⟩ := f19
                simp only [z0, z1, z2, z3, z4, z5, z6, z7, z8, z9, z10, z11, z12, z13, z14, z15, z16, z17, z18, z20, e6]
                clear hn hdis hbnd z0 z1 z2 z3 z4 z5 z6 z7 z8 z9 z10 z11 z12 z13 z14 z15 z16 z17 z18 z20 x6
                show wpOps _ _ _ [21] _ _
                rw [wpOps_cons]
                refine wpOp_step rfl (fun K hK => ?_)
                have HK := Lib.hid hK
                clear hK
                go_simp
                refine HK.out _ _ ?_
                clear HK
                unfold wpOps
                have HB3 := Lib.hid (HB2.out.trans (hW.mono hsw2))
                clear hW
                go_wp2
                go_roundw
                case rel => exact ⟨p + 1, by omega, by go_num, by rw [Hu3.out], HB3⟩
                case measure => simp [intOf]; omega
            · have e : p = 2 := by omega
              subst e
              clear HR HPc HT0
              generalize TX 2 = u4 at *
              go_upto_region 14 with fail
              refine wp_region_free_seq2 (by kernel_rfl) [
                  .val [] (fun _ => .string u4),
                  .val [] (fun _ => .pointer (some ⟨w.heap.size, 4, none⟩)),
                  .val [] (fun _ => .slice (some ⟨gr, 0, none⟩) n kr),
                  .val [] (fun _ => .int .i64 (m : Int)),
                  .val [] (fun _ => .pointer (some ⟨gr, m, none⟩)),
                  .val [] (fun _ => .slice (some ⟨g2, 0, none⟩) 2 k2),
                  .val [] (fun _ => .pointer (some ⟨g2, 0, none⟩)),
                  .val [] (fun _ => .slice (some ⟨g3, 0, none⟩) r.length k3),
                  .val [] (fun _ => .string u5),
                  .val [] (fun _ => .pointer (some ⟨w.heap.size, 4, none⟩)),
                  .val [] (fun _ => .slice (some ⟨gr, 0, none⟩) n kr),
                  .val [] (fun _ => .int .i64 (m : Int)),
                  .val [] (fun _ => .pointer (some ⟨gr, m, none⟩)),
                  .val [] (fun _ => .slice (some ⟨g2, 0, none⟩) 2 k2),
                  .val [] (fun _ => .pointer (some ⟨g2, 1, none⟩)),
                  .val [] (fun _ => .slice (some ⟨g4, 0, none⟩) q.length k4),
                  .val [] (fun _ => .string u6)] 17 0 (.string u4) rfl ?hsel ?hfree ?hready (fun c a w h => h) ?hy rfl rfl ?hp ?hfw ?deps ?oks ?hforced ?hf ?steps ?tail
              case hsel => kernel_rfl
              case hfree => kernel_rfl
              case hready => kernel_rfl
              case hforced => kernel_rfl
              case hf => kernel_rfl
              case hy => exact Or.inl ⟨by first | rfl | go_simp, fun w => by first | rfl | go_simp⟩
              case hp => kernel_rfl
              case hfw => kernel_rfl
              case deps => kernel_rfl
              case oks =>
                intro F hF
                simp only [List.mem_cons, List.not_mem_nil, or_false] at hF
                rcases hF with rfl | rfl | rfl | rfl | rfl | rfl | rfl | rfl | rfl | rfl | rfl | rfl | rfl | rfl | rfl | rfl | rfl
                · trivial
                · trivial
                · trivial
                · trivial
                · trivial
                · trivial
                · trivial
                · trivial
                · trivial
                · trivial
                · trivial
                · trivial
                · trivial
                · trivial
                · trivial
                · trivial
                · trivial
              case steps =>
                refine Steps.cons ?_ ?_
                · exact fun _ h => absurd rfl h
                refine Steps.cons ?_ ?_
                · intro _ _; refine FreeStep.val [] _ rfl rfl fun u β W hW hn fr hfr K hK => ?_
                  simp only [frameL, putL, Act.put, List.setIfInBounds_toArray, List.set_cons_zero, List.set_cons_succ, Nat.zero_add, Nat.reduceAdd] at hfr
                  subst hfr
                  have HK := Lib.hid hK
                  clear hK hn
                  go_simp
                  have h9 := HK.out
                  revert h9
                  clear HK
                  go_simp
                  try exact id
                refine Steps.cons ?_ ?_
                · intro _ _; refine FreeStep.val [] _ rfl rfl fun u β W hW hn fr hfr K hK => ?_
                  simp only [frameL, putL, Act.put, List.setIfInBounds_toArray, List.set_cons_zero, List.set_cons_succ, Nat.zero_add, Nat.reduceAdd] at hfr
                  subst hfr
                  have e1 : u 1 = .pointer (some ⟨w.heap.size, 4, none⟩) := Have.get (k := 1) hn rfl
                  simp only [e1] at hK
                  obtain ⟨d0, d1, d2, d3, d4, d5, dl⟩ := id (HY.out.later hW).all6
                  have HK := Lib.hid hK
                  clear hK hn
                  go_simp
                  have h9 := HK.out
                  revert h9
                  clear HK
                  go_simp
                  try exact id
                refine Steps.cons ?_ ?_
                · intro _ _; refine FreeStep.val [] _ rfl rfl fun u β W hW hn fr hfr K hK => ?_
                  simp only [frameL, putL, Act.put, List.setIfInBounds_toArray, List.set_cons_zero, List.set_cons_succ, Nat.zero_add, Nat.reduceAdd] at hfr
                  subst hfr
                  have HK := Lib.hid hK
                  clear hK hn
                  go_simp
                  have h9 := HK.out
                  revert h9
                  clear HK
                  go_simp
                  try exact id
                refine Steps.cons ?_ ?_
                · intro _ _; refine FreeStep.val [] _ rfl rfl fun u β W hW hn fr hfr K hK => ?_
                  simp only [frameL, putL, Act.put, List.setIfInBounds_toArray, List.set_cons_zero, List.set_cons_succ, Nat.zero_add, Nat.reduceAdd] at hfr
                  subst hfr
                  have e2 : u 2 = .slice (some ⟨gr, 0, none⟩) n kr := Have.get (k := 2) hn rfl
                  have e3 : u 3 = .int .i64 (m : Int) := Have.get (k := 3) hn rfl
                  simp only [e2, e3] at hK
                  have HK := Lib.hid hK
                  clear hK hn
                  go_simp
                  have h9 := HK.out
                  revert h9
                  clear HK
                  go_simp
                  try exact id
                refine Steps.cons ?_ ?_
                · intro _ _; refine FreeStep.val [] _ rfl rfl fun u β W hW hn fr hfr K hK => ?_
                  simp only [frameL, putL, Act.put, List.setIfInBounds_toArray, List.set_cons_zero, List.set_cons_succ, Nat.zero_add, Nat.reduceAdd] at hfr
                  subst hfr
                  have e4 : u 4 = .pointer (some ⟨gr, m, none⟩) := Have.get (k := 4) hn rfl
                  simp only [e4] at hK
                  have c9 := (HLw.out.later hW).cr
                  have HK := Lib.hid hK
                  clear hK hn
                  go_simp
                  have h9 := HK.out
                  revert h9
                  clear HK
                  go_simp
                  try exact id
                refine Steps.cons ?_ ?_
                · intro _ _; refine FreeStep.val [] _ rfl rfl fun u β W hW hn fr hfr K hK => ?_
                  simp only [frameL, putL, Act.put, List.setIfInBounds_toArray, List.set_cons_zero, List.set_cons_succ, Nat.zero_add, Nat.reduceAdd] at hfr
                  subst hfr
                  have e5 : u 5 = .slice (some ⟨g2, 0, none⟩) 2 k2 := Have.get (k := 5) hn rfl
                  simp only [e5] at hK
                  have HK := Lib.hid hK
                  clear hK hn
                  go_simp
                  have h9 := HK.out
                  revert h9
                  clear HK
                  go_simp
                  try exact id
                refine Steps.cons ?_ ?_
                · intro _ _; refine FreeStep.val [] _ rfl rfl fun u β W hW hn fr hfr K hK => ?_
                  simp only [frameL, putL, Act.put, List.setIfInBounds_toArray, List.set_cons_zero, List.set_cons_succ, Nat.zero_add, Nat.reduceAdd] at hfr
                  subst hfr
                  have e6 : u 6 = .pointer (some ⟨g2, 0, none⟩) := Have.get (k := 6) hn rfl
                  simp only [e6] at hK
                  have c9 := (HLw.out.later hW).r0
                  have HK := Lib.hid hK
                  clear hK hn
                  go_simp
                  have h9 := HK.out
                  revert h9
                  clear HK
                  go_simp
                  try exact id
                refine Steps.cons ?_ ?_
                · intro _ _; refine FreeStep.calm [] _ rfl rfl fun u β W hW hn fr hfr K hK => ?_
                  simp only [frameL, putL, Act.put, List.setIfInBounds_toArray, List.set_cons_zero, List.set_cons_succ, Nat.zero_add, Nat.reduceAdd] at hfr
                  subst hfr
                  have e0 : u 0 = .string u4 := Have.get (k := 0) hn rfl
                  have e7 : u 7 = .slice (some ⟨g3, 0, none⟩) r.length k3 := Have.get (k := 7) hn rfl
                  simp only [e0, e7] at hK
                  have hBW := HB2.out.trans (hW.mono hsw2)
                  have HK := Lib.hid hK
                  clear hK hn
                  go_simp
                  refine (HR5.out _ hBW).mono ?_
                  rintro e wn ⟨rfl, hbn⟩
                  have h9 := HK.out _ hbn
                  revert h9
                  clear HK
                  go_simp
                  try exact id
                refine Steps.cons ?_ ?_
                · intro _ _; refine FreeStep.val [] _ rfl rfl fun u β W hW hn fr hfr K hK => ?_
                  simp only [frameL, putL, Act.put, List.setIfInBounds_toArray, List.set_cons_zero, List.set_cons_succ, Nat.zero_add, Nat.reduceAdd] at hfr
                  subst hfr
                  have HK := Lib.hid hK
                  clear hK hn
                  go_simp
                  have h9 := HK.out
                  revert h9
                  clear HK
                  go_simp
                  try exact id
                refine Steps.cons ?_ ?_
                · intro _ _; refine FreeStep.val [] _ rfl rfl fun u β W hW hn fr hfr K hK => ?_
                  simp only [frameL, putL, Act.put, List.setIfInBounds_toArray, List.set_cons_zero, List.set_cons_succ, Nat.zero_add, Nat.reduceAdd] at hfr
                  subst hfr
                  have e9 : u 9 = .pointer (some ⟨w.heap.size, 4, none⟩) := Have.get (k := 9) hn rfl
                  simp only [e9] at hK
                  obtain ⟨d0, d1, d2, d3, d4, d5, dl⟩ := id (HY.out.later hW).all6
                  have HK := Lib.hid hK
                  clear hK hn
                  go_simp
                  have h9 := HK.out
                  revert h9
                  clear HK
                  go_simp
                  try exact id
                refine Steps.cons ?_ ?_
                · intro _ _; refine FreeStep.val [] _ rfl rfl fun u β W hW hn fr hfr K hK => ?_
                  simp only [frameL, putL, Act.put, List.setIfInBounds_toArray, List.set_cons_zero, List.set_cons_succ, Nat.zero_add, Nat.reduceAdd] at hfr
                  subst hfr
                  have HK := Lib.hid hK
                  clear hK hn
                  go_simp
                  have h9 := HK.out
                  revert h9
                  clear HK
                  go_simp
                  try exact id
                refine Steps.cons ?_ ?_
                · intro _ _; refine FreeStep.val [] _ rfl rfl fun u β W hW hn fr hfr K hK => ?_
                  simp only [frameL, putL, Act.put, List.setIfInBounds_toArray, List.set_cons_zero, List.set_cons_succ, Nat.zero_add, Nat.reduceAdd] at hfr
                  subst hfr
                  have e10 : u 10 = .slice (some ⟨gr, 0, none⟩) n kr := Have.get (k := 10) hn rfl
                  have e11 : u 11 = .int .i64 (m : Int) := Have.get (k := 11) hn rfl
                  simp only [e10, e11] at hK
                  have HK := Lib.hid hK
                  clear hK hn
                  go_simp
                  have h9 := HK.out
                  revert h9
                  clear HK
                  go_simp
                  try exact id
                refine Steps.cons ?_ ?_
                · intro _ _; refine FreeStep.val [] _ rfl rfl fun u β W hW hn fr hfr K hK => ?_
                  simp only [frameL, putL, Act.put, List.setIfInBounds_toArray, List.set_cons_zero, List.set_cons_succ, Nat.zero_add, Nat.reduceAdd] at hfr
                  subst hfr
                  have e12 : u 12 = .pointer (some ⟨gr, m, none⟩) := Have.get (k := 12) hn rfl
                  simp only [e12] at hK
                  have c9 := (HLw.out.later hW).cr
                  have HK := Lib.hid hK
                  clear hK hn
                  go_simp
                  have h9 := HK.out
                  revert h9
                  clear HK
                  go_simp
                  try exact id
                refine Steps.cons ?_ ?_
                · intro _ _; refine FreeStep.val [] _ rfl rfl fun u β W hW hn fr hfr K hK => ?_
                  simp only [frameL, putL, Act.put, List.setIfInBounds_toArray, List.set_cons_zero, List.set_cons_succ, Nat.zero_add, Nat.reduceAdd] at hfr
                  subst hfr
                  have e13 : u 13 = .slice (some ⟨g2, 0, none⟩) 2 k2 := Have.get (k := 13) hn rfl
                  simp only [e13] at hK
                  have HK := Lib.hid hK
                  clear hK hn
                  go_simp
                  have h9 := HK.out
                  revert h9
                  clear HK
                  go_simp
                  try exact id
                refine Steps.cons ?_ ?_
                · intro _ _; refine FreeStep.val [] _ rfl rfl fun u β W hW hn fr hfr K hK => ?_
                  simp only [frameL, putL, Act.put, List.setIfInBounds_toArray, List.set_cons_zero, List.set_cons_succ, Nat.zero_add, Nat.reduceAdd] at hfr
                  subst hfr
                  have e14 : u 14 = .pointer (some ⟨g2, 1, none⟩) := Have.get (k := 14) hn rfl
                  simp only [e14] at hK
                  have c9 := (HLw.out.later hW).r1
                  have HK := Lib.hid hK
                  clear hK hn
                  go_simp
                  have h9 := HK.out
                  revert h9
                  clear HK
                  go_simp
                  try exact id
                refine Steps.cons ?_ ?_
                · intro _ _; refine FreeStep.calm [] _ rfl rfl fun u β W hW hn fr hfr K hK => ?_
                  simp only [frameL, putL, Act.put, List.setIfInBounds_toArray, List.set_cons_zero, List.set_cons_succ, Nat.zero_add, Nat.reduceAdd] at hfr
                  subst hfr
                  have e8 : u 8 = .string u5 := Have.get (k := 8) hn rfl
                  have e15 : u 15 = .slice (some ⟨g4, 0, none⟩) q.length k4 := Have.get (k := 15) hn rfl
                  simp only [e8, e15] at hK
                  have hBW := HB2.out.trans (hW.mono hsw2)
                  have HK := Lib.hid hK
                  clear hK hn
                  go_simp
                  refine (HR6.out _ hBW).mono ?_
                  rintro e wn ⟨rfl, hbn⟩
                  have h9 := HK.out _ hbn
                  revert h9
                  clear HK
                  go_simp
                  try exact id
                refine Steps.cons ?_ ?_
                · exact fun h => absurd h (by decide)
                exact Steps.nil
              case tail =>
                intro u β W hW hn hdis hbnd fr hfr
                simp only [frameL, putL, Act.put, List.setIfInBounds_toArray, List.set_cons_zero, List.set_cons_succ, Nat.zero_add, Nat.reduceAdd] at hfr
                subst hfr
                have z0 : u 0 = .string u4 := Have.get (k := 0) hn rfl
                have z1 : u 1 = .pointer (some ⟨w.heap.size, 4, none⟩) := Have.get (k := 1) hn rfl
                have z2 : u 2 = .slice (some ⟨gr, 0, none⟩) n kr := Have.get (k := 2) hn rfl
                have z3 : u 3 = .int .i64 (m : Int) := Have.get (k := 3) hn rfl
                have z4 : u 4 = .pointer (some ⟨gr, m, none⟩) := Have.get (k := 4) hn rfl
                have z5 : u 5 = .slice (some ⟨g2, 0, none⟩) 2 k2 := Have.get (k := 5) hn rfl
                have z6 : u 6 = .pointer (some ⟨g2, 0, none⟩) := Have.get (k := 6) hn rfl
                have z7 : u 7 = .slice (some ⟨g3, 0, none⟩) r.length k3 := Have.get (k := 7) hn rfl
                have z8 : u 8 = .string u5 := Have.get (k := 8) hn rfl
                have z9 : u 9 = .pointer (some ⟨w.heap.size, 4, none⟩) := Have.get (k := 9) hn rfl
                have z10 : u 10 = .slice (some ⟨gr, 0, none⟩) n kr := Have.get (k := 10) hn rfl
                have z11 : u 11 = .int .i64 (m : Int) := Have.get (k := 11) hn rfl
                have z12 : u 12 = .pointer (some ⟨gr, m, none⟩) := Have.get (k := 12) hn rfl
                have z13 : u 13 = .slice (some ⟨g2, 0, none⟩) 2 k2 := Have.get (k := 13) hn rfl
                have z14 : u 14 = .pointer (some ⟨g2, 1, none⟩) := Have.get (k := 14) hn rfl
                have z15 : u 15 = .slice (some ⟨g4, 0, none⟩) q.length k4 := Have.get (k := 15) hn rfl
                have z16 : u 16 = .string u6 := Have.get (k := 16) hn rfl
                simp only [z0, z1, z2, z3, z4, z5, z6, z7, z8, z9, z10, z11, z12, z13, z14, z15, z16]
                clear hn hdis hbnd z0 z1 z2 z3 z4 z5 z6 z7 z8 z9 z10 z11 z12 z13 z14 z15 z16
                show wpOps _ _ _ [17] _ _
                rw [wpOps_cons]
                refine wpOp_step rfl (fun K hK => ?_)
                have HK := Lib.hid hK
                clear hK
                go_simp
                refine HK.out _ _ ?_
                clear HK
                unfold wpOps
                have HB3 := Lib.hid (HB2.out.trans (hW.mono hsw2))
                obtain ⟨c0, c1, c2, c3, c4, c5, cl⟩ := id (HX.out.later HB3.out).all6
                have tci := (HLr.out.later HB3.out).ci
                clear hW HLw HY HLr HR5 HR6
                go_wp2_with fail
                refine (HR7.out _ HB3.out).mono ?_
                rintro e w9 ⟨rfl, hb9⟩
                have H9 := Lib.hid (HB3.out.trans (hb9.mono HB3.out.size))
                clear hb9 HR7
                go_wp2
                go_roundw
                case rel => exact ⟨m + 1, _, by omega, by go_num, rfl, by rw [ByteArray.size_append, ByteArray.size_append]; have := Hls3.out; omega, HS.out.symm, H9⟩
                case measure => simp [intOf]; omega
      · have e : m = n := by omega
        subst e
        go_wp2
        go_ret
        exact ⟨by rw [Hu.out, Hn.out]; rfl, HB0.out.trans (HB.out.mono HB0.out.size)⟩
end Go.Proofs.YtglbmmgancecnaaDoor
