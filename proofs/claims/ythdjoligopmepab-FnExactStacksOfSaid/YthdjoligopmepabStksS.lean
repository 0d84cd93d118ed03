/- StacksOf of the model; both sides. -/
import Derived.Test.YthdjoligopmepabStksB
namespace Go.Proofs.Ythdjoligopmepab
open Go.RowKit
set_option linter.unusedVariables false

section
variable {base : Nat} {va vc vr vi : Value} {c : Ck} {bsC : List Nat}
set_option maxHeartbeats 1600000 in
set_option maxRecDepth 100000 in
theorem spec_Stks_no (s : ByteArray) (w : World) (hs : s.size ≤ 1048576) (hbd : BdC c) (hck : CkE base w (.agg #[.int .i64 c.stack, .int .i64 c.start, va, vc, vr, vi]) c bsC) (h : ¬ GivenM c s) :
    Calls Try.prog 19 #[.agg #[.int .i64 c.stack, .int .i64 c.start, va, vc, vr, vi], .string s] w (PostR Ints2E [] 1 w) := by
  have hB0 := (Below.refl w.heap.size w).alloc (Nat.le_refl _) (.cells #[.int .i64 c.stack, .int .i64 c.start, va, vc, vr, vi] 34)
  have hbx := Box6.new w (.int .i64 c.stack) (.int .i64 c.start) va vc vr vi 34
  have hck1 := (ck_ok _).later hck hB0
  have H1 := Lib.hid (spec_given_no _ s _ hs hbd hck1 hbx h)
  have HB0 := Lib.hid hB0
  clear hck hbd h hB0 hbx hck1
  go_enter Try.func19, Try.ntmps19
  go_wp2_with fail
  refine H1.out.mono ?_
  rintro e w1 ⟨rfl, m, rfl⟩
  have hA := below_drewN HB0.out m
  obtain ⟨Wd, hWd⟩ : ∃ W, W = (w.alloc (.cells #[.int .i64 c.stack, .int .i64 c.start, va, vc, vr, vi] 34)).drewN m := ⟨_, rfl⟩
  rw [← hWd] at hA ⊢
  clear hWd
  have hN := many_lit (E := IntsE 0) (base := 0) (g := Wd.heap.size) (e := 28) (xs := []) (vs := #[]) (bss := []) (W := Wd.alloc (.cells #[] 28)) 0 (Bx.new Wd _ _) (Nat.zero_le _) rfl trivial (by simp) (Nat.zero_le _)
  have HN := Lib.hid hN
  clear hN
  go_wp2
  go_ret2
  exact ⟨_, _, rfl, HN.out, hA.alloc hA.size _⟩

set_option maxHeartbeats 6400000 in
set_option maxRecDepth 100000 in
theorem spec_Stks_yes (s : ByteArray) (w : World) (hbd : BdC c) (hck : CkE base w (.agg #[.int .i64 c.stack, .int .i64 c.start, va, vc, vr, vi]) c bsC) (h : GivenM c s) :
    Calls Try.prog 19 #[.agg #[.int .i64 c.stack, .int .i64 c.start, va, vc, vr, vi], .string s] w (PostR Ints2E (stkM c (c.start, []) (symL s.data.toList) s.size) 0 w) := by
  obtain ⟨i0, hi, hz0, hz1, hz2⟩ := info_parts toInfo_ints
  have hc := okC_of h.2
  have hw := h.1
  have h60 := h.1.1
  have hB0 := (Below.refl w.heap.size w).alloc (Nat.le_refl _) (.cells #[.int .i64 c.stack, .int .i64 c.start, va, vc, vr, vi] 34)
  have hbx := Box6.new w (.int .i64 c.stack) (.int .i64 c.start) va vc vr vi 34
  have hck1 := (ck_ok _).later hck hB0
  have H1 := Lib.hid (spec_given_yes _ s _ hbd hck1 hbx h)
  have HB0 := Lib.hid hB0
  have Hck := Lib.hid hck
  have Hc := Lib.hid hc
  have Hw := Lib.hid hw.2
  have Hp := Lib.hid (StM.start hc)
  have Hbx := Lib.hid hbx
  have Hl := Lib.hid (show s.data.toList.length = s.size by simp)
  have H0 := Lib.hid (show goM c (c.start, []) (symL (s.data.toList.take 0)) = (c.start, []) from by simp [symL, goM])
  have Hss := Lib.hid (And.intro (stkM_succ c (c.start, []) (symL s.data.toList)) (And.intro (stkM_len c (c.start, []) (symL s.data.toList)) (stkM_zero c (c.start, []) (symL s.data.toList))))
  have Htk := Lib.hid (show ∀ j, (symL s.data.toList).take j = symL (s.data.toList.take j) from fun j => by simp [symL, List.map_take])
  clear hck hbd h hB0 hbx hck1 hc hw
  obtain ⟨t0, ht0⟩ : ∃ t, t = c.stack := ⟨_, rfl⟩
  obtain ⟨t1, ht1⟩ : ∃ t, t = c.start := ⟨_, rfl⟩
  rw [← ht0, ← ht1] at H1 HB0 Hck Hbx ⊢
  rw [← ht1] at Hp H0 Hss
  have Ht := Lib.hid (And.intro ht0 ht1)
  clear ht0 ht1
  go_enter Try.func19, Try.ntmps19
  go_wp2_with fail
  refine H1.out.mono ?_
  rintro e w1 ⟨rfl, m, rfl⟩
  have hA := below_drewN HB0.out m
  have hbd := Hbx.out.same (W' := (w.alloc (.cells #[.int .i64 t0, .int .i64 t1, va, vc, vr, vi] 34)).drewN m) rfl
  obtain ⟨Wd, hWd⟩ : ∃ W, W = (w.alloc (.cells #[.int .i64 t0, .int .i64 t1, va, vc, vr, vi] 34)).drewN m := ⟨_, rfl⟩
  rw [← hWd] at hA hbd ⊢
  clear hWd H1 HB0
  have hB1 := (Below.refl Wd.heap.size Wd).alloc (Nat.le_refl _) (.cells #[] 2)
  have hE1 : IntsE Wd.heap.size (Wd.alloc (.cells #[] 2)) (.slice (some ⟨Wd.heap.size, 0, none⟩) 0 0) [] [Wd.heap.size] := ⟨(ints_new Wd).2, rfl⟩
  have hM2 := many_one hE1 (by simp)
  have hB2 := hB1.alloc hB1.size (.cells #[.slice (some ⟨Wd.heap.size, 0, none⟩) 0 0] 28)
  have hK3 := (ints_new ((Wd.alloc (.cells #[] 2)).alloc (.cells #[.slice (some ⟨Wd.heap.size, 0, none⟩) 0 0] 28))).2
  have hM3 := (ints2_ok _).later hM2 ((Below.refl _ _).alloc (Nat.le_refl _) (.cells #[] 2))
  have hB3 := hB2.alloc hB2.size (.cells #[] 2)
  rw [World.size_alloc, World.size_alloc] at hK3
  rw [World.size_alloc] at hM3
  rw [show ([[]] : List (List Int)) = stkM c (t1, []) (symL s.data.toList) 0 from by rw [Hss.out.2.2]] at hM3
  have Hst := Lib.hid (And.intro hM3 (And.intro hK3 hB3))
  have e1 := hbd.c1
  have e1a := fun o o' => ((hbd.later ((Below.refl _ Wd).alloc (Nat.le_refl _) o)).later ((Below.refl _ _).alloc (Nat.le_refl _) o')).c1
  have Hbd := Lib.hid hbd
  have HA := Lib.hid hA
  clear hM2 hM3 hK3 hB1 hB2 hB3 hbd hA hE1
  go_wp2
  go_loopw [7, 8, 9, 10] (fun ls st sk i wr => ∃ j : Nat, j ≤ s.size ∧ i = .int .i64 j ∧ st = .int .i64 (goM c (t1, []) (symL (s.data.toList.take j))).1 ∧ (∃ bs bsk, Ints2E Wd.heap.size wr ls (stkM c (t1, []) (symL s.data.toList) j) bs ∧ IntsE 0 wr sk (goM c (t1, []) (symL (s.data.toList.take j))).2 bsk ∧ (∀ b ∈ bs, b ∉ bsk)) ∧ Below Wd.heap.size Wd wr) (fun _ _ _ i _ => s.size - (intOf i).toNat)
  case atStart =>
    refine ⟨0, Nat.zero_le _, rfl, by rw [H0.out], ⟨_, [Wd.heap.size + 1 + 1], Hst.out.1, by rw [H0.out]; exact ⟨row_base Hst.out.2.1 (Nat.zero_le _), rfl⟩, fun b hb h => ?_⟩, Hst.out.2.2⟩
    rw [List.mem_singleton.1 h] at hb
    simp only [List.mem_cons, List.not_mem_nil, or_false] at hb
    omega
  case round =>
    obtain ⟨j, hj, rfl, rfl, ⟨bs, bsk, hS, hK, hD⟩, hB⟩ := hrel
    obtain ⟨A', ca, rfl⟩ := ManyE.slice hS
    by_cases hlt : j < s.size
    · rw [Hss.out.2.1] at hS ⊢
      have hts : s.data.toList.take (j + 1) = s.data.toList.take j ++ [s[j]] := by
        rw [List.take_succ_eq_append_getElem (by rw [Hl.out]; exact hlt)]; rfl
      have hmem : s[j] ∈ s.data.toList := by
        have : s.data.toList[j]'(by rw [Hl.out]; exact hlt) = s[j] := rfl
        rw [← this]
        exact List.getElem_mem _
      have hb0 := Hw.out _ hmem
      have hst := Hp.out.go Hc.out (symL (s.data.toList.take j)) (symL_ok fun b hb => Hw.out b (List.mem_of_mem_take hb))
      have hlen := go_len c (symL (s.data.toList.take j)) (t1, [])
      rw [symL_len] at hlen
      have hlen2 : (goM c (t1, []) (symL (s.data.toList.take j))).2.length ≤ 199 := by
        have := List.length_take_le j s.data.toList
        simp only [List.length_nil] at hlen
        omega
      have hlen3 : (goM c (t1, []) (symL (s.data.toList.take (j + 1)))).2.length ≤ 1048576 := by
        have h1 := go_len c (symL (s.data.toList.take (j + 1))) (t1, [])
        rw [symL_len] at h1
        have := List.length_take_le (j + 1) s.data.toList
        simp only [List.length_nil] at h1
        omega
      have hAr := HA.out.trans (hB.mono HA.out.size)
      have hq := spec_step (b := s[j]) (C := w.heap.size) wr (by rw [← Ht.out.1, ← Ht.out.2]; exact (ck_ok _).later Hck.out hAr) (by rw [← Ht.out.1, ← Ht.out.2]; exact Hbd.out.later hB) Hc.out hst (by omega) hb0 hK
      rw [← goM_snoc, ← symL_snoc, ← hts] at hq
      have Hq := Lib.hid hq
      have Hi := Lib.hid (And.intro hS (And.intro hD hB))
      have Hl3 := Lib.hid hlen3
      clear hts hmem hb0 hst hlen hlen2 hlen3 hq hS hK hB hAr hD
      go_wp2_with fail
      refine Hq.out.mono ?_
      rintro e w1 ⟨v1, bs2, rfl, hK2, hb1, hF2⟩
      have hS1 := (ints2_ok _).later Hi.out.1 hb1
      have hB1 := Hi.out.2.2.trans (hb1.mono Hi.out.2.2.size)
      have hD1 : ∀ b ∈ bs, b ∉ bs2 := fun b hb h => by
        rcases hF2 b h with e | e
        · exact Hi.out.2.1 b hb e
        · have := ((ints2_ok _).lt Hi.out.1 b hb).2
          omega
      have Hown := Lib.hid (spec_own w1 Hl3.out hK2)
      have Hb := Lib.hid (And.intro hS1 (And.intro hK2 (And.intro hD1 hB1)))
      clear hS1 hK2 hD1 hB1 hb1 hF2
      go_wp2_with fail
      refine Hown.out.mono ?_
      rintro e w2 ⟨v2, cs2, rfl, hE2, hb2⟩
      obtain ⟨A2, k2, rfl⟩ := RowE.slice hE2
      obtain ⟨n2, hn2⟩ : ∃ n2, n2 = (goM c (t1, []) (symL (s.data.toList.take (j + 1)))).2.length := ⟨_, rfl⟩
      rw [← hn2] at hE2 ⊢
      clear hn2
      have hS2 := (ints2_ok _).later Hb.out.1 hb2
      have hK2 := (ints_ok _).later Hb.out.2.1 hb2
      have hB2 := Hb.out.2.2.2.trans (hb2.mono Hb.out.2.2.2.size)
      have hzw := Hb.out.2.2.2.size
      have hz2 := hb2.size
      obtain ⟨vs, hrow'⟩ := ManyE.row hS2
      have hrow : w2.ownsRow Wd.heap.size 28 1 (.slice A' (j + 1) ca) (j + 1) vs := by rwa [Hss.out.2.1] at hrow'
      have hE2' : IntsE Wd.heap.size w2 (.slice A2 n2 k2) (goM c (t1, []) (symL (s.data.toList.take (j + 1)))).2 cs2 := ⟨row_base hE2.1 hzw, hE2.2⟩
      have hd2 : ∀ b ∈ bs, b ∉ cs2 := fun b hb h => by
        have h1 := ((ints2_ok _).lt Hb.out.1 b hb).2
        have h2 := ((ints_ok _).lt hE2 b h).1
        omega
      have hd3 : ∀ b ∈ cs2, b ∉ bs2 := fun b hb h => by
        have h1 := ((ints_ok _).lt Hb.out.2.1 b h).2
        have h2 := ((ints_ok _).lt hE2 b hb).1
        omega
      have hone : ∀ u ∈ [Value.slice A2 n2 k2], u.oneCell' = true := by intro u hu; rw [List.mem_singleton.1 hu]; rfl
      have Hc2 := Lib.hid (And.intro hS2 (And.intro hK2 (And.intro hrow (And.intro hE2' (And.intro hd2 (And.intro hd3 (And.intro hone (And.intro hB2 Hb.out.2.2.1))))))))
      clear hS2 hK2 hrow hrow' hE2' hE2 hd2 hd3 hone hb2 hB2 Hown
      go_wp2_with (at_builtin; refine wpList_append_lies _ rfl _ _ 25 rfl Wd.heap.size 28 i0 (.slice none 0 0) 1 24 Try.underlying25 hi hz0 hz1 (by assumption) rfl (by decide) _ (j + 1) _ rfl (Hc2.out.2.2.1.alloc _) ⟨w2.heap.size, 0, none⟩ 1 1 [.slice A2 n2 k2] rfl rfl (World.news_of_block (Bx.new w2 _ _)) Hc2.out.2.2.2.2.2.2.1 (by decide) ?c1 ?c2 ?c3 _ rfl ?_)
      case c1 => unfold maxLen; omega
      case c2 => omega
      case c3 => simp; omega
      intro g1 cap w5 hown hg hat hltg
      obtain ⟨hS2, hK2, hrow, hE2', hd2, hd3, _, hB2, hD1⟩ := Hc2.out
      obtain ⟨bs5, hS5, hN5⟩ := many_more hS2 (Hss.out.2.1 _) hrow hE2' hd2 hown hg (by rcases hat with h | h; exact .inl h; exact .inr (by rw [h]))
      rw [← Htk.out, ← Hss.out.1] at hS5
      have hbse : ∀ k, (Value.slice A' (j + 1) ca).ownBlock = some k → k ∈ bs := fun k hk => by
        obtain ⟨_, bss, _, _, _, e, _⟩ := hS2
        rw [e, hk]
        simp
      have hg1 : g1 ∉ bs2 := fun h => by
        rcases hat with e | e
        · exact hD1 g1 (hbse g1 e) h
        · have := ((ints_ok _).lt hK2 g1 h).2
          rw [e] at this
          (try rw [World.size_alloc] at this)
          omega
      have hK5 : IntsE 0 w5 v1 (goM c (t1, []) (symL (s.data.toList.take (j + 1)))).2 bs2 := (ints_ok _).kept hK2 fun b hb => by
        have hbl := ((ints_ok _).lt hK2 b hb).2
        refine (hg.block b (by rw [World.size_alloc]; omega) fun e => ?_).trans (Below.heap_alloc w2 _ b hbl)
        exact hD1 b (hbse b e.symm) hb
      have hD5 : ∀ b ∈ bs5, b ∉ bs2 := fun b hb => by
        rcases hN5 b hb with h | h | h
        · exact hD1 b h
        · exact hd3 b h
        · rw [h]; exact hg1
      have hB5 : Below Wd.heap.size Wd w5 := (hB2.alloc hB2.size _).grown hg (by rw [World.size_alloc]; have := hB2.size; omega) fun k hk => ((ints2_ok _).lt hS2 k (hbse k hk)).1
      clear hown hg hat hbse hS2 hK2 hrow hE2' hd2 hd3 hB2 hD1 hN5 hg1
      go_wp2
      go_roundw
      case rel => exact ⟨j + 1, by omega, by go_num, rfl, ⟨bs5, bs2, hS5, hK5, hD5⟩, hB5⟩
      case measure => simp [intOf]; omega
    · have e : j = s.size := by omega
      subst e
      have hAr := HA.out.trans (hB.mono HA.out.size)
      have hS0 : Ints2E 0 wr (.slice A' (stkM c (t1, []) (symL s.data.toList) s.size).length ca) (stkM c (t1, []) (symL s.data.toList) s.size) bs := ints2_base (Nat.zero_le _) _ _ _ _ hS
      go_wp2
      go_ret2
      exact ⟨_, bs, rfl, hS0, hAr⟩
end
theorem szL_bd {α : Type} (sz : α → Nat) (k : Nat) (xs : List α) (h : ∀ x ∈ xs, sz x ≤ k) : szL sz xs ≤ xs.length * k := by
  induction xs with
  | nil => simp [szL]
  | cons x xs ih =>
    have h1 := h x List.mem_cons_self
    have h2 := ih fun y hy => h y (List.mem_cons_of_mem _ hy)
    simp only [szL, List.map_cons, List.sum_cons, List.length_cons, Nat.succ_mul] at h2 ⊢
    omega
theorem both_StacksOf (c : Ck) (s : ByteArray) (hs : s.size ≤ 1048576) : ∃ (r0 : List (List Int)) (r1 : Int), (Bd2 r0 ∧ szL lenI r0 ≤ 100000) ∧
    (∀ base v bs w, BdC c → CkE base w v c bs → Calls Try.prog 19 #[v, .string s] w (PostR Ints2E r0 r1 w)) ∧
    (∀ base v bs w, BdC c → CkE base w v c bs → Calls Try.prog 20 #[v, .string s] w (PostV Ints2E r0 r1 w)) := by
  by_cases h : GivenM c s
  · have h60 := h.1.1
    have hl2 : s.data.toList.length = s.size := by simp
    have hel : ∀ x ∈ stkM c (c.start, []) (symL s.data.toList) s.size, x.length ≤ 60 := fun x hx => by
      rw [stkM, List.mem_map] at hx
      obtain ⟨i, _, rfl⟩ := hx
      have h1 := go_len c ((symL s.data.toList).take i) (c.start, [])
      have h2 := List.length_take_le i (symL s.data.toList)
      have h3 := List.length_take_le' i (symL s.data.toList)
      rw [symL_len] at h3
      simp only [List.length_nil] at h1
      omega
    refine ⟨stkM c (c.start, []) (symL s.data.toList) s.size, 0, ⟨⟨by rw [stkM_len]; omega, fun x hx => by have := hel x hx; unfold Bd1; omega⟩, ?_⟩, fun base v bs w hbd hck => ?_, fun base v bs w hbd hck => ?_⟩
    · have := szL_bd lenI 60 _ hel
      rw [stkM_len] at this
      have : (s.size + 1) * 60 ≤ 61 * 60 := Nat.mul_le_mul_right _ (by omega)
      omega
    · obtain ⟨va, vc, vr, vi, rfl⟩ := hck.agg
      exact spec_Stks_yes s w hbd hck h
    · obtain ⟨va, vc, vr, vi, rfl⟩ := hck.agg
      exact impl_Stks_yes s w hbd hck h
  · refine ⟨[], 1, ⟨⟨by simp, fun x hx => by cases hx⟩, by simp [szL]⟩, fun base v bs w hbd hck => ?_, fun base v bs w hbd hck => ?_⟩
    · obtain ⟨va, vc, vr, vi, rfl⟩ := hck.agg
      exact spec_Stks_no s w hs hbd hck h
    · obtain ⟨va, vc, vr, vi, rfl⟩ := hck.agg
      exact impl_Stks_no s w hs hbd hck h
end Go.Proofs.Ythdjoligopmepab
