/- RunOf of the model; both sides. -/
import Derived.Test.YthdjoligopmepaaRunOfI
namespace Go.Proofs.Ythdjoligopmepaa
open Go.RowKit
set_option linter.unusedVariables false

section
variable {base : Nat} {va vc vr vi : Value} {c : Ck} {bsC : List Nat}
set_option maxHeartbeats 1600000 in
set_option maxRecDepth 100000 in
theorem spec_RunOf_no (s : ByteArray) (w : World) (hs : s.size ≤ 1048576) (hbd : BdC c) (hck : CkE base w (.agg #[.int .i64 c.stack, .int .i64 c.start, va, vc, vr, vi]) c bsC) (h : ¬ GivenM c s) :
    Calls Try.prog 22 #[.agg #[.int .i64 c.stack, .int .i64 c.start, va, vc, vr, vi], .string s] w (PostRR IntsE IntsE [] [] 1 w) := by
  have hB0 := (Below.refl w.heap.size w).alloc (Nat.le_refl _) (.cells #[.int .i64 c.stack, .int .i64 c.start, va, vc, vr, vi] 32)
  have hbx := Box6.new w (.int .i64 c.stack) (.int .i64 c.start) va vc vr vi 32
  have hck1 := (ck_ok _).later hck hB0
  have H1 := Lib.hid (spec_given_no _ s _ hs hbd hck1 hbx h)
  have HB0 := Lib.hid hB0
  clear hck hbd h hB0 hbx hck1
  go_enter Try.func22, Try.ntmps22
  go_wp2_with fail
  refine H1.out.mono ?_
  rintro e w1 ⟨rfl, m, rfl⟩
  have hA := below_drewN HB0.out m
  obtain ⟨Wd, hWd⟩ : ∃ W, W = (w.alloc (.cells #[.int .i64 c.stack, .int .i64 c.start, va, vc, vr, vi] 32)).drewN m := ⟨_, rfl⟩
  rw [← hWd] at hA ⊢
  clear hWd
  have hN := (ints_new Wd).2
  have hN2 := (ints_new (Wd.alloc (.cells #[] 2))).2
  rw [World.size_alloc] at hN2
  have hB1 := (Below.refl _ (Wd.alloc (.cells #[] 2))).alloc (Nat.le_refl _) (.cells #[] 2)
  have HN := Lib.hid (And.intro (row_below hN hB1) hN2)
  clear hN hN2 hB1
  go_wp2
  go_ret3
  exact ⟨.slice (some ⟨Wd.heap.size, 0, none⟩) 0 0, [Wd.heap.size], .slice (some ⟨Wd.heap.size + 1, 0, none⟩) 0 0, [Wd.heap.size + 1], rfl, ⟨row_base HN.out.1 (Nat.zero_le _), rfl⟩, ⟨row_base HN.out.2 (Nat.zero_le _), rfl⟩, (hA.alloc hA.size _).alloc (by simp; have := hA.size; omega) _⟩

set_option maxHeartbeats 6400000 in
set_option maxRecDepth 100000 in
theorem spec_RunOf_yes (s : ByteArray) (w : World) (hbd : BdC c) (hck : CkE base w (.agg #[.int .i64 c.stack, .int .i64 c.start, va, vc, vr, vi]) c bsC) (h : GivenM c s) :
    Calls Try.prog 22 #[.agg #[.int .i64 c.stack, .int .i64 c.start, va, vc, vr, vi], .string s] w (PostRR IntsE IntsE (stsM c (c.start, []) (symL s.data.toList) s.size) (endM c s.data.toList).2 0 w) := by
  obtain ⟨i0, hi, hz0, hz1, hz2⟩ := info_parts toInfo_i64
  have hc := okC_of h.2
  have hw := h.1
  have h60 := h.1.1
  have hB0 := (Below.refl w.heap.size w).alloc (Nat.le_refl _) (.cells #[.int .i64 c.stack, .int .i64 c.start, va, vc, vr, vi] 32)
  have hbx := Box6.new w (.int .i64 c.stack) (.int .i64 c.start) va vc vr vi 32
  have hck1 := (ck_ok _).later hck hB0
  have H1 := Lib.hid (spec_given_yes _ s _ hbd hck1 hbx h)
  have HB0 := Lib.hid hB0
  have Hck := Lib.hid hck
  have Hc := Lib.hid hc
  have Hw := Lib.hid hw.2
  have Hp := Lib.hid (StM.start hc)
  have Hbx := Lib.hid hbx
  have Hl := Lib.hid (show s.data.toList.length = s.size by simp)
  have H0 := Lib.hid (show goM c (c.start, []) (symL (s.data.toList.take 0)) = (c.start, []) from by simp [symL, goM])
  have Hss := Lib.hid (And.intro (stsM_succ c (c.start, []) (symL s.data.toList)) (And.intro (stsM_len c (c.start, []) (symL s.data.toList)) (stsM_zero c (c.start, []) (symL s.data.toList))))
  have Htk := Lib.hid (show ∀ j, (symL s.data.toList).take j = symL (s.data.toList.take j) from fun j => by simp [symL, List.map_take])
  clear hck hbd h hB0 hbx hck1 hc hw
  obtain ⟨t0, ht0⟩ : ∃ t, t = c.stack := ⟨_, rfl⟩
  obtain ⟨t1, ht1⟩ : ∃ t, t = c.start := ⟨_, rfl⟩
  rw [← ht0, ← ht1] at H1 HB0 Hck Hbx ⊢
  rw [← ht1] at Hp H0 Hss
  have Ht := Lib.hid (And.intro ht0 ht1)
  clear ht0 ht1
  go_enter Try.func22, Try.ntmps22
  go_wp2_with fail
  refine H1.out.mono ?_
  rintro e w1 ⟨rfl, m, rfl⟩
  have hA := below_drewN HB0.out m
  have hbd := Hbx.out.same (W' := (w.alloc (.cells #[.int .i64 t0, .int .i64 t1, va, vc, vr, vi] 32)).drewN m) rfl
  obtain ⟨Wd, hWd⟩ : ∃ W, W = (w.alloc (.cells #[.int .i64 t0, .int .i64 t1, va, vc, vr, vi] 32)).drewN m := ⟨_, rfl⟩
  rw [← hWd] at hA hbd ⊢
  clear hWd H1 HB0
  have hB1 := (Below.refl Wd.heap.size Wd).alloc (Nat.le_refl _) (.cells #[.int .i64 t1] 2)
  have hB2 := hB1.alloc hB1.size (.cells #[] 2)
  have hS0 : IntsE Wd.heap.size ((Wd.alloc (.cells #[.int .i64 t1] 2)).alloc (.cells #[] 2)) (.slice (some ⟨Wd.heap.size, 0, none⟩) 1 1) (stsM c (t1, []) (symL s.data.toList) 0) [Wd.heap.size] := by
    rw [Hss.out.2.2]
    have := World.ownsRow_lit (base := Wd.heap.size) (e := 2) (size := 1) Wd #[.int .i64 t1] 1 (Nat.le_refl _) (by unfold maxLen; omega) rfl
    exact (ints_ok _).later (w := Wd.alloc (.cells #[.int .i64 t1] 2)) ⟨by simpa using this, rfl⟩ ((Below.refl _ _).alloc (Nat.le_refl _) _)
  have hK0 : IntsE 0 ((Wd.alloc (.cells #[.int .i64 t1] 2)).alloc (.cells #[] 2)) (.slice (some ⟨Wd.heap.size + 1, 0, none⟩) 0 0) [] [Wd.heap.size + 1] := by
    have hN := (ints_new (Wd.alloc (.cells #[.int .i64 t1] 2))).2
    rw [World.size_alloc] at hN
    exact ⟨row_base hN (Nat.zero_le _), rfl⟩
  have Hst := Lib.hid (And.intro hS0 (And.intro hK0 hB2))
  have e1 := hbd.c1
  have e1a := fun o => (hbd.later ((Below.refl _ Wd).alloc (Nat.le_refl _) o)).c1
  have Hbd := Lib.hid hbd
  have HA := Lib.hid hA
  clear hS0 hK0 hB1 hB2 hbd hA
  go_wp2
  go_loopw [8, 9, 10, 11] (fun ls st sk i wr => ∃ j : Nat, j ≤ s.size ∧ i = .int .i64 j ∧ st = .int .i64 (goM c (t1, []) (symL (s.data.toList.take j))).1 ∧ (∃ bs bsk, IntsE Wd.heap.size wr ls (stsM c (t1, []) (symL s.data.toList) j) bs ∧ IntsE 0 wr sk (goM c (t1, []) (symL (s.data.toList.take j))).2 bsk ∧ (∀ b ∈ bs, b ∉ bsk)) ∧ Below Wd.heap.size Wd wr) (fun _ _ _ i _ => s.size - (intOf i).toNat)
  case atStart => exact ⟨0, Nat.zero_le _, rfl, by rw [H0.out], ⟨_, _, Hst.out.1, by rw [H0.out]; exact Hst.out.2.1, fun b hb h => by rw [List.mem_singleton.1 hb] at h; have := List.mem_singleton.1 h; omega⟩, Hst.out.2.2⟩
  case round =>
    obtain ⟨j, hj, rfl, rfl, ⟨bs, bsk, hS, hK, hD⟩, hB⟩ := hrel
    obtain ⟨A', ca, rfl⟩ := RowE.slice hS
    by_cases hlt : j < s.size
    · rw [Hss.out.2.1] at hS ⊢
      have hts : s.data.toList.take (j + 1) = s.data.toList.take j ++ [s[j]] := by
        rw [List.take_succ_eq_append_getElem (by rw [Hl.out]; exact hlt)]; rfl
      have hmem : s[j] ∈ s.data.toList := by
        have : s.data.toList[j]'(by rw [Hl.out]; exact hlt) = s[j] := rfl
        rw [← this]
        exact List.getElem_mem _
      have hb0 := Hw.out _ hmem
      have hst := Hp.out.go Hc.out (symL (s.data.toList.take j)) (symL_ok fun b hb => Hw.out b (List.mem_of_mem_take hb))
      have hlen := go_len c (symL (s.data.toList.take j)) (t1, [])
      rw [symL_len] at hlen
      have hlen2 : (goM c (t1, []) (symL (s.data.toList.take j))).2.length ≤ 200 := by
        have := List.length_take_le j s.data.toList
        simp only [List.length_nil] at hlen
        omega
      have hAr := HA.out.trans (hB.mono HA.out.size)
      have hq := spec_step (b := s[j]) (C := w.heap.size) wr (by rw [← Ht.out.1, ← Ht.out.2]; exact (ck_ok _).later Hck.out hAr) (by rw [← Ht.out.1, ← Ht.out.2]; exact Hbd.out.later hB) Hc.out hst hlen2 hb0 hK
      rw [← goM_snoc, ← symL_snoc, ← hts] at hq
      have Hq := Lib.hid hq
      have Hi := Lib.hid (And.intro hS (And.intro hD hB))
      clear hts hmem hb0 hst hlen hlen2 hq hS hK hB hAr hD
      go_wp2_with fail
      refine Hq.out.mono ?_
      rintro e w1 ⟨v1, bs2, rfl, hK2, hb1, hF2⟩
      have hS1 := (ints_ok _).later Hi.out.1 hb1
      have hB1 := Hi.out.2.2.trans (hb1.mono Hi.out.2.2.size)
      have hD1 : ∀ b ∈ bs, b ∉ bs2 := fun b hb h => by
        rcases hF2 b h with e | e
        · exact Hi.out.2.1 b hb e
        · have := ((ints_ok _).lt Hi.out.1 b hb).2
          omega
      obtain ⟨q, hqe⟩ : ∃ q, q = (goM c (t1, []) (symL (s.data.toList.take (j + 1)))).1 := ⟨_, rfl⟩
      rw [← hqe]
      have Hqe := Lib.hid hqe
      have hrow : w1.ownsRow Wd.heap.size 2 1 (.slice A' (j + 1) ca) (j + 1) ((stsM c (t1, []) (symL s.data.toList) j).flatMap fun x => [Value.int .i64 x]) := by
        have := hS1.1
        rwa [Hss.out.2.1] at this
      have hzw := hB1.size
      have Hb := Lib.hid (And.intro hS1 (And.intro hK2 (And.intro hD1 (And.intro hB1 hrow))))
      clear hqe hS1 hK2 hD1 hrow hB1 hb1 hF2
      go_wp2_with (at_builtin; refine wpList_append_lies _ rfl _ _ 43 rfl Wd.heap.size 2 i0 (.int .i64 0) 1 8 Try.underlying43 hi hz0 hz1 hz2 rfl (by decide) _ (j + 1) _ rfl (Hb.out.2.2.2.2.alloc _) ⟨w1.heap.size, 0, none⟩ 1 1 [.int .i64 q] rfl rfl (World.news_of_block (Bx.new w1 _ _)) (one_int q) (by decide) ?c1 ?c2 ?c3 _ rfl ?_)
      case c1 => unfold maxLen; omega
      case c2 => omega
      case c3 => simp; omega
      intro g1 cap w5 hown hg hat hltg
      have hown2 : IntsE Wd.heap.size w5 (.slice (some ⟨g1, 0, none⟩) (j + 1 + 1) cap) (stsM c (t1, []) (symL s.data.toList) (j + 1)) [g1] := by
        rw [Hss.out.1, Htk.out, ← Hqe.out]
        refine ⟨?_, rfl⟩
        rw [List.length_append, Hss.out.2.1, List.flatMap_append]
        exact hown
      have hbse : ∀ k, (Value.slice A' (j + 1) ca).ownBlock = some k → k ∈ bs := fun k hk => by rw [Hb.out.1.2, hk]; simp
      have hK5 : IntsE 0 w5 v1 (goM c (t1, []) (symL (s.data.toList.take (j + 1)))).2 bs2 := (ints_ok _).kept Hb.out.2.1 fun b hb => by
        have hbl := ((ints_ok _).lt Hb.out.2.1 b hb).2
        refine (hg.block b (by rw [World.size_alloc]; omega) fun e => ?_).trans (Below.heap_alloc w1 _ b hbl)
        exact Hb.out.2.2.1 b (hbse b e.symm) hb
      have hD5 : ∀ b ∈ [g1], b ∉ bs2 := fun b hb h => by
        rw [List.mem_singleton.1 hb] at h
        rcases hat with e | e
        · exact Hb.out.2.2.1 g1 (hbse g1 e) h
        · have := ((ints_ok _).lt Hb.out.2.1 g1 h).2
          rw [e] at this
          (try rw [World.size_alloc] at this)
          omega
      have hB5 : Below Wd.heap.size Wd w5 := (Hb.out.2.2.2.1.alloc hzw _).grown hg (by rw [World.size_alloc]; omega) fun k hk => ((ints_ok _).lt Hb.out.1 k (hbse k hk)).1
      clear hown hg hat hbse
      go_wp2
      go_roundw
      case rel => exact ⟨j + 1, by omega, by go_num, by rw [Hqe.out], ⟨[g1], bs2, hown2, hK5, hD5⟩, hB5⟩
      case measure => simp [intOf]; omega
    · have e : j = s.size := by omega
      subst e
      rw [List.take_of_length_le (by rw [Hl.out]; exact Nat.le_refl _)] at hK
      have hend := Lib.hid (show goM c (t1, []) (symL s.data.toList) = endM c s.data.toList from by rw [Ht.out.2]; rfl)
      have hAr := HA.out.trans (hB.mono HA.out.size)
      rw [hend.out] at hK
      go_wp2
      go_ret3
      exact ⟨_, bs, _, bsk, rfl, ⟨row_base hS.1 (Nat.zero_le _), hS.2⟩, hK, hAr⟩
end
theorem both_RunOf (c : Ck) (s : ByteArray) (hs : s.size ≤ 1048576) : ∃ (r0 r1 : List Int) (r2 : Int), r0.length ≤ 100000 ∧ r1.length ≤ 100000 ∧
    (∀ base v bs w, BdC c → CkE base w v c bs → Calls Try.prog 22 #[v, .string s] w (PostRR IntsE IntsE r0 r1 r2 w)) ∧
    (∀ base v bs w, BdC c → CkE base w v c bs → Calls Try.prog 23 #[v, .string s] w (PostVV IntsE IntsE r0 r1 r2 w)) := by
  by_cases h : GivenM c s
  · refine ⟨stsM c (c.start, []) (symL s.data.toList) s.size, (endM c s.data.toList).2, 0, by rw [stsM_len]; have := h.1.1; omega, ?_, fun base v bs w hbd hck => ?_, fun base v bs w hbd hck => ?_⟩
    · have := go_len c (symL s.data.toList) (c.start, [])
      rw [symL_len] at this
      have h2 : s.data.toList.length = s.size := by simp
      have := h.1.1
      unfold endM
      simp only [List.length_nil] at *
      omega
    · obtain ⟨va, vc, vr, vi, rfl⟩ := hck.agg
      exact spec_RunOf_yes s w hbd hck h
    · obtain ⟨va, vc, vr, vi, rfl⟩ := hck.agg
      exact impl_RunOf_yes s w hbd hck h
  · refine ⟨[], [], 1, by simp, by simp, fun base v bs w hbd hck => ?_, fun base v bs w hbd hck => ?_⟩
    · obtain ⟨va, vc, vr, vi, rfl⟩ := hck.agg
      exact spec_RunOf_no s w hs hbd hck h
    · obtain ⟨va, vc, vr, vi, rfl⟩ := hck.agg
      exact impl_RunOf_no s w hs hbd hck h
end Go.Proofs.Ythdjoligopmepaa
