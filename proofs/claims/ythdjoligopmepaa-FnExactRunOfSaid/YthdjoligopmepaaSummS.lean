/- SummaryOf of the model; both sides. -/
import Derived.Test.YthdjoligopmepaaSumm
namespace Go.Proofs.Ythdjoligopmepaa
open Go.RowKit
set_option linter.unusedVariables false

section
variable {base : Nat} {va vc vr vi : Value} {c : Ck} {bsC : List Nat}
set_option maxHeartbeats 3200000 in
set_option maxRecDepth 100000 in
theorem spec_summ {C : Nat} {s : ByteArray} (W : World) (hck : CkE base W (.agg #[.int .i64 c.stack, .int .i64 c.start, va, vc, vr, vi]) c bsC) (hbx : Box6 W C (.int .i64 c.stack) (.int .i64 c.start) va vc vr vi) (hc : OkC c) (hw : IsW s) :
    Calls Try.prog 71 #[.pointer (some ⟨C, 0, none⟩), .string s] W fun e w' => ∃ v bs, e = .returned v ∧ IntsE W.heap.size w' v (summM c s.data.toList c.accept.length) bs ∧ Below W.heap.size W w' := by
  obtain ⟨i0, hi, hz0, hz1, hz2⟩ := info_parts toInfo_i64
  have h40 := hc.n2
  obtain ⟨_, _, _, _, b1, b2, b3, b4, hv, g1, g2, g3, g4, _, _⟩ := id hck
  simp only [Value.agg.injEq, Array.mk.injEq, List.cons.injEq, and_true, true_and] at hv
  obtain ⟨rfl, rfl, rfl, rfl⟩ := hv
  obtain ⟨A, ka, rfl⟩ := RowE.slice g1
  obtain ⟨n, hn⟩ : ∃ n, n = c.accept.length := ⟨_, rfl⟩
  have hgo := fun (W' : World) (hW : Below W.heap.size W W') (j : Nat) (hj : j < n) (base' : Nat) (vs : Value) (bs : List Nat) hE => spec_go (C := C) (p := ((j : Int), [])) (s := s) (vs := vs) (bs := bs) (base' := base') W' ((ck_ok _).later hck hW) (hbx.later hW) hc ⟨⟨by omega, by rw [← hn]; omega⟩, fun x hx => by cases hx⟩ (by simp) hw hE
  rw [← hn] at hbx ⊢
  rw [← hn] at h40
  have Hgo := Lib.hid hgo
  have Hbx := Lib.hid hbx
  have Hs := Lib.hid (And.intro (summM_succ c s.data.toList) (summM_len c s.data.toList))
  have hB0 := (Below.refl W.heap.size W).alloc (Nat.le_refl _) (.cells #[] 2)
  have hst : IntsE W.heap.size (W.alloc (.cells #[] 2)) (.slice (some ⟨W.heap.size, 0, none⟩) 0 0) (summM c s.data.toList 0) [W.heap.size] := ⟨(ints_new W).2, rfl⟩
  have Hst := Lib.hid (And.intro hst hB0)
  clear hgo hck hbx hc hw g1 g2 g3 g4 hn hst hB0
  go_enter Try.func71, Try.ntmps71
  go_wp2
  go_loopw [5, 6] (fun sm i wr => ∃ j : Nat, j ≤ n ∧ i = .int .i64 j ∧ (∃ bs, IntsE W.heap.size wr sm (summM c s.data.toList j) bs) ∧ Below W.heap.size W wr) (fun _ i _ => n - (intOf i).toNat)
  case atStart => exact ⟨0, Nat.zero_le _, rfl, ⟨_, Hst.out.1⟩, Hst.out.2⟩
  case round =>
    obtain ⟨j, hj, rfl, ⟨bs, hS⟩, hB⟩ := hrel
    obtain ⟨A', ca, rfl⟩ := RowE.slice hS
    have e2 := (Hbx.out.later hB).c2
    have hz := hB.size
    by_cases hlt : j < n
    · rw [Hs.out.2 j] at hS ⊢
      have hBa := hB.alloc hz (.cells #[] 2)
      have Hq := Lib.hid (Hgo.out _ hBa j hlt _ (.slice (some ⟨wr.heap.size, 0, none⟩) 0 0) [wr.heap.size] ⟨(ints_new wr).2, rfl⟩)
      have hS3 := (ints_ok _).later hS ((Below.refl _ wr).alloc (Nat.le_refl _) (.cells #[] 2))
      have Hp := Lib.hid (And.intro hBa hS3)
      clear hBa hS3 hS hB
      go_wp2_with fail
      refine Hq.out.mono ?_
      rintro e w4 ⟨v4, bs4, rfl, hE4, hb4, _⟩
      obtain ⟨q, hq⟩ : ∃ q, q = (goM c ((j : Int), []) (symL s.data.toList)).1 := ⟨_, rfl⟩
      rw [← hq]
      have Hqq := Lib.hid hq
      have hS4 := (ints_ok _).later Hp.out.2 hb4
      have hB5 := Hp.out.1.trans (hb4.mono Hp.out.1.size)
      have hrow : w4.ownsRow W.heap.size 2 1 (.slice A' j ca) j ((summM c s.data.toList j).flatMap fun x => [Value.int .i64 x]) := by
        have := hS4.1
        rwa [Hs.out.2] at this
      have Hb := Lib.hid (And.intro hS4 (And.intro hB5 hrow))
      have h35 := hB5.size
      clear hq hE4 hb4 hrow hS4 hB5 e2 Hq Hp
      go_wp2_with (at_builtin; refine wpList_append_lies _ rfl _ _ 43 rfl W.heap.size 2 i0 (.int .i64 0) 1 8 Try.underlying43 hi hz0 hz1 hz2 rfl (by decide) _ j _ rfl (Hb.out.2.2.alloc _) ⟨w4.heap.size, 0, none⟩ 1 1 [.int .i64 q] rfl rfl (World.news_of_block (Bx.new w4 _ _)) (one_int q) (by decide) ?c1 ?c2 ?c3 _ rfl ?_)
      case c1 => unfold maxLen; omega
      case c2 => omega
      case c3 => simp; omega
      intro g1 cap w5 hown hg hat hltg
      have hB6 : Below W.heap.size W w5 := (Hb.out.2.1.alloc Hb.out.2.1.size _).grown hg (by simp; omega) (fun k hk => ((ints_ok _).lt Hb.out.1 k (by rw [Hb.out.1.2, hk]; simp)).1)
      have hS6 : IntsE W.heap.size w5 (.slice (some ⟨g1, 0, none⟩) (j + 1) cap) (summM c s.data.toList (j + 1)) [g1] := by
        rw [Hs.out.1, ← Hqq.out]
        refine ⟨?_, rfl⟩
        rw [List.length_append, Hs.out.2, List.flatMap_append]
        exact hown
      clear hown hg hat
      go_wp2
      go_roundw
      case rel => exact ⟨j + 1, by omega, by go_num, ⟨[g1], hS6⟩, hB6⟩
      case measure => simp [intOf]; omega
    · have e : j = n := by omega
      subst e
      go_wp2
      go_ret
      exact ⟨_, bs, rfl, hS, hB⟩

set_option maxHeartbeats 1600000 in
set_option maxRecDepth 100000 in
theorem spec_Summ_no (s : ByteArray) (w : World) (hs : s.size ≤ 1048576) (hbd : BdC c) (hck : CkE base w (.agg #[.int .i64 c.stack, .int .i64 c.start, va, vc, vr, vi]) c bsC) (h : ¬ GivenM c s) :
    Calls Try.prog 27 #[.agg #[.int .i64 c.stack, .int .i64 c.start, va, vc, vr, vi], .string s] w (PostR IntsE [] 1 w) := by
  have hB0 := (Below.refl w.heap.size w).alloc (Nat.le_refl _) (.cells #[.int .i64 c.stack, .int .i64 c.start, va, vc, vr, vi] 32)
  have hbx := Box6.new w (.int .i64 c.stack) (.int .i64 c.start) va vc vr vi 32
  have hck1 := (ck_ok _).later hck hB0
  have H1 := Lib.hid (spec_given_no _ s _ hs hbd hck1 hbx h)
  have HB0 := Lib.hid hB0
  clear hck hbd h hB0 hbx hck1
  go_enter Try.func27, Try.ntmps27
  go_wp2_with fail
  refine H1.out.mono ?_
  rintro e w1 ⟨rfl, m, rfl⟩
  have hA := below_drewN HB0.out m
  have hN := (ints_new ((w.alloc (.cells #[.int .i64 c.stack, .int .i64 c.start, va, vc, vr, vi] 32)).drewN m)).2
  rw [show ((w.alloc (.cells #[.int .i64 c.stack, .int .i64 c.start, va, vc, vr, vi] 32)).drewN m).heap.size = w.heap.size + 1 from World.size_alloc _ _] at hN
  have HN := Lib.hid hN
  clear hN
  go_wp2
  go_ret2
  exact ⟨.slice (some ⟨w.heap.size + 1, 0, none⟩) 0 0, [w.heap.size + 1], rfl, ⟨row_base HN.out (Nat.zero_le _), rfl⟩, hA.alloc hA.size _⟩
set_option maxHeartbeats 1600000 in
set_option maxRecDepth 100000 in
theorem spec_Summ_un (s : ByteArray) (w : World) (hbd : BdC c) (hck : CkE base w (.agg #[.int .i64 c.stack, .int .i64 c.start, va, vc, vr, vi]) c bsC) (h : GivenM c s) (hm : matB s.data.toList = false) :
    Calls Try.prog 27 #[.agg #[.int .i64 c.stack, .int .i64 c.start, va, vc, vr, vi], .string s] w (PostR IntsE [] 4 w) := by
  have hB0 := (Below.refl w.heap.size w).alloc (Nat.le_refl _) (.cells #[.int .i64 c.stack, .int .i64 c.start, va, vc, vr, vi] 32)
  have hbx := Box6.new w (.int .i64 c.stack) (.int .i64 c.start) va vc vr vi 32
  have hck1 := (ck_ok _).later hck hB0
  have H1 := Lib.hid (spec_given_yes _ s _ hbd hck1 hbx h)
  have hmat := fun W => spec_mat s W h.1
  rw [hm] at hmat
  have H2 := Lib.hid hmat
  have HB0 := Lib.hid hB0
  clear hck hbd h hB0 hbx hck1 hmat hm
  go_enter Try.func27, Try.ntmps27
  go_wp2_with fail
  refine H1.out.mono ?_
  rintro e w1 ⟨rfl, m, rfl⟩
  go_wp2_with fail
  refine (H2.out _).mono ?_
  rintro e w2 ⟨rfl, hb2⟩
  have hA := below_drewN HB0.out m
  have hA2 := hA.trans (hb2.mono hA.size)
  have HN := Lib.hid fun W => (ints_new W).2
  go_wp2
  go_ret2
  exact ⟨.slice (some ⟨w2.heap.size, 0, none⟩) 0 0, [w2.heap.size], rfl, ⟨row_base (HN.out _) (Nat.zero_le _), rfl⟩, hA2.alloc hA2.size _⟩
set_option maxHeartbeats 1600000 in
set_option maxRecDepth 100000 in
theorem spec_Summ_yes (s : ByteArray) (w : World) (hbd : BdC c) (hck : CkE base w (.agg #[.int .i64 c.stack, .int .i64 c.start, va, vc, vr, vi]) c bsC) (h : GivenM c s) (hm : matB s.data.toList = true) :
    Calls Try.prog 27 #[.agg #[.int .i64 c.stack, .int .i64 c.start, va, vc, vr, vi], .string s] w (PostR IntsE (summM c s.data.toList c.accept.length) 0 w) := by
  have hB0 := (Below.refl w.heap.size w).alloc (Nat.le_refl _) (.cells #[.int .i64 c.stack, .int .i64 c.start, va, vc, vr, vi] 32)
  have hbx := Box6.new w (.int .i64 c.stack) (.int .i64 c.start) va vc vr vi 32
  have hck1 := (ck_ok _).later hck hB0
  have H1 := Lib.hid (spec_given_yes _ s _ hbd hck1 hbx h)
  have hmat := fun W => spec_mat s W h.1
  rw [hm] at hmat
  have H2 := Lib.hid hmat
  have H3 := Lib.hid fun (W : World) (hW : Below w.heap.size w W) (C : Nat) hb => spec_summ (C := C) (s := s) W ((ck_ok _).later hck hW) hb (okC_of h.2) h.1
  have Hbx := Lib.hid hbx
  have HB0 := Lib.hid hB0
  clear hck hbd h hB0 hbx hck1 hmat hm
  go_enter Try.func27, Try.ntmps27
  go_wp2_with fail
  refine H1.out.mono ?_
  rintro e w1 ⟨rfl, m, rfl⟩
  go_wp2_with fail
  refine (H2.out _).mono ?_
  rintro e w2 ⟨rfl, hb2⟩
  have hA := below_drewN HB0.out m
  have hA2 := hA.trans (hb2.mono hA.size)
  have hbm := Hbx.out.same (W' := (w.alloc (.cells #[.int .i64 c.stack, .int .i64 c.start, va, vc, vr, vi] 32)).drewN m) rfl
  have Hb2 := Lib.hid (hbm.later hb2)
  clear hbm
  go_wp2_with fail
  refine (H3.out _ hA2 _ Hb2.out).mono ?_
  rintro e w3 ⟨v, bs, rfl, hE, hb3⟩
  have hA3 := hA2.trans (hb3.mono hA2.size)
  go_wp2
  go_ret2
  exact ⟨_, bs, rfl, ⟨row_base hE.1 (Nat.zero_le _), hE.2⟩, hA3⟩
end
theorem both_SummaryOf (c : Ck) (s : ByteArray) (hs : s.size ≤ 1048576) : ∃ (r0 : List Int) (r1 : Int), r0.length ≤ 100000 ∧
    (∀ base v bs w, BdC c → CkE base w v c bs → Calls Try.prog 27 #[v, .string s] w (PostR IntsE r0 r1 w)) ∧
    (∀ base v bs w, BdC c → CkE base w v c bs → Calls Try.prog 28 #[v, .string s] w (PostV IntsE r0 r1 w)) := by
  by_cases h : GivenM c s
  · cases hm : matB s.data.toList with
    | true =>
      refine ⟨summM c s.data.toList c.accept.length, 0, by rw [summM_len]; have := (okC_of h.2).n2; omega, fun base v bs w hbd hck => ?_, fun base v bs w hbd hck => ?_⟩
      · obtain ⟨va, vc, vr, vi, rfl⟩ := hck.agg
        exact spec_Summ_yes s w hbd hck h hm
      · obtain ⟨va, vc, vr, vi, rfl⟩ := hck.agg
        exact impl_Summ_yes s w hbd hck h hm
    | false =>
      refine ⟨[], 4, by simp, fun base v bs w hbd hck => ?_, fun base v bs w hbd hck => ?_⟩
      · obtain ⟨va, vc, vr, vi, rfl⟩ := hck.agg
        exact spec_Summ_un s w hbd hck h hm
      · obtain ⟨va, vc, vr, vi, rfl⟩ := hck.agg
        exact impl_Summ_un s w hbd hck h hm
  · refine ⟨[], 1, by simp, fun base v bs w hbd hck => ?_, fun base v bs w hbd hck => ?_⟩
    · obtain ⟨va, vc, vr, vi, rfl⟩ := hck.agg
      exact spec_Summ_no s w hs hbd hck h
    · obtain ⟨va, vc, vr, vi, rfl⟩ := hck.agg
      exact impl_Summ_no s w hs hbd hck h
end Go.Proofs.Ythdjoligopmepaa
