/- l02Given, l02Go, Takes of the model. -/
import Derived.Test.YtcboalnpbmnfcaaGoS
import Derived.Test.YtcboalnpbmnfcaaTakesI
namespace Go.Proofs.Ytcboalnpbmnfcaa
open Go.RowKit
set_option linter.unusedVariables false

section
variable {base : Nat} {va vc vr vi : Value} {c : Ck} {bsC : List Nat}
theorem spec_given_yes (C : Nat) (s : ByteArray) (w : World) (hbd : BdC c) (hck : CkE base w (.agg #[.int .i64 c.stack, .int .i64 c.start, va, vc, vr, vi]) c bsC) (hbx : Box6 w C (.int .i64 c.stack) (.int .i64 c.start) va vc vr vi) (h : GivenM c s) :
    Calls Try.prog 43 #[.pointer (some ⟨C, 0, none⟩), .string s] w fun e w' => e = .returned (.int .i64 0) ∧ ∃ m, w' = w.drewN m := by
  have h1 := spec_okC C w hbd hck hbx
  rw [h.2] at h1
  have H1 := Lib.hid h1
  have Hw := Lib.hid h.1
  clear h1 hck hbx hbd h
  go_enter Try.func43, Try.ntmps43
  go_wp2_with fail
  refine H1.out.mono ?_
  rintro e w1 ⟨rfl, m, rfl⟩
  go_wp2_with fail
  refine (spec_ok_yes _ _ Hw.out).mono ?_
  rintro e w2 ⟨rfl, rfl⟩
  go_wp2
  go_ret
  exact ⟨rfl, m, rfl⟩
theorem spec_given_no (C : Nat) (s : ByteArray) (w : World) (hs : s.size ≤ 1048576) (hbd : BdC c) (hck : CkE base w (.agg #[.int .i64 c.stack, .int .i64 c.start, va, vc, vr, vi]) c bsC) (hbx : Box6 w C (.int .i64 c.stack) (.int .i64 c.start) va vc vr vi) (h : ¬ GivenM c s) :
    Calls Try.prog 43 #[.pointer (some ⟨C, 0, none⟩), .string s] w fun e w' => e = .returned (.int .i64 1) ∧ ∃ m, w' = w.drewN m := by
  have h1 := spec_okC C w hbd hck hbx
  cases hok : okM c with
  | true =>
    have Hw := Lib.hid (show ¬ IsW s from fun hw => h ⟨hw, hok⟩)
    rw [hok] at h1
    have H1 := Lib.hid h1
    clear h1 hck hbx hbd h hok
    go_enter Try.func43, Try.ntmps43
    go_wp2_with fail
    refine H1.out.mono ?_
    rintro e w1 ⟨rfl, m, rfl⟩
    go_wp2_with fail
    refine (spec_ok_no _ _ hs Hw.out).mono ?_
    rintro e w2 ⟨rfl, rfl⟩
    go_wp2
    go_ret
    exact ⟨rfl, m, rfl⟩
  | false =>
    rw [hok] at h1
    have H1 := Lib.hid h1
    clear h1 hck hbx hbd h hok
    go_enter Try.func43, Try.ntmps43
    go_wp2_with fail
    refine H1.out.mono ?_
    rintro e w1 ⟨rfl, m, rfl⟩
    go_wp2
    go_ret
    exact ⟨rfl, m, rfl⟩

set_option maxHeartbeats 1600000 in
set_option maxRecDepth 100000 in
theorem spec_go {base' C : Nat} {p : Int × List Int} {s : ByteArray} {vs : Value} {bs : List Nat} (W : World) (hck : CkE base W (.agg #[.int .i64 c.stack, .int .i64 c.start, va, vc, vr, vi]) c bsC) (hbx : Box6 W C (.int .i64 c.stack) (.int .i64 c.start) va vc vr vi) (hc : OkC c)
    (hp : StM c p) (hl : p.2.length ≤ 100) (hw : IsW s) (hE : IntsE base' W vs p.2 bs) :
    Calls Try.prog 113 #[.pointer (some ⟨C, 0, none⟩), .int .i64 p.1, vs, .string s] W (StepPost W (goM c p (symL s.data.toList)) bs) := by
  have h60 := hw.1
  have Hck := Lib.hid hck
  have Hbx := Lib.hid hbx
  have Hc := Lib.hid hc
  have Hp := Lib.hid hp
  have Hw := Lib.hid hw.2
  have HE := Lib.hid hE
  have H0 := Lib.hid (show goM c p (symL (s.data.toList.take 0)) = p from by simp [symL, goM])
  clear hck hbx hc hp hw hE
  go_enter Try.func113, Try.ntmps113
  go_wp2
  go_loopw [1, 2, 10] (fun st sk i wr => ∃ j : Nat, j ≤ s.size ∧ i = .int .i64 j ∧ st = .int .i64 (goM c p (symL (s.data.toList.take j))).1 ∧ (∃ bs', IntsE 0 wr sk (goM c p (symL (s.data.toList.take j))).2 bs' ∧ ∀ b ∈ bs', b ∈ bs ∨ W.heap.size ≤ b) ∧ Below W.heap.size W wr) (fun _ _ i _ => s.size - (intOf i).toNat)
  case atStart => exact ⟨0, Nat.zero_le _, rfl, by rw [H0.out], ⟨bs, by rw [H0.out]; exact HE.out.zero, fun b hb => .inl hb⟩, Below.refl _ _⟩
  case round =>
    obtain ⟨j, hj, rfl, rfl, ⟨bs1, hS, hF⟩, hB⟩ := hrel
    by_cases hlt : j < s.size
    · have hts : s.data.toList.take (j + 1) = s.data.toList.take j ++ [s[j]] := by
        rw [List.take_succ_eq_append_getElem (by simpa using hlt)]; rfl
      have hmem : s[j] ∈ s.data.toList := by
        have : s.data.toList[j]'(by simpa using hlt) = s[j] := rfl
        rw [← this]
        exact List.getElem_mem _
      have hb0 := Hw.out _ hmem
      have hst := Hp.out.go Hc.out (symL (s.data.toList.take j)) (symL_ok fun b hb => Hw.out b (List.mem_of_mem_take hb))
      have hlen := go_len c (symL (s.data.toList.take j)) p
      rw [symL_len] at hlen
      have hlen2 : (goM c p (symL (s.data.toList.take j))).2.length ≤ 200 := by
        have := List.length_take_le j s.data.toList
        omega
      have hq := spec_step (b := s[j]) wr ((ck_ok _).later Hck.out hB) (Hbx.out.later hB) Hc.out hst hlen2 hb0 hS
      rw [← goM_snoc, ← symL_snoc, ← hts] at hq
      have Hq := Lib.hid hq
      have HB := Lib.hid hB
      clear hts hmem hb0 hst hlen hlen2 hq hS hB
      go_wp2_with fail
      refine Hq.out.mono ?_
      rintro e w1 ⟨v1, bs2, rfl, hS2, hb1, hF2⟩
      have hB2 := HB.out.trans (hb1.mono HB.out.size)
      have hF3 : ∀ b ∈ bs2, b ∈ bs ∨ W.heap.size ≤ b := fun b hb => by
        rcases hF2 b hb with h | h
        · exact hF b h
        · exact .inr (Nat.le_trans HB.out.size h)
      go_wp2
      go_roundw
      case rel => exact ⟨j + 1, by omega, by go_num, rfl, ⟨bs2, hS2, hF3⟩, hB2⟩
      case measure => simp [intOf]; omega
    · have e : j = s.size := by omega
      subst e
      rw [List.take_of_length_le (by simp)] at hS
      have Hf := Lib.hid (show s.data.toList.take s.size = s.data.toList from List.take_of_length_le (by simp))
      go_wp2
      go_ret2
      exact ⟨_, bs1, by rw [Hf.out]; rfl, hS, hB, hF⟩

set_option maxHeartbeats 1600000 in
set_option maxRecDepth 100000 in
theorem spec_takes {C : Nat} {s : ByteArray} (W : World) (hck : CkE base W (.agg #[.int .i64 c.stack, .int .i64 c.start, va, vc, vr, vi]) c bsC) (hbx : Box6 W C (.int .i64 c.stack) (.int .i64 c.start) va vc vr vi) (hc : OkC c) (hw : IsW s) :
    Calls Try.prog 44 #[.pointer (some ⟨C, 0, none⟩), .string s] W (TupPost (.bool (takesM c s.data.toList)) W) := by
  have hst := endM_st hc hw.2
  obtain ⟨ga, na, ka, rfl, hsa, hna, hga, hac⟩ := acc_cell hck hc hst.state
  have hN := (ints_new W).2
  have hB0 := (Below.refl W.heap.size W).alloc (Nat.le_refl _) (.cells #[] 2)
  have hgo := spec_go (p := (c.start, [])) (s := s) (vs := .slice (some ⟨W.heap.size, 0, none⟩) 0 0) (bs := [W.heap.size]) (base' := W.heap.size) (W.alloc (.cells #[] 2)) ((ck_ok _).later hck hB0) (hbx.later hB0) hc (StM.start hc) (by simp) hw ⟨hN, rfl⟩
  have hres : takesM c s.data.toList = (c.accept[(endM c s.data.toList).1.toNat]?).getD false := rfl
  obtain ⟨r, hr⟩ : ∃ r, r = takesM c s.data.toList := ⟨_, rfl⟩
  rw [← hres, ← hr] at hac
  rw [← hr]
  have hst1 := hst.state
  change Calls Try.prog _ _ _ (StepPost _ (endM c s.data.toList) _) at hgo
  generalize endM c s.data.toList = q at hgo hac hsa hst1
  obtain ⟨q1, q2⟩ := q
  dsimp only at hac hsa hst1
  obtain ⟨m, rfl⟩ : ∃ m : Nat, q1 = (m : Int) := ⟨q1.toNat, by omega⟩
  rw [Int.toNat_natCast] at hac hsa
  have Hgo := Lib.hid hgo
  have HB0 := Lib.hid hB0
  have e1 := hbx.c1
  have Hbx := Lib.hid hbx
  clear hgo hB0 hck hc hst hw hres hr hst1 hN hbx
  obtain ⟨t1, ht1⟩ : ∃ t, t = c.start := ⟨_, rfl⟩
  rw [← ht1] at Hgo e1
  clear ht1
  go_enter Try.func44, Try.ntmps44
  go_wp2_with fail
  refine Hgo.out.mono ?_
  rintro e w1 ⟨v1, bs1, rfl, _, hb1, _⟩
  have hA := HB0.out.trans (hb1.mono HB0.out.size)
  have e2 := (Hbx.out.later hA).c2
  have ac : w1.cell? ⟨ga, m, none⟩ = some (.bool r) := (hA.cell (p := ⟨ga, m, none⟩) hga).trans hac
  go_wp2
  go_ret
  exact ⟨rfl, hA⟩

set_option maxHeartbeats 1600000 in
set_option maxRecDepth 100000 in
theorem spec_Takes_yes (s : ByteArray) (w : World) (hbd : BdC c) (hck : CkE base w (.agg #[.int .i64 c.stack, .int .i64 c.start, va, vc, vr, vi]) c bsC) (h : GivenM c s) :
    Calls Try.prog 11 #[.agg #[.int .i64 c.stack, .int .i64 c.start, va, vc, vr, vi], .string s] w (TupPost (.tuple #[.bool (takesM c s.data.toList), .int .i64 0]) w) := by
  have hB0 := (Below.refl w.heap.size w).alloc (Nat.le_refl _) (.cells #[.int .i64 c.stack, .int .i64 c.start, va, vc, vr, vi] 33)
  have hbx := Box6.new w (.int .i64 c.stack) (.int .i64 c.start) va vc vr vi 33
  have hck1 := (ck_ok _).later hck hB0
  have H1 := Lib.hid (spec_given_yes _ s _ hbd hck1 hbx h)
  have H2 := Lib.hid fun m => spec_takes (s := s) ((w.alloc (.cells #[.int .i64 c.stack, .int .i64 c.start, va, vc, vr, vi] 33)).drewN m) ((ck_ok _).drewN hck1 m) (hbx.same rfl) (okC_of h.2) h.1
  have HB0 := Lib.hid hB0
  clear hck hbd h hB0 hbx hck1
  go_enter Try.func11, Try.ntmps11
  go_wp2_with fail
  refine H1.out.mono ?_
  rintro e w1 ⟨rfl, m, rfl⟩
  go_wp2_with fail
  refine (H2.out m).mono ?_
  rintro e w2 ⟨rfl, hb2⟩
  have hA := below_drewN HB0.out m
  go_wp2
  go_ret2
  exact ⟨rfl, hA.trans (hb2.mono hA.size)⟩
set_option maxHeartbeats 1600000 in
set_option maxRecDepth 100000 in
theorem spec_Takes_no (s : ByteArray) (w : World) (hs : s.size ≤ 1048576) (hbd : BdC c) (hck : CkE base w (.agg #[.int .i64 c.stack, .int .i64 c.start, va, vc, vr, vi]) c bsC) (h : ¬ GivenM c s) :
    Calls Try.prog 11 #[.agg #[.int .i64 c.stack, .int .i64 c.start, va, vc, vr, vi], .string s] w (TupPost (.tuple #[.bool false, .int .i64 1]) w) := by
  have hB0 := (Below.refl w.heap.size w).alloc (Nat.le_refl _) (.cells #[.int .i64 c.stack, .int .i64 c.start, va, vc, vr, vi] 33)
  have hbx := Box6.new w (.int .i64 c.stack) (.int .i64 c.start) va vc vr vi 33
  have hck1 := (ck_ok _).later hck hB0
  have H1 := Lib.hid (spec_given_no _ s _ hs hbd hck1 hbx h)
  have HB0 := Lib.hid hB0
  clear hck hbd h hB0 hbx hck1
  go_enter Try.func11, Try.ntmps11
  go_wp2_with fail
  refine H1.out.mono ?_
  rintro e w1 ⟨rfl, m, rfl⟩
  go_wp2
  go_ret2
  exact ⟨rfl, below_drewN HB0.out m⟩
end
end Go.Proofs.Ytcboalnpbmnfcaa
