/- SummaryOf, of the model and of the program. -/
import Derived.Test.YthdjoligopmepaaTakes
import Derived.Test.YthdjoligopmepaaPosts
import Derived.Test.YthdjoligopmepaaPending
namespace Go.Proofs.Ythdjoligopmepaa
open Go.RowKit
set_option linter.unusedVariables false

/-- Whether a word is matched. -/
def matB (l : List UInt8) : Bool := decide (cR l (prts (ksOf l)) l.length + cC l (prts (ksOf l)) l.length = 0)
theorem matB_size (s : ByteArray) : matB s.data.toList = decide (cR s.data.toList (prts (ksOf s.data.toList)) s.size + cC s.data.toList (prts (ksOf s.data.toList)) s.size = 0) := by
  have hl : s.data.toList.length = s.size := by simp
  rw [matB, hl]
theorem spec_mat (s : ByteArray) (w : World) (hw : IsW s) : Calls Try.prog 70 #[.string s] w (TupPost (.bool (matB s.data.toList)) w) := by
  rw [matB_size]; exact spec_matched s w hw
theorem impl_mat {s : ByteArray} {w2 : World} {b b' g M : Nat} (h : IsW s) (hsy : w2.ownsRow b 122 1 (.slice (some ⟨g, 0, none⟩) s.size s.size) s.size (symsV (symL s.data.toList)))
    (hps : w2.ownsRow b' 2 1 (.slice (some ⟨M, 0, none⟩) s.size s.size) s.size (numsV (prts (ksOf s.data.toList)))) :
    Calls Try.prog 72 #[.agg #[.slice (some ⟨g, 0, none⟩) s.size s.size, .slice (some ⟨M, 0, none⟩) s.size s.size]] w2 (TupPost (.bool (matB s.data.toList)) w2) := by
  have hl : s.data.toList.length = s.size := by simp
  rw [matB_size, ← pend_empty s.data.toList h.2 s.size (by rw [hl]; exact Nat.le_refl _)]
  exact impl_isMatched _ _ _ _ _ _ _ w2 h.1 (by rw [symL_len, hl]) (by rw [prts_len, ksOf_len, hl]) (hsy.lt _ rfl).2 (hps.lt _ rfl).2 (symL_ok h.2) (syms_cell hsy) (nums_cell hps)

/-- Where a word leads from each state. -/
def summM (c : Ck) (l : List UInt8) (n : Nat) : List Int := (List.range n).map fun j : Nat => (goM c ((j : Int), []) (symL l)).1
theorem summM_succ (c : Ck) (l : List UInt8) (n : Nat) : summM c l (n + 1) = summM c l n ++ [(goM c ((n : Int), []) (symL l)).1] := by simp [summM, List.range_succ]
theorem summM_len (c : Ck) (l : List UInt8) (n : Nat) : (summM c l n).length = n := by simp [summM]
theorem one_int (y : Int) : ∀ u ∈ [Value.int .i64 y], u.oneCell' = true := by intro u hu; rw [List.mem_singleton.1 hu]; rfl
/-- A number behind the others: what append leaves. -/
theorem ints_snoc {base g cap : Nat} {w w1 : World} {v : Value} {xs : List Int} {bs : List Nat} {y : Int} {o : Obj} (h : IntsE base w v xs bs)
    (hown : w1.ownsRow base 2 1 (.slice (some ⟨g, 0, none⟩) (xs.length + 1) cap) (xs.length + 1) ((xs.flatMap fun x => [Value.int .i64 x]) ++ [.int .i64 y])) : IntsE base w1 (.slice (some ⟨g, 0, none⟩) (xs.length + 1) cap) (xs ++ [y]) [g] := ⟨by simpa using hown, rfl⟩

section
variable {base : Nat} {va vc vr vi : Value} {c : Ck} {bsC : List Nat}
set_option maxHeartbeats 1600000 in
set_option maxRecDepth 100000 in
theorem impl_Summ_no (s : ByteArray) (w : World) (hs : s.size ≤ 1048576) (hbd : BdC c) (hck : CkE base w (.agg #[.int .i64 c.stack, .int .i64 c.start, va, vc, vr, vi]) c bsC) (h : ¬ GivenM c s) :
    Calls Try.prog 28 #[.agg #[.int .i64 c.stack, .int .i64 c.start, va, vc, vr, vi], .string s] w (PostV IntsE [] 1 w) := by
  have hB0 := (Below.refl w.heap.size w).alloc (Nat.le_refl _) (.cells #[.int .i64 c.stack, .int .i64 c.start, va, vc, vr, vi] 32)
  have H := Lib.hid (impl_for_no s _ hs hbd ((ck_ok _).later hck hB0) h)
  have HB0 := Lib.hid hB0
  clear hck hbd h hB0
  go_enter Try.func28, Try.ntmps28
  go_wp2_with fail
  refine H.out.mono ?_
  rintro e w1 ⟨rfl, hb1⟩
  have hA := HB0.out.trans (hb1.mono HB0.out.size)
  go_wp2
  go_ret2
  exact ⟨_, [], rfl, ⟨by simpa using World.ownsRow_nil _ _ _ _, rfl⟩, hA.alloc hA.size _⟩

set_option maxHeartbeats 3200000 in
set_option maxRecDepth 100000 in
theorem impl_Summ_un (s : ByteArray) (w : World) (hbd : BdC c) (hck : CkE base w (.agg #[.int .i64 c.stack, .int .i64 c.start, va, vc, vr, vi]) c bsC) (h : GivenM c s) (hm : matB s.data.toList = false) :
    Calls Try.prog 28 #[.agg #[.int .i64 c.stack, .int .i64 c.start, va, vc, vr, vi], .string s] w (PostV IntsE [] 4 w) := by
  have hw := h.1
  have hB0 := (Below.refl w.heap.size w).alloc (Nat.le_refl _) (.cells #[.int .i64 c.stack, .int .i64 c.start, va, vc, vr, vi] 32)
  have Hfor := Lib.hid (impl_for_yes s _ hbd ((ck_ok _).later hck hB0) h)
  have hmat := fun (w2 : World) (b b' g M : Nat) hsy hps => impl_mat (w2 := w2) (b := b) (b' := b') (g := g) (M := M) hw hsy hps
  rw [hm] at hmat
  have Hmat := Lib.hid hmat
  have HB0 := Lib.hid hB0
  clear hck hbd h hB0 hmat hm hw
  go_enter Try.func28, Try.ntmps28
  go_wp2_with fail
  refine Hfor.out.mono ?_
  rintro e w1 ⟨g, M, rfl, hsy, hps, hb1⟩
  have hA := HB0.out.trans (hb1.mono HB0.out.size)
  have hn1 := fun o => (Below.refl w1.heap.size w1).alloc (Nat.le_refl _) o
  have Hr := Lib.hid fun o => And.intro (row_below hsy (hn1 o)) (And.intro (row_below hps (hn1 o)) (hA.alloc hA.size o))
  clear hsy hps hn1
  go_wp2_with fail
  refine (Hmat.out _ _ _ g M (Hr.out _).1 (Hr.out _).2.1).mono ?_
  rintro e w2 ⟨rfl, hb2⟩
  have hA2 := (Hr.out _).2.2.trans (hb2.mono (Hr.out _).2.2.size)
  go_wp2
  go_ret2
  exact ⟨_, [], rfl, ⟨by simpa using World.ownsRow_nil _ _ _ _, rfl⟩, hA2⟩

set_option maxHeartbeats 6400000 in
set_option maxRecDepth 100000 in
theorem impl_Summ_yes (s : ByteArray) (w : World) (hbd : BdC c) (hck : CkE base w (.agg #[.int .i64 c.stack, .int .i64 c.start, va, vc, vr, vi]) c bsC) (h : GivenM c s) (hm : matB s.data.toList = true) :
    Calls Try.prog 28 #[.agg #[.int .i64 c.stack, .int .i64 c.start, va, vc, vr, vi], .string s] w (PostV IntsE (summM c s.data.toList c.accept.length) 0 w) := by
  obtain ⟨i0, hi, hz0, hz1, hz2⟩ := info_parts toInfo_i64
  have hc := okC_of h.2
  have hw := h.1
  have h60 := h.1.1
  have h40 := hc.n2
  have hB0 := (Below.refl w.heap.size w).alloc (Nat.le_refl _) (.cells #[.int .i64 c.stack, .int .i64 c.start, va, vc, vr, vi] 32)
  have hbx := Box6.new w (.int .i64 c.stack) (.int .i64 c.start) va vc vr vi 32
  have hfor := impl_for_yes s _ hbd ((ck_ok _).later hck hB0) h
  have hmat := fun (w2 : World) (b b' g M : Nat) hsy hps => impl_mat (w2 := w2) (b := b) (b' := b') (g := g) (M := M) hw hsy hps
  rw [hm] at hmat
  obtain ⟨_, _, _, _, b1, b2, b3, b4, hv, g1, g2, g3, g4, _, _⟩ := id hck
  simp only [Value.agg.injEq, Array.mk.injEq, List.cons.injEq, and_true, true_and] at hv
  obtain ⟨rfl, rfl, rfl, rfl⟩ := hv
  obtain ⟨A, ka, rfl⟩ := RowE.slice g1
  obtain ⟨B, kb, rfl⟩ := ManyE.slice g2
  obtain ⟨R, kr, rfl⟩ := ManyE.slice g3
  obtain ⟨I, ki, rfl⟩ := ManyE.slice g4
  obtain ⟨n, hn⟩ : ∃ n, n = c.accept.length := ⟨_, rfl⟩
  have hall := fun (W W2 : World) (B' g : Nat) (j : Nat) (hj : j < n) (hW : Below w.heap.size w W) (b : Nat) (hsy : W.ownsRow b 122 1 (.slice (some ⟨g, 0, none⟩) s.size s.size) s.size (symsV (symL s.data.toList))) hr =>
    impl_readAll (B := B') (p := ((j : Int), [])) W2 ((ck_ok _).later hck hW) hc ⟨⟨by omega, by rw [← hn]; omega⟩, fun x hx => by cases hx⟩ (by simp) h60 hsy (symL_ok hw.2) hr
  obtain ⟨nb, hnb⟩ : ∃ n, n = c.call.length := ⟨_, rfl⟩
  obtain ⟨nr, hnr⟩ : ∃ n, n = c.ret.length := ⟨_, rfl⟩
  obtain ⟨ni, hni⟩ : ∃ n, n = c.inner.length := ⟨_, rfl⟩
  obtain ⟨t0, ht0⟩ : ∃ t, t = c.stack := ⟨_, rfl⟩
  obtain ⟨t1, ht1⟩ : ∃ t, t = c.start := ⟨_, rfl⟩
  rw [← hn, ← hnb, ← hnr, ← hni, ← ht0, ← ht1] at hfor hB0 hbx ⊢
  rw [← hnb, ← hnr, ← hni] at hall
  simp only [← hn] at hall
  rw [← hn] at h40
  have Hfor := Lib.hid hfor
  have Hmat := Lib.hid hmat
  have Hall := Lib.hid hall
  have HB0 := Lib.hid hB0
  have Ht := Lib.hid (And.intro ht0 ht1)
  have Hs := Lib.hid (And.intro (summM_succ c s.data.toList) (summM_len c s.data.toList))
  clear hfor hmat hall hB0 hck hbd h hc hw hm g1 g2 g3 g4 hn hnb hnr hni ht0 ht1
  obtain ⟨e0, e1, e2, e3, e4, e5, el⟩ := id hbx
  go_enter Try.func28, Try.ntmps28
  go_wp2_with fail
  refine Hfor.out.mono ?_
  rintro e w1 ⟨g, M, rfl, hsy, hps, hb1⟩
  have hA := HB0.out.trans (hb1.mono HB0.out.size)
  have hn1 := (Below.refl w1.heap.size w1).alloc (Nat.le_refl _) (.cells #[.slice (some ⟨g, 0, none⟩) s.size s.size, .slice (some ⟨M, 0, none⟩) s.size s.size] 78)
  have hA1 := hA.alloc hA.size (.cells #[.slice (some ⟨g, 0, none⟩) s.size s.size, .slice (some ⟨M, 0, none⟩) s.size s.size] 78)
  have hN := Bx.new w1 78 #[.slice (some ⟨g, 0, none⟩) s.size s.size, .slice (some ⟨M, 0, none⟩) s.size s.size]
  have hbx1 := (hbx.later hb1).later hn1
  have Hsy := Lib.hid (row_below hsy hn1)
  have Hps := Lib.hid (row_below hps hn1)
  clear e0 e1 e2 e3 e4 e5 el hsy hps
  go_wp2_with fail
  refine (Hmat.out _ _ _ g M Hsy.out Hps.out).mono ?_
  rintro e w2 ⟨rfl, hb2⟩
  have hA2 := hA1.trans (hb2.mono hA1.size)
  have hbx2 := hbx1.later hb2
  have hN2 := hN.later hb2
  have Hsy2 := Lib.hid (row_below Hsy.out hb2)
  clear hbx1 hN Hsy Hps hA1 hA hn1
  obtain ⟨e0, e1, e2, e3, e4, e5, el⟩ := id hbx2
  go_wp2_with fail
  refine (impl_count _ _ _ _ _ _ _ _ _ _ _ _ _ _ _).mono ?_
  rintro e w3 ⟨rfl, hb3⟩
  have hA3 := hA2.trans (hb3.mono hA2.size)
  have hbx3 := hbx2.later hb3
  have hN3 := hN2.later hb3
  have Hsy3 := Lib.hid (row_below Hsy2.out hb3)
  clear e0 e1 e2 e3 e4 e5 el hbx2 hN2 Hsy2 hA2 hb1 hb2 hb3 hbx
  go_wp2
  go_loopw [8, 25] (fun sm i wr => ∃ j : Nat, j ≤ n ∧ i = .int .i64 j ∧ (∃ bs, IntsE w3.heap.size wr sm (summM c s.data.toList j) bs) ∧ Below w3.heap.size w3 wr) (fun _ i _ => n - (intOf i).toNat)
  case atStart => exact ⟨0, Nat.zero_le _, rfl, ⟨[], by simpa [summM] using World.ownsRow_nil _ _ _ _, rfl⟩, Below.refl _ _⟩
  case round =>
    obtain ⟨j, hj, rfl, ⟨bs, hS⟩, hB⟩ := hrel
    obtain ⟨A', ca, rfl⟩ := RowE.slice hS
    have hbr := hbx3.later hB
    have hNr := hN3.later hB
    have hAr := hA3.trans (hB.mono hA3.size)
    by_cases hlt : j < n
    · rw [Hs.out.2 j] at hS ⊢
      obtain ⟨e0, e1, e2, e3, e4, e5, el⟩ := id hbr
      have n0 : ∀ o, (wr.alloc o).cell? ⟨w1.heap.size, 0, none⟩ = some (.slice (some ⟨g, 0, none⟩) s.size s.size) := fun o => (hNr.alloc o).cell 0 _ rfl
      have hRun : RunAt wr wr.heap.size c (.slice A n ka) (.slice B nb kb) (.slice R nr kr) (.slice I ni ki) ((j : Int), []) (wr.alloc (.cells #[.int .i64 t0, .int .i64 t1, .slice A n ka, .slice B nb kb, .slice R nr kr, .slice I ni ki, .int .i64 (j : Int), .slice none 0 0] 85)) := by
        refine ⟨_, [], ?_, ⟨by simpa using World.ownsRow_nil _ _ _ _, rfl⟩, (Below.refl _ _).alloc (Nat.le_refl _) _, Nat.le_refl _⟩
        rw [← Ht.out.1, ← Ht.out.2]
        exact Bx.new _ _ _
      have Hq := Lib.hid (Hall.out wr _ wr.heap.size g j hlt hAr _ (row_below Hsy3.out hB) hRun)
      clear hRun
      go_wp2_with fail
      refine Hq.out.mono ?_
      rintro e w4 ⟨rfl, vs4, bs4, hb4, hE4, hB4, _⟩
      obtain ⟨q, hq⟩ : ∃ q, q = (goM c ((j : Int), []) (symL s.data.toList)).1 := ⟨_, rfl⟩
      rw [← hq] at hb4
      have Hqq := Lib.hid hq
      have s6 : w4.cell? ⟨wr.heap.size, 6, none⟩ = some (.int .i64 q) := hb4.cell 6 _ rfl
      have hS4 := (ints_ok _).later hS hB4
      have hB5 := hB.trans (hB4.mono hB.size)
      have hrow : w4.ownsRow w3.heap.size 2 1 (.slice A' j ca) j ((summM c s.data.toList j).flatMap fun x => [Value.int .i64 x]) := by
        have := hS4.1
        rwa [Hs.out.2] at this
      have Hb := Lib.hid (And.intro hS4 (And.intro hB5 hrow))
      have h35 := hB5.size
      clear hq hb4 hE4 hB4 hS hB hrow hS4 hB5 e0 e1 e2 e3 e4 e5 el n0 hbr hNr
      go_wp2_with (at_builtin; refine wpList_append_lies _ rfl _ _ 43 rfl w3.heap.size 2 i0 (.int .i64 0) 1 8 Try.underlying43 hi hz0 hz1 hz2 rfl (by decide) _ j _ rfl (Hb.out.2.2.alloc _) ⟨w4.heap.size, 0, none⟩ 1 1 [.int .i64 q] rfl rfl (World.news_of_block (Bx.new w4 _ _)) (one_int q) (by decide) ?c1 ?c2 ?c3 _ rfl ?_)
      case c1 => unfold maxLen; omega
      case c2 => omega
      case c3 => simp; omega
      intro g1 cap w5 hown hg hat hltg
      have hB6 : Below w3.heap.size w3 w5 := (Hb.out.2.1.alloc Hb.out.2.1.size _).grown hg (by simp; omega) (fun k hk => ((ints_ok _).lt Hb.out.1 k (by rw [Hb.out.1.2, hk]; simp)).1)
      have hS6 : IntsE w3.heap.size w5 (.slice (some ⟨g1, 0, none⟩) (j + 1) cap) (summM c s.data.toList (j + 1)) [g1] := by
        rw [Hs.out.1, ← Hqq.out]
        refine ⟨?_, rfl⟩
        rw [List.length_append, Hs.out.2, List.flatMap_append]
        exact hown
      clear hown hg hat
      go_wp2
      go_roundw
      case rel => exact ⟨j + 1, by omega, by go_num, ⟨[g1], hS6⟩, hB6⟩
      case measure => simp [intOf]; omega
    · have e : j = n := by omega
      subst e
      go_wp2
      go_ret2
      exact ⟨_, bs, rfl, ⟨row_base hS.1 hA3.size, hS.2⟩, hAr⟩
end
end Go.Proofs.Ythdjoligopmepaa
