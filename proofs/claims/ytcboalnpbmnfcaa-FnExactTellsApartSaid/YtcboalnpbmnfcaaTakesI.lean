/- Takes, SummaryOf, RunOf of the program. -/
import Derived.Test.YtcboalnpbmnfcaaForI
namespace Go.Proofs.Ytcboalnpbmnfcaa
open Go.RowKit
set_option linter.unusedVariables false

/-- Where a word leads from Start; whether it is taken. -/
def endM (c : Ck) (l : List UInt8) : Int × List Int := goM c (c.start, []) (symL l)
def takesM (c : Ck) (l : List UInt8) : Bool := (c.accept[(endM c l).1.toNat]?).getD false
theorem endM_st {c : Ck} (hc : OkC c) {l : List UInt8} (h : AllSym l) : StM c (endM c l) := (StM.start hc).go hc (symL l) (symL_ok h)

section
variable {base : Nat} {va vc vr vi : Value} {c : Ck} {bsC : List Nat}
theorem acc_cell {w : World} (hck : CkE base w (.agg #[.int .i64 c.stack, .int .i64 c.start, va, vc, vr, vi]) c bsC) (hc : OkC c) {s : Int} (hs : 0 ≤ s ∧ s < c.accept.length) :
    ∃ g n ka, va = .slice (some ⟨g, 0, none⟩) n ka ∧ s.toNat < n ∧ n ≤ 1048576 ∧ g < w.heap.size ∧ w.cell? ⟨g, s.toNat, none⟩ = some (.bool ((c.accept[s.toNat]?).getD false)) := by
  obtain ⟨_, _, _, _, b1, b2, b3, b4, hv, h1, h2, h3, h4, _, _⟩ := hck
  simp only [Value.agg.injEq, Array.mk.injEq, List.cons.injEq, and_true, true_and] at hv
  obtain ⟨rfl, rfl, rfl, rfl⟩ := hv
  obtain ⟨A, ka, rfl⟩ := RowE.slice h1
  obtain ⟨g, rfl, hg, _⟩ := RowE.head h1 (j := s.toNat) (by omega)
  have hx : c.accept[s.toNat]? = some ((c.accept[s.toNat]?).getD false) := by rw [List.getElem?_eq_getElem (by omega)]; rfl
  exact ⟨g, _, ka, rfl, by omega, by have := hc.n2; omega, hg, BoolsE.cell' h1 hx⟩

set_option maxHeartbeats 1600000 in
set_option maxRecDepth 100000 in
theorem impl_Takes_no (s : ByteArray) (w : World) (hs : s.size ≤ 1048576) (hbd : BdC c) (hck : CkE base w (.agg #[.int .i64 c.stack, .int .i64 c.start, va, vc, vr, vi]) c bsC) (h : ¬ GivenM c s) :
    Calls Try.prog 13 #[.agg #[.int .i64 c.stack, .int .i64 c.start, va, vc, vr, vi], .string s] w (TupPost (.tuple #[.bool false, .int .i64 1]) w) := by
  have hB0 := (Below.refl w.heap.size w).alloc (Nat.le_refl _) (.cells #[.int .i64 c.stack, .int .i64 c.start, va, vc, vr, vi] 33)
  have H := Lib.hid (impl_for_no s _ hs hbd ((ck_ok _).later hck hB0) h)
  have HB0 := Lib.hid hB0
  clear hck hbd h hB0
  go_enter Try.func13, Try.ntmps13
  go_wp2_with fail
  refine H.out.mono ?_
  rintro e w1 ⟨rfl, hb1⟩
  have hA := HB0.out.trans (hb1.mono HB0.out.size)
  go_wp2
  go_ret2
  exact ⟨rfl, hA.alloc hA.size _⟩

theorem impl_accepts (B ga na ka m : Nat) (r : Bool) (W : World) (h2 : W.cell? ⟨B, 2, none⟩ = some (.slice (some ⟨ga, 0, none⟩) na ka)) (h6 : W.cell? ⟨B, 6, none⟩ = some (.int .i64 (m : Int))) (hm : m < na) (hna : na ≤ 1048576)
    (hac : W.cell? ⟨ga, m, none⟩ = some (.bool r)) :
    Calls Try.prog 117 #[.pointer (some ⟨B, 0, none⟩)] W fun e w' => e = .returned (.bool r) ∧ ∃ n, w' = W.drewN n := by
  go_enter Try.func117, Try.ntmps117
  go_wp2
  go_quiet (fail)
  go_wp2
  go_ret
  exact ⟨rfl, _, rfl⟩
set_option maxHeartbeats 3200000 in
set_option maxRecDepth 100000 in
theorem impl_takesRead {b g : Nat} {vM : Value} (s : ByteArray) (w : World) (hbd : BdC c) (hck : CkE base w (.agg #[.int .i64 c.stack, .int .i64 c.start, va, vc, vr, vi]) c bsC) (h : GivenM c s)
    (hsy0 : w.ownsRow b 162 1 (.slice (some ⟨g, 0, none⟩) s.size s.size) s.size (symsV (symL s.data.toList))) :
    Calls Try.prog 50 #[.agg #[.int .i64 c.stack, .int .i64 c.start, va, vc, vr, vi], .agg #[.slice (some ⟨g, 0, none⟩) s.size s.size, vM]] w (TupPost (.bool (takesM c s.data.toList)) w) := by
  have hc := okC_of h.2
  have hw := h.1
  have h60 := h.1.1
  have hA := (Below.refl w.heap.size w).alloc (Nat.le_refl _) (.cells #[.int .i64 c.stack, .int .i64 c.start, va, vc, vr, vi] 33)
  have hA2 := hA.alloc hA.size (.cells #[.slice (some ⟨g, 0, none⟩) s.size s.size, vM] 88)
  have hbx1 := (Box6.new w (.int .i64 c.stack) (.int .i64 c.start) va vc vr vi 33).later ((Below.refl _ _).alloc (Nat.le_refl _) (.cells #[.slice (some ⟨g, 0, none⟩) s.size s.size, vM] 88))
  have hN := Bx.new (w.alloc (.cells #[.int .i64 c.stack, .int .i64 c.start, va, vc, vr, vi] 33)) 88 #[.slice (some ⟨g, 0, none⟩) s.size s.size, vM]
  rw [World.size_alloc] at hN
  have hsy := row_below hsy0 hA2
  have hst := endM_st hc hw.2
  obtain ⟨ga, na, ka, rfl, hsa, hna, hga, hac⟩ := acc_cell hck hc hst.state
  have hstart := fun (W : World) => impl_startRun (c := c) (va := .slice (some ⟨ga, 0, none⟩) na ka) (vc := vc) (vr := vr) (vi := vi) W
  have hall := fun (W W2 : World) (B g : Nat) (hW : Below w.heap.size w W) (b : Nat) (hsy : W.ownsRow b 162 1 (.slice (some ⟨g, 0, none⟩) s.size s.size) s.size (symsV (symL s.data.toList))) (hr : RunAt W B c (.slice (some ⟨ga, 0, none⟩) na ka) vc vr vi (c.start, []) W2) =>
    impl_readAll (p := (c.start, [])) W2 ((ck_ok _).later hck hW) hc (StM.start hc) (by simp) h60 hsy (symL_ok hw.2) hr
  have hres : takesM c s.data.toList = (c.accept[(endM c s.data.toList).1.toNat]?).getD false := rfl
  obtain ⟨r, hr⟩ : ∃ r, r = takesM c s.data.toList := ⟨_, rfl⟩
  rw [← hres, ← hr] at hac
  rw [← hr]
  have hst1 := hst.state
  change ∀ (W W2 : World) (B g : Nat), _ → ∀ b, _ → _ → Calls Try.prog _ _ W2 (ReadPost W B c (.slice (some ⟨ga, 0, none⟩) na ka) vc vr vi (endM c s.data.toList)) at hall
  generalize endM c s.data.toList = q at hall hac hsa hst1
  obtain ⟨q1, q2⟩ := q
  dsimp only at hac hsa hst1
  obtain ⟨m, rfl⟩ : ∃ m : Nat, q1 = (m : Int) := ⟨q1.toNat, by omega⟩
  rw [Int.toNat_natCast] at hac hsa
  have Hstart := Lib.hid hstart
  have Hall := Lib.hid hall
  have Hc := Lib.hid (And.intro hac hst1)
  obtain ⟨t0, ht0⟩ : ∃ t, t = c.stack := ⟨_, rfl⟩
  obtain ⟨t1, ht1⟩ : ∃ t, t = c.start := ⟨_, rfl⟩
  rw [← ht0, ← ht1] at hbx1 Hstart hA hA2 hN hsy ⊢
  have Ht := Lib.hid (And.intro ht0 ht1)
  have Hsy := Lib.hid hsy
  clear hstart hall hA hck hbd h hc hst hw hres hr hac hst1 ht0 ht1 hsy hsy0
  obtain ⟨e0, e1, e2, e3, e4, e5, el⟩ := id hbx1
  obtain ⟨W1, hW1⟩ : ∃ W1, W1 = (w.alloc (.cells #[.int .i64 t0, .int .i64 t1, .slice (some ⟨ga, 0, none⟩) na ka, vc, vr, vi] 33)).alloc (.cells #[.slice (some ⟨g, 0, none⟩) s.size s.size, vM] 88) := ⟨_, rfl⟩
  rw [← hW1] at hbx1 hN Hsy hA2
  have HW1 := Lib.hid hW1
  clear hW1
  go_enter Try.func50, Try.ntmps50
  go_wp2_with fail
  rw [← HW1.out]
  refine (Hstart.out _).mono ?_
  rintro e w2 ⟨B, rfl, hR⟩
  have hb2 : Below W1.heap.size W1 w2 := by obtain ⟨_, _, _, _, h, _⟩ := hR; exact h
  have n0 : w2.cell? ⟨w.heap.size + 1, 0, none⟩ = some (.slice (some ⟨g, 0, none⟩) s.size s.size) := (hN.later hb2).cell 0 _ rfl
  have Hq := Lib.hid (Hall.out W1 w2 B g hA2 _ Hsy.out (by rw [← Ht.out.2]; exact hR))
  clear e0 e1 e2 e3 e4 e5 el hR
  go_wp2_with fail
  refine Hq.out.mono ?_
  rintro e w3 ⟨rfl, vs, bs, hb3, hE3, hB3, _⟩
  have hbx3 := hbx1.later hB3
  have e2 := hbx3.c2
  have s6 : w3.cell? ⟨B, 6, none⟩ = some (.int .i64 (m : Int)) := hb3.cell 6 _ rfl
  have hA3 := hA2.trans (hB3.mono hA2.size)
  have ac : w3.cell? ⟨ga, m, none⟩ = some (.bool r) := (hA3.cell (p := ⟨ga, m, none⟩) hga).trans Hc.out.1
  have s2 : w3.cell? ⟨B, 2, none⟩ = some (.slice (some ⟨ga, 0, none⟩) na ka) := hb3.cell 2 _ rfl
  have HA := Lib.hid (impl_accepts B ga na ka m r w3 s2 s6 hsa hna ac)
  clear hb3 hE3 hB3 s2 s6 ac e2
  go_wp2_with fail
  refine HA.out.mono ?_
  rintro e w4 ⟨rfl, n4, rfl⟩
  go_wp2
  go_ret
  exact ⟨rfl, below_drewN hA3 _⟩

set_option maxHeartbeats 3200000 in
set_option maxRecDepth 100000 in
theorem impl_Takes_yes (s : ByteArray) (w : World) (hbd : BdC c) (hck : CkE base w (.agg #[.int .i64 c.stack, .int .i64 c.start, va, vc, vr, vi]) c bsC) (h : GivenM c s) :
    Calls Try.prog 13 #[.agg #[.int .i64 c.stack, .int .i64 c.start, va, vc, vr, vi], .string s] w (TupPost (.tuple #[.bool (takesM c s.data.toList), .int .i64 0]) w) := by
  have hB0 := (Below.refl w.heap.size w).alloc (Nat.le_refl _) (.cells #[.int .i64 c.stack, .int .i64 c.start, va, vc, vr, vi] 33)
  have hbx := Box6.new w (.int .i64 c.stack) (.int .i64 c.start) va vc vr vi 33
  have Hfor := Lib.hid (impl_for_yes s _ hbd ((ck_ok _).later hck hB0) h)
  have Htr := Lib.hid fun (W : World) (b g M : Nat) (hW : Below w.heap.size w W) hsy => impl_takesRead (b := b) (g := g) (vM := .slice (some ⟨M, 0, none⟩) s.size s.size) s W hbd ((ck_ok _).later hck hW) h hsy
  have HB0 := Lib.hid hB0
  obtain ⟨r, hr⟩ : ∃ r, r = takesM c s.data.toList := ⟨_, rfl⟩
  rw [← hr] at Htr ⊢
  obtain ⟨t0, ht0⟩ : ∃ t, t = c.stack := ⟨_, rfl⟩
  obtain ⟨t1, ht1⟩ : ∃ t, t = c.start := ⟨_, rfl⟩
  rw [← ht0, ← ht1] at Hfor HB0 hbx Htr ⊢
  clear hB0 hck hbd h hr ht0 ht1
  obtain ⟨e0, e1, e2, e3, e4, e5, el⟩ := id hbx
  go_enter Try.func13, Try.ntmps13
  go_wp2_with fail
  refine Hfor.out.mono ?_
  rintro e w1 ⟨g, M, rfl, hsy, hps, hb1⟩
  have hA := HB0.out.trans (hb1.mono HB0.out.size)
  have hn1 := (Below.refl w1.heap.size w1).alloc (Nat.le_refl _) (.cells #[.slice (some ⟨g, 0, none⟩) s.size s.size, .slice (some ⟨M, 0, none⟩) s.size s.size] 88)
  have hA2 := hA.alloc hA.size (.cells #[.slice (some ⟨g, 0, none⟩) s.size s.size, .slice (some ⟨M, 0, none⟩) s.size s.size] 88)
  have hbx1 := (hbx.later hb1).later hn1
  have Hq := Lib.hid (Htr.out _ _ g M hA2 (row_below hsy hn1))
  have HA2 := Lib.hid hA2
  clear e0 e1 e2 e3 e4 e5 el hps hsy hn1 hA2 hA
  obtain ⟨e0, e1, e2, e3, e4, e5, el⟩ := id hbx1
  go_wp2_with fail
  refine Hq.out.mono ?_
  rintro e w2 ⟨rfl, hb2⟩
  have hA3 := HA2.out.trans (hb2.mono HA2.out.size)
  go_wp2
  go_ret2
  exact ⟨rfl, hA3⟩
end
end Go.Proofs.Ytcboalnpbmnfcaa
