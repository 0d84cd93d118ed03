/- Takes, SummaryOf, RunOf of the program. -/
import Derived.Test.YtdehehdcjfaefadForI
namespace Go.Proofs.Ytdehehdcjfaefad
open Go.RowKit
set_option linter.unusedVariables false

/-- Where a word leads from Start; whether it is taken. -/
def endM (c : Ck) (l : List UInt8) : Int × List Int := goM c (c.start, []) (symL l)
def takesM (c : Ck) (l : List UInt8) : Bool := (c.accept[(endM c l).1.toNat]?).getD false
theorem endM_st {c : Ck} (hc : OkC c) {l : List UInt8} (h : AllSym l) : StM c (endM c l) := (StM.start hc).go hc (symL l) (symL_ok h)

section
variable {base : Nat} {va vc vr vi : Value} {c : Ck} {bsC : List Nat}
theorem acc_cell {w : World} (hck : CkE base w (.agg #[.int .i64 c.stack, .int .i64 c.start, va, vc, vr, vi]) c bsC) (hc : OkC c) {s : Int} (hs : 0 ≤ s ∧ s < c.accept.length) :
    ∃ g n ka, va = .slice (some ⟨g, 0, none⟩) n ka ∧ s.toNat < n ∧ n ≤ 1048576 ∧ g < w.heap.size ∧ w.cell? ⟨g, s.toNat, none⟩ = some (.bool ((c.accept[s.toNat]?).getD false)) := by
  obtain ⟨_, _, _, _, b1, b2, b3, b4, hv, h1, h2, h3, h4, _, _⟩ := hck
  simp only [Value.agg.injEq, Array.mk.injEq, List.cons.injEq, and_true, true_and] at hv
  obtain ⟨rfl, rfl, rfl, rfl⟩ := hv
  obtain ⟨A, ka, rfl⟩ := RowE.slice h1
  obtain ⟨g, rfl, hg, _⟩ := RowE.head h1 (j := s.toNat) (by omega)
  have hx : c.accept[s.toNat]? = some ((c.accept[s.toNat]?).getD false) := by rw [List.getElem?_eq_getElem (by omega)]; rfl
  exact ⟨g, _, ka, rfl, by omega, by have := hc.n2; omega, hg, BoolsE.cell' h1 hx⟩

set_option maxHeartbeats 3200000 in
set_option maxRecDepth 100000 in
theorem impl_takesRead {b g : Nat} {vM : Value} (s : ByteArray) (w : World) (hbd : BdC c) (hck : CkE base w (.agg #[.int .i64 c.stack, .int .i64 c.start, va, vc, vr, vi]) c bsC) (h : GivenM c s)
    (hsy0 : w.ownsRow b 147 1 (.slice (some ⟨g, 0, none⟩) s.size s.size) s.size (symsV (symL s.data.toList))) :
    Calls Try.prog 136 #[.agg #[.int .i64 c.stack, .int .i64 c.start, va, vc, vr, vi], .agg #[.slice (some ⟨g, 0, none⟩) s.size s.size, vM]] w (TupPost (.bool (takesM c s.data.toList)) w) := by
  have hc := okC_of h.2
  have hw := h.1
  have h60 := h.1.1
  have hA := (Below.refl w.heap.size w).alloc (Nat.le_refl _) (.cells #[.int .i64 c.stack, .int .i64 c.start, va, vc, vr, vi] 46)
  have hA2 := hA.alloc hA.size (.cells #[.slice (some ⟨g, 0, none⟩) s.size s.size, vM] 121)
  have hbx1 := (Box6.new w (.int .i64 c.stack) (.int .i64 c.start) va vc vr vi 46).later ((Below.refl _ _).alloc (Nat.le_refl _) (.cells #[.slice (some ⟨g, 0, none⟩) s.size s.size, vM] 121))
  have hN := Bx.new (w.alloc (.cells #[.int .i64 c.stack, .int .i64 c.start, va, vc, vr, vi] 46)) 121 #[.slice (some ⟨g, 0, none⟩) s.size s.size, vM]
  rw [World.size_alloc] at hN
  have hsy := row_below hsy0 hA2
  have hst := endM_st hc hw.2
  obtain ⟨ga, na, ka, rfl, hsa, hna, hga, hac⟩ := acc_cell hck hc hst.state
  have hstart := fun (W : World) => impl_startRun (c := c) (va := .slice (some ⟨ga, 0, none⟩) na ka) (vc := vc) (vr := vr) (vi := vi) W
  have hall := fun (W W2 : World) (B g : Nat) (hW : Below w.heap.size w W) (b : Nat) (hsy : W.ownsRow b 147 1 (.slice (some ⟨g, 0, none⟩) s.size s.size) s.size (symsV (symL s.data.toList))) (hr : RunAt W B c (.slice (some ⟨ga, 0, none⟩) na ka) vc vr vi (c.start, []) W2) =>
    impl_readAll (p := (c.start, [])) W2 ((ck_ok _).later hck hW) hc (StM.start hc) (by simp) h60 hsy (symL_ok hw.2) hr
  have hres : takesM c s.data.toList = (c.accept[(endM c s.data.toList).1.toNat]?).getD false := rfl
  obtain ⟨r, hr⟩ : ∃ r, r = takesM c s.data.toList := ⟨_, rfl⟩
  rw [← hres, ← hr] at hac
  rw [← hr]
  have hst1 := hst.state
  change ∀ (W W2 : World) (B g : Nat), _ → ∀ b, _ → _ → Calls Try.prog _ _ W2 (ReadPost W B c (.slice (some ⟨ga, 0, none⟩) na ka) vc vr vi (endM c s.data.toList)) at hall
  generalize endM c s.data.toList = q at hall hac hsa hst1
  obtain ⟨q1, q2⟩ := q
  dsimp only at hac hsa hst1
  obtain ⟨m, rfl⟩ : ∃ m : Nat, q1 = (m : Int) := ⟨q1.toNat, by omega⟩
  rw [Int.toNat_natCast] at hac hsa
  have Hstart := Lib.hid hstart
  have Hall := Lib.hid hall
  have Hc := Lib.hid (And.intro hac hst1)
  obtain ⟨t0, ht0⟩ : ∃ t, t = c.stack := ⟨_, rfl⟩
  obtain ⟨t1, ht1⟩ : ∃ t, t = c.start := ⟨_, rfl⟩
  rw [← ht0, ← ht1] at hbx1 Hstart hA hA2 hN hsy ⊢
  have Ht := Lib.hid (And.intro ht0 ht1)
  have Hsy := Lib.hid hsy
  clear hstart hall hA hck hbd h hc hst hw hres hr hac hst1 ht0 ht1 hsy hsy0
  obtain ⟨e0, e1, e2, e3, e4, e5, el⟩ := id hbx1
  obtain ⟨W1, hW1⟩ : ∃ W1, W1 = (w.alloc (.cells #[.int .i64 t0, .int .i64 t1, .slice (some ⟨ga, 0, none⟩) na ka, vc, vr, vi] 46)).alloc (.cells #[.slice (some ⟨g, 0, none⟩) s.size s.size, vM] 121) := ⟨_, rfl⟩
  rw [← hW1] at hbx1 hN Hsy hA2
  have HW1 := Lib.hid hW1
  clear hW1
  go_enter Try.func136, Try.ntmps136
  go_wp2_with fail
  rw [← HW1.out]
  refine (Hstart.out _).mono ?_
  rintro e w2 ⟨B, rfl, hR⟩
  have hb2 : Below W1.heap.size W1 w2 := by obtain ⟨_, _, _, _, h, _⟩ := hR; exact h
  have n0 : w2.cell? ⟨w.heap.size + 1, 0, none⟩ = some (.slice (some ⟨g, 0, none⟩) s.size s.size) := (hN.later hb2).cell 0 _ rfl
  have Hq := Lib.hid (Hall.out W1 w2 B g hA2 _ Hsy.out (by rw [← Ht.out.2]; exact hR))
  clear e0 e1 e2 e3 e4 e5 el hR
  go_wp2_with fail
  refine Hq.out.mono ?_
  rintro e w3 ⟨rfl, vs, bs, hb3, hE3, hB3, _⟩
  have hbx3 := hbx1.later hB3
  have e2 := hbx3.c2
  have s6 : w3.cell? ⟨B, 6, none⟩ = some (.int .i64 (m : Int)) := hb3.cell 6 _ rfl
  have hA3 := hA2.trans (hB3.mono hA2.size)
  have ac : w3.cell? ⟨ga, m, none⟩ = some (.bool r) := (hA3.cell (p := ⟨ga, m, none⟩) hga).trans Hc.out.1
  clear hb3 hE3 hB3
  go_wp2
  go_quiet (fail)
  go_wp2
  go_ret
  exact ⟨rfl, below_drewN hA3 _⟩

end
end Go.Proofs.Ytdehehdcjfaefad
