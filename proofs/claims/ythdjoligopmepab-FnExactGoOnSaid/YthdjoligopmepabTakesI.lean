/- Takes, SummaryOf, RunOf of the program. -/
import Derived.Test.YthdjoligopmepabForI
namespace Go.Proofs.Ythdjoligopmepab
open Go.RowKit
set_option linter.unusedVariables false

/-- Where a word leads from Start; whether it is taken. -/
def endM (c : Ck) (l : List UInt8) : Int × List Int := goM c (c.start, []) (symL l)
def takesM (c : Ck) (l : List UInt8) : Bool := (c.accept[(endM c l).1.toNat]?).getD false
theorem endM_st {c : Ck} (hc : OkC c) {l : List UInt8} (h : AllSym l) : StM c (endM c l) := (StM.start hc).go hc (symL l) (symL_ok h)

section
variable {base : Nat} {va vc vr vi : Value} {c : Ck} {bsC : List Nat}
theorem acc_cell {w : World} (hck : CkE base w (.agg #[.int .i64 c.stack, .int .i64 c.start, va, vc, vr, vi]) c bsC) (hc : OkC c) {s : Int} (hs : 0 ≤ s ∧ s < c.accept.length) :
    ∃ g n ka, va = .slice (some ⟨g, 0, none⟩) n ka ∧ s.toNat < n ∧ n ≤ 1048576 ∧ g < w.heap.size ∧ w.cell? ⟨g, s.toNat, none⟩ = some (.bool ((c.accept[s.toNat]?).getD false)) := by
  obtain ⟨_, _, _, _, b1, b2, b3, b4, hv, h1, h2, h3, h4, _, _⟩ := hck
  simp only [Value.agg.injEq, Array.mk.injEq, List.cons.injEq, and_true, true_and] at hv
  obtain ⟨rfl, rfl, rfl, rfl⟩ := hv
  obtain ⟨A, ka, rfl⟩ := RowE.slice h1
  obtain ⟨g, rfl, hg, _⟩ := RowE.head h1 (j := s.toNat) (by omega)
  have hx : c.accept[s.toNat]? = some ((c.accept[s.toNat]?).getD false) := by rw [List.getElem?_eq_getElem (by omega)]; rfl
  exact ⟨g, _, ka, rfl, by omega, by have := hc.n2; omega, hg, BoolsE.cell' h1 hx⟩

end
end Go.Proofs.Ythdjoligopmepab
