/- A Query as a field. -/
import Derived.Test.YtfaiifiohomdmaaQr
namespace Go.Proofs.Ytfaiifiohomdmaa
open Go.RowKit Go.ChangeShapes Go.WideShapes Go.Deep
set_option linter.unusedVariables false

def QfE (base : Nat) : EP Qr := fun w v c bs => StepE base w v c.steps bs
theorem qf_ok (base : Nat) : EP.Ok base (QfE base) where
  kept := fun h hs => (step_ok base).kept h hs
  lt := fun h => (step_ok base).lt h
  nodup := fun h => (step_ok base).nodup h
theorem qf_base {b b' : Nat} (hb : b' ≤ b) (w : World) (v : Value) (x : Qr) (bs : List Nat) (h : QfE b w v x bs) : QfE b' w v x bs := steps_base hb _ _ _ _ h
theorem QfE.slice {base : Nat} {w : World} {v : Value} {c : Qr} {bs : List Nat} (h : QfE base w v c bs) : ∃ A k, v = .slice A c.steps.length k := RowE.slice h
theorem QfE.agg {base : Nat} {w : World} {v : Value} {c : Qr} {bs : List Nat} (h : QfE base w v c bs) : QrE base w (.agg #[v]) c bs := ⟨v, rfl, h⟩
theorem QrE.field {base : Nat} {w : World} {v : Value} {c : Qr} {bs : List Nat} (h : QrE base w (.agg #[v]) c bs) : QfE base w v c bs := by
  obtain ⟨v0, e, h⟩ := h
  simp only [Value.agg.injEq] at e
  have e2 : v = v0 := by simpa using e
  rw [e2]; exact h
theorem eq_qf {base base' : Nat} {v v' : Value} {c : Qr} {bs bs' : List Nat} (w : World) (hc : BdQ c) (ha : QfE base w v c bs) (hb : QfE base' w v' c bs') :
    Calls Try.prog 117 #[.agg #[v], .agg #[v']] w (SeenPost (.bool true) w) := eq_query w hc ha.agg hb.agg
def QfR : RP Qr := fun w v c => StepQ w v c.steps
theorem qf_r : RP.Ok QfR where
  later := fun h hb => stepq_r.later h hb
def NewPostQ {α : Type} (E : Nat → EP α) (x : α) (w : World) (e : Ending) (w' : World) : Prop := ∃ v bs, e = .returned (.agg #[v]) ∧ E w.heap.size w' v x bs ∧ Below w.heap.size w w'
theorem to_qf {v : Value} {c : Qr} (w : World) (hc : BdQ c) (ha : QfR w v c) : Calls Try.prog 109 #[.agg #[v]] w (NewPostQ QfE c w) :=
  (to_query w hc ⟨v, rfl, ha⟩).mono fun e w' ⟨u, bs, h1, ⟨u0, h2, h3⟩, h4⟩ => by subst h2; exact ⟨u0, bs, h1, h3, h4⟩
theorem sz_qf {v : Value} {c : Qr} (left : Nat) (w : World) (hl : left ≤ 1048576) (ha : QfR w v c) : Calls Try.prog 107 #[.agg #[v], .int .i64 (left : Int)] w fun e w' => e = .returned (.int .i64 (dec left (cntQ c))) ∧ Below w.heap.size w w' :=
  sz_query left w hl ⟨v, rfl, ha⟩
theorem le_qf (c : Qr) : szQ c ≤ 2 * cntQ c := le_steps _
section
variable {H : Type} {enc : TypeId × Value → H} {w : World} {held : Bool}
theorem read_qf {n : Nat} {v : Value} {x : DataW H × List MemPlace} (h : DataW.trod enc Try.prog w 0 (fun _ => true) held n 64 [v] = some x) : ∃ y, QfR w v y ∧ WfQ y := by
  obtain ⟨v0, c, h1, h2, h3⟩ := read_query h
  simp only [List.cons.injEq, and_true] at h1
  subst h1
  exact ⟨⟨c⟩, h2, ⟨h3⟩⟩
end
end Go.Proofs.Ytfaiifiohomdmaa
