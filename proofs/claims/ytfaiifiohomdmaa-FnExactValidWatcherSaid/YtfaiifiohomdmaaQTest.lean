/- Tests of steps: what they are, and that both sides say so. -/
import Derived.Test.YtfaiifiohomdmaaSym
import Derived.Test.YtfaiifiohomdmaaRead
import Derived.Test.YtfaiifiohomdmaaMatch
import Derived.Test.YtfaiifiohomdmaaWord
import Derived.Test.YtfaiifiohomdmaaValidWord0
namespace Go.Proofs.Ytfaiifiohomdmaa
open Go.RowKit
set_option linter.unusedVariables false

/-- What stands for a test: its only byte, or none. -/
def tstN (t : ByteArray) : Int := if t.size = 1 then ((t.data.toList.headD 0).toNat : Int) else -1
def isTst (n : Int) : Bool := n == 40 || n == 91 || n == 97 || n == 98 || n == 42 || n == 46
def testB (t : ByteArray) : Bool := isTst (tstN t)
theorem ba_toList (t : ByteArray) : t.toList = t.data.toList := by
  exact ByteArray.toList_eq t
theorem one_byte {t : ByteArray} (h : t.size = 1) : ∃ b : UInt8, t = ⟨#[b]⟩ := by
  have h1 : t.data.size = 1 := h
  obtain ⟨d⟩ := t
  obtain ⟨l⟩ := d
  match l, h1 with
  | [b], _ => exact ⟨b, rfl⟩
theorem tst_cases (t : ByteArray) : t = ⟨#[40]⟩ ∨ t = ⟨#[91]⟩ ∨ t = ⟨#[97]⟩ ∨ t = ⟨#[98]⟩ ∨ t = ⟨#[42]⟩ ∨ t = ⟨#[46]⟩ ∨ testB t = false := by
  by_cases h : t.size = 1
  · obtain ⟨b, rfl⟩ := one_byte h
    by_cases hb : testB ⟨#[b]⟩ = true
    · simp only [testB, tstN, isTst, Bool.or_eq_true, beq_iff_eq] at hb
      have e : ∀ n : Nat, n < 256 → ((b.toNat : Int) = (n : Int)) → b = UInt8.ofNat n := fun n hn h => by
        apply UInt8.toNat_inj.1
        rw [UInt8.toNat_ofNat']
        omega
      have hh : (if (⟨#[b]⟩ : ByteArray).size = 1 then ((((⟨#[b]⟩ : ByteArray).data.toList.headD 0).toNat : Int)) else -1) = (b.toNat : Int) := rfl
      rw [hh] at hb
      rcases hb with ((((hb | hb) | hb) | hb) | hb) | hb
      · rw [e 40 (by omega) hb]; exact .inl rfl
      · rw [e 91 (by omega) hb]; exact .inr (.inl rfl)
      · rw [e 97 (by omega) hb]; exact .inr (.inr (.inl rfl))
      · rw [e 98 (by omega) hb]; exact .inr (.inr (.inr (.inl rfl)))
      · rw [e 42 (by omega) hb]; exact .inr (.inr (.inr (.inr (.inl rfl))))
      · rw [e 46 (by omega) hb]; exact .inr (.inr (.inr (.inr (.inr (.inl rfl)))))
    · exact .inr (.inr (.inr (.inr (.inr (.inr (by simpa using hb))))))
  · refine .inr (.inr (.inr (.inr (.inr (.inr ?_)))))
    simp [testB, tstN, h, isTst]
theorem tst_not {t : ByteArray} (h : testB t = false) (b : UInt8) (hb : isTst b.toNat = true) : (t.toList == [b]) = false := by
  rw [ba_toList]
  refine beq_eq_false_iff_ne.2 fun e => ?_
  have e2 : t = ⟨#[b]⟩ := by
    obtain ⟨⟨l⟩⟩ := t
    simp at e
    rw [e]
  subst e2
  have : testB ⟨#[b]⟩ = isTst b.toNat := rfl
  rw [this, hb] at h
  cases h
end Go.Proofs.Ytfaiifiohomdmaa
