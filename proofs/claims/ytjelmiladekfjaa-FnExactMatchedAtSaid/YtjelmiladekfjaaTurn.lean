/- TurnWord, of the model and of the program. -/
import Derived.Test.YtjelmiladekfjaaWord
import Derived.Laws.IdiomStrings
namespace Go.Proofs.Ytjelmiladekfjaa
open Go.RowKit

theorem valid_byte {b : UInt8} (h : 0 ≤ symNo (b.toNat : Int)) : b = 40 ∨ b = 91 ∨ b = 41 ∨ b = 93 ∨ b = 97 ∨ b = 98 := by
  unfold symNo at h
  have f (k : UInt8) (e : (b.toNat : Int) = k.toNat) : b = k := UInt8.toNat_inj.1 (by omega)
  by_cases h0 : (b.toNat : Int) = 40
  · exact .inl (f 40 h0)
  by_cases h1 : (b.toNat : Int) = 91
  · exact .inr (.inl (f 91 h1))
  by_cases h2 : (b.toNat : Int) = 41
  · exact .inr (.inr (.inl (f 41 h2)))
  by_cases h3 : (b.toNat : Int) = 93
  · exact .inr (.inr (.inr (.inl (f 93 h3))))
  by_cases h4 : (b.toNat : Int) = 97
  · exact .inr (.inr (.inr (.inr (.inl (f 97 h4)))))
  by_cases h5 : (b.toNat : Int) = 98
  · exact .inr (.inr (.inr (.inr (.inr (f 98 h5)))))
  rw [if_neg h0, if_neg h1, if_neg h2, if_neg h3, if_neg h4, if_neg h5] at h
  omega

def turnB (b : UInt8) : UInt8 := byteOf (turnS (symNo b.toNat))
theorem other_turn {b : UInt8} (h : 0 ≤ symNo (b.toNat : Int)) : otherB b.toNat = ((turnB b).toNat : Int) := by
  rcases valid_byte h with rfl | rfl | rfl | rfl | rfl | rfl <;> rfl
theorem turnS_ok {n : Int} (h : 0 ≤ n ∧ n ≤ 5) : 0 ≤ turnS n ∧ turnS n ≤ 5 := by
  rcases six n h with rfl | rfl | rfl | rfl | rfl | rfl <;> decide

def bytesV (l : List UInt8) : List Value := l.map fun b => Value.int .u8 (b.toNat : Int)
theorem info_u8 : (Try.prog.info? 5).map (fun i => (i.zero, i.size, i.bytes)) = some (some (.int .u8 0), 1, 1) := by kernel_rfl

theorem convert_row {w : World} {base g n c : Nat} {l : List UInt8} (h : w.ownsRow base 5 1 (.slice (some ⟨g, 0, none⟩) n c) n (bytesV l)) :
    (convert 35 9 (.slice (some ⟨g, 0, none⟩) n c)).run Try.prog w = .ok (.string ⟨l.toArray⟩) w := by
  have hl : l.length = n := by have := h.1; simpa [bytesV] using this
  subst hl
  refine run_convert_bytes_back w 35 9 5 ⟨g, 0, none⟩ c l Try.underlying35 Try.underlying5 Try.underlying9 fun j hj => ?_
  have h1 := h.cellAt j (by omega)
  have e : (⟨g, 0, none⟩ : Addr).add j = ⟨g, j, none⟩ := by unfold Addr.add; split <;> simp_all
  rw [e, h1]
  simp [bytesV, List.getElem?_eq_getElem hj]

theorem symsV_at {w : World} {base g n c : Nat} {l : List UInt8} (h : w.ownsRow base 59 1 (.slice (some ⟨g, 0, none⟩) n c) n (symsV (symL l))) (k : Nat) (b : UInt8) (hb : l[k]? = some b) (hk : k < n) :
    w.cell? ⟨g, k, none⟩ = some (.int .u8 (symNo b.toNat)) := by
  rw [h.cellAt k (by omega)]
  simp [symsV, symL, hb]

end Go.Proofs.Ytjelmiladekfjaa
