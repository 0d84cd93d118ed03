/- symbolOf and readNested: a text of at most 60 symbols is read into their numbers and their partners, in new rows; any other text is refused. -/
import Derived.Test.YtfaiifiohomdmaaMatch
import Derived.Test.YtfaiifiohomdmaaShelf
import Derived.Defers
import Derived.Recover
import Derived.Tactics
import Derived.Tactics2
import Derived.Laws.Pointers
namespace Go.Proofs.Ytfaiifiohomdmaa
open Go.RowKit

theorem idx_sym (b : UInt8) : Lib.indexByte [40, 91, 41, 93, 97, 98] ((b.toNat : Int).toNat.toUInt8) = symNo b.toNat := by
  have e : ((b.toNat : Int).toNat.toUInt8) = b := by simp
  rw [e]
  by_cases h0 : b = 40
  · subst h0; rfl
  by_cases h1 : b = 91
  · subst h1; rfl
  by_cases h2 : b = 41
  · subst h2; rfl
  by_cases h3 : b = 93
  · subst h3; rfl
  by_cases h4 : b = 97
  · subst h4; rfl
  by_cases h5 : b = 98
  · subst h5; rfl
  have ne (k : UInt8) (h : ¬ b = k) : ¬ ((b.toNat : Int) = k.toNat) := fun e => h (UInt8.toNat_inj.1 (by omega))
  have n0 := ne _ h0
  have n1 := ne _ h1
  have n2 := ne _ h2
  have n3 := ne _ h3
  have n4 := ne _ h4
  have n5 := ne _ h5
  have f (k : UInt8) (h : ¬ b = k) : (k == b) = false := by simpa using fun e => h e.symm
  simp only [UInt8.reduceToNat] at n0 n1 n2 n3 n4 n5
  have r : symNo b.toNat = -1 := by
    unfold symNo
    rw [if_neg (by omega), if_neg (by omega), if_neg (by omega), if_neg (by omega), if_neg (by omega), if_neg (by omega)]
  rw [r]
  simp only [Lib.indexByte, f _ h0, f _ h1, f _ h2, f _ h3, f _ h4, f _ h5]
  rfl

theorem symNo_le (n : Int) : symNo n ≤ 5 := by unfold symNo; (repeat' split) <;> omega

end Go.Proofs.Ytfaiifiohomdmaa
