/- readForRun and Takes of the program. -/
import Derived.Test.YtdehehdcjfaefadRunI
namespace Go.Proofs.Ytdehehdcjfaefad
open Go.RowKit
set_option linter.unusedVariables false

/-- What a checker and a word must be. -/
def GivenM (c : Ck) (s : ByteArray) : Prop := IsW s ∧ okM c = true
def ForNo (w : World) (e : Ending) (w' : World) : Prop := e = .returned (.tuple #[.agg #[.slice none 0 0, .slice none 0 0], .int .i64 1]) ∧ Below w.heap.size w w'
def ForYes (n : Nat) (l : List UInt8) (w : World) (e : Ending) (w' : World) : Prop :=
  ∃ g M, e = .returned (.tuple #[.agg #[.slice (some ⟨g, 0, none⟩) n n, .slice (some ⟨M, 0, none⟩) n n], .int .i64 0]) ∧
    w'.ownsRow w.heap.size 147 1 (.slice (some ⟨g, 0, none⟩) n n) n (symsV (symL l)) ∧ w'.ownsRow w.heap.size 2 1 (.slice (some ⟨M, 0, none⟩) n n) n (numsV (prts (ksOf l))) ∧ Below w.heap.size w w'

section
variable {base : Nat} {va vc vr vi : Value} {c : Ck} {bsC : List Nat}
end
end Go.Proofs.Ytdehehdcjfaefad
