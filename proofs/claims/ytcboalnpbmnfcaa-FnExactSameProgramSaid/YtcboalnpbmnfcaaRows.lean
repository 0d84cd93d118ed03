/-
  No cell of these rows narrows 'for every input' (looked for: loops, veiled, ifaces, maps, wideKeys, modest, calm, conditions, laid).
  DERIVED. THE GIVEN ROWS OF THIS SEAT. 7 by the template 'for every input the law returns true; each argument reads behind the call as it read before'; 0 by the template 'total and deterministic' (their statements: YtcboalnpbmnfcaaTotals.lean).
  GIVEN WITH THE SEED: the statements are not yours to turn. If you find one false, say at which input.
  Laid BY PROGRAM, IN A SANDBOX (cutbox-rows.mjs): the forced cells as the released guide's own fill.sh prints them over the translation 27d15a652f837007… (all of the seat's roots in one cut). By AI agents, Wed Nov 11 2026. No macro, syntax, notation, axiom, sorry.
-/
import Derived.Test.YtcboalnpbmnfcaaChecked
import GoSem.Claim
import GoSem.ClaimJoined
import GoSem.ClaimMapViews
import Derived.JoinedTies
import Derived.KernelRfl
namespace Go.Proofs.Ytcboalnpbmnfcaa
/- THE CELL 'sum', in the pinned program and in every row, IS THE sha256 OF THE DUMP (.gsa) THAT YtcboalnpbmnfcaaProg.lean LOADS. Nothing in Lean hashes anything: it is a label: what it is worth is what the hold of that sum in a sandbox is worth. -/
noncomputable def Try.pinned : Pinned := { name := "ytcboalnpbmnfcaa", sum := "27d15a652f8370079b06f7790cdf797890ee8d337d97915c9c16bbcdea248227", checked := Try.checked }
namespace Rows
def none {H : Type} : Left H := { results := [], args := [] }

/-- 'laws.FnExactTakes': WHATEVER THE INPUT: true; the input reads as it did. -/
def fnExactTakesSpec : ChangeSpec := { name := "fnExactTakes", fn := fun _ => fun
  | [d1, d2] => { results := [.lit (.bool true)], args := [d1, d2] }
  | _ => none }
def fnExactTakesRow : OpenClaim := { program := "ytcboalnpbmnfcaa", sum := "27d15a652f8370079b06f7790cdf797890ee8d337d97915c9c16bbcdea248227", func := "loop.example/g01145/laws.FnExactTakes", spec := "fnExactTakes", inPlace := ["internal/bytealg.IndexByteString"], unfollowed := true, recurses := true, apart := false }
def FnExactTakesSaid : Prop := fnExactTakesRow.holds Try.pinned (OpenSpec.ofChange fnExactTakesSpec)

/-- ITS FALSE NEIGHBOUR: 'it returns false'. Refute it at one input. -/
def fnExactTakesWrong : ChangeSpec := { name := "fnExactTakes", fn := fun _ => fun
  | [d1, d2] => { results := [.lit (.bool false)], args := [d1, d2] }
  | _ => none }
def FnExactTakesWrongFalsely : Prop := fnExactTakesRow.holds Try.pinned (OpenSpec.ofChange fnExactTakesWrong)

/-- 'laws.FnExactTellsApart': WHATEVER THE INPUT: true; the input reads as it did. -/
def fnExactTellsApartSpec : ChangeSpec := { name := "fnExactTellsApart", fn := fun _ => fun
  | [d1, d2, d3, d4] => { results := [.lit (.bool true)], args := [d1, d2, d3, d4] }
  | _ => none }
def fnExactTellsApartRow : OpenClaim := { program := "ytcboalnpbmnfcaa", sum := "27d15a652f8370079b06f7790cdf797890ee8d337d97915c9c16bbcdea248227", func := "loop.example/g01145/laws.FnExactTellsApart", spec := "fnExactTellsApart", inPlace := ["internal/bytealg.IndexByteString"], unfollowed := true, recurses := true, apart := false }
def FnExactTellsApartSaid : Prop := fnExactTellsApartRow.holds Try.pinned (OpenSpec.ofChange fnExactTellsApartSpec)

/-- ITS FALSE NEIGHBOUR: 'it returns false'. Refute it at one input. -/
def fnExactTellsApartWrong : ChangeSpec := { name := "fnExactTellsApart", fn := fun _ => fun
  | [d1, d2, d3, d4] => { results := [.lit (.bool false)], args := [d1, d2, d3, d4] }
  | _ => none }
def FnExactTellsApartWrongFalsely : Prop := fnExactTellsApartRow.holds Try.pinned (OpenSpec.ofChange fnExactTellsApartWrong)

/-- 'laws.FnExactBothCheckers': WHATEVER THE INPUT: true; the input reads as it did. -/
def fnExactBothCheckersSpec : ChangeSpec := { name := "fnExactBothCheckers", fn := fun _ => fun
  | [d1, d2] => { results := [.lit (.bool true)], args := [d1, d2] }
  | _ => none }
def fnExactBothCheckersRow : OpenClaim := { program := "ytcboalnpbmnfcaa", sum := "27d15a652f8370079b06f7790cdf797890ee8d337d97915c9c16bbcdea248227", func := "loop.example/g01145/laws.FnExactBothCheckers", spec := "fnExactBothCheckers", unfollowed := true, recurses := true, apart := false }
def FnExactBothCheckersSaid : Prop := fnExactBothCheckersRow.holds Try.pinned (OpenSpec.ofChange fnExactBothCheckersSpec)

/-- ITS FALSE NEIGHBOUR: 'it returns false'. Refute it at one input. -/
def fnExactBothCheckersWrong : ChangeSpec := { name := "fnExactBothCheckers", fn := fun _ => fun
  | [d1, d2] => { results := [.lit (.bool false)], args := [d1, d2] }
  | _ => none }
def FnExactBothCheckersWrongFalsely : Prop := fnExactBothCheckersRow.holds Try.pinned (OpenSpec.ofChange fnExactBothCheckersWrong)

/-- 'laws.FnExactEitherCheckers': WHATEVER THE INPUT: true; the input reads as it did. -/
def fnExactEitherCheckersSpec : ChangeSpec := { name := "fnExactEitherCheckers", fn := fun _ => fun
  | [d1, d2] => { results := [.lit (.bool true)], args := [d1, d2] }
  | _ => none }
def fnExactEitherCheckersRow : OpenClaim := { program := "ytcboalnpbmnfcaa", sum := "27d15a652f8370079b06f7790cdf797890ee8d337d97915c9c16bbcdea248227", func := "loop.example/g01145/laws.FnExactEitherCheckers", spec := "fnExactEitherCheckers", unfollowed := true, recurses := true, apart := false }
def FnExactEitherCheckersSaid : Prop := fnExactEitherCheckersRow.holds Try.pinned (OpenSpec.ofChange fnExactEitherCheckersSpec)

/-- ITS FALSE NEIGHBOUR: 'it returns false'. Refute it at one input. -/
def fnExactEitherCheckersWrong : ChangeSpec := { name := "fnExactEitherCheckers", fn := fun _ => fun
  | [d1, d2] => { results := [.lit (.bool false)], args := [d1, d2] }
  | _ => none }
def FnExactEitherCheckersWrongFalsely : Prop := fnExactEitherCheckersRow.holds Try.pinned (OpenSpec.ofChange fnExactEitherCheckersWrong)

/-- 'laws.FnExactValidChoices': WHATEVER THE INPUT: true; the input reads as it did. -/
def fnExactValidChoicesSpec : ChangeSpec := { name := "fnExactValidChoices", fn := fun _ => fun
  | [d] => { results := [.lit (.bool true)], args := [d] }
  | _ => none }
def fnExactValidChoicesRow : OpenClaim := { program := "ytcboalnpbmnfcaa", sum := "27d15a652f8370079b06f7790cdf797890ee8d337d97915c9c16bbcdea248227", func := "loop.example/g01145/laws.FnExactValidChoices", spec := "fnExactValidChoices", unfollowed := true, recurses := true, apart := false }
def FnExactValidChoicesSaid : Prop := fnExactValidChoicesRow.holds Try.pinned (OpenSpec.ofChange fnExactValidChoicesSpec)

/-- ITS FALSE NEIGHBOUR: 'it returns false'. Refute it at one input. -/
def fnExactValidChoicesWrong : ChangeSpec := { name := "fnExactValidChoices", fn := fun _ => fun
  | [d] => { results := [.lit (.bool false)], args := [d] }
  | _ => none }
def FnExactValidChoicesWrongFalsely : Prop := fnExactValidChoicesRow.holds Try.pinned (OpenSpec.ofChange fnExactValidChoicesWrong)

/-- 'laws.FnExactChoicesOf': WHATEVER THE INPUT: true; the input reads as it did. -/
def fnExactChoicesOfSpec : ChangeSpec := { name := "fnExactChoicesOf", fn := fun _ => fun
  | [d] => { results := [.lit (.bool true)], args := [d] }
  | _ => none }
def fnExactChoicesOfRow : OpenClaim := { program := "ytcboalnpbmnfcaa", sum := "27d15a652f8370079b06f7790cdf797890ee8d337d97915c9c16bbcdea248227", func := "loop.example/g01145/laws.FnExactChoicesOf", spec := "fnExactChoicesOf", unfollowed := true, recurses := true, apart := false }
def FnExactChoicesOfSaid : Prop := fnExactChoicesOfRow.holds Try.pinned (OpenSpec.ofChange fnExactChoicesOfSpec)

/-- ITS FALSE NEIGHBOUR: 'it returns false'. Refute it at one input. -/
def fnExactChoicesOfWrong : ChangeSpec := { name := "fnExactChoicesOf", fn := fun _ => fun
  | [d] => { results := [.lit (.bool false)], args := [d] }
  | _ => none }
def FnExactChoicesOfWrongFalsely : Prop := fnExactChoicesOfRow.holds Try.pinned (OpenSpec.ofChange fnExactChoicesOfWrong)

/-- 'laws.FnExactSameProgram': WHATEVER THE INPUT: true; the input reads as it did. -/
def fnExactSameProgramSpec : ChangeSpec := { name := "fnExactSameProgram", fn := fun _ => fun
  | [d1, d2] => { results := [.lit (.bool true)], args := [d1, d2] }
  | _ => none }
def fnExactSameProgramRow : OpenClaim := { program := "ytcboalnpbmnfcaa", sum := "27d15a652f8370079b06f7790cdf797890ee8d337d97915c9c16bbcdea248227", func := "loop.example/g01145/laws.FnExactSameProgram", spec := "fnExactSameProgram", unfollowed := true, recurses := true, apart := false }
def FnExactSameProgramSaid : Prop := fnExactSameProgramRow.holds Try.pinned (OpenSpec.ofChange fnExactSameProgramSpec)

/-- ITS FALSE NEIGHBOUR: 'it returns false'. Refute it at one input. -/
def fnExactSameProgramWrong : ChangeSpec := { name := "fnExactSameProgram", fn := fun _ => fun
  | [d1, d2] => { results := [.lit (.bool false)], args := [d1, d2] }
  | _ => none }
def FnExactSameProgramWrongFalsely : Prop := fnExactSameProgramRow.holds Try.pinned (OpenSpec.ofChange fnExactSameProgramWrong)

/- THE SECOND FORM. 'bulk': how many values and letters a reading holds, each counted each time it is reached (what is shared counts as often as it is met; a slice's spare places count too). A statement '..UptoSaid' is the law's where the arguments, and the package variables that the reading takes, are together of bulk at most 1048576: NARROWER than '..Said'. Prove '..Said' where nothing that the law and all that it calls make is longer than what came in: it says more and counts as full. Else prove '..UptoSaid'. A law counts once. -/
mutual
def uptoBulk {H : Type} : DataW H → Nat
  | .lit (.string bytes) => bytes.length + 1
  | .lit _ => 1
  | .nil => 1
  | .ptr d => uptoBulk d + 1
  | .slice elems spare => uptoBulkAll elems + uptoBulkAll spare + 1
  | .agg parts => uptoBulkAll parts + 1
  | .iface _ d => uptoBulk d + 1
  | .map entries => uptoBulkEntries entries + 1
  | .held _ => 1
def uptoBulkAll {H : Type} : List (DataW H) → Nat
  | [] => 0
  | d :: r => uptoBulk d + uptoBulkAll r
def uptoBulkEntries {H : Type} : List (Lit × DataW H) → Nat
  | [] => 0
  | x :: r => uptoBulkEntry x + uptoBulkEntries r
def uptoBulkEntry {H : Type} : Lit × DataW H → Nat
  | (.string bytes, d) => bytes.length + uptoBulk d + 1
  | (_, d) => uptoBulk d + 1
 end
def uptoSmall : (H : Type) → List (DataW H) → Bool := fun _ ds => decide (uptoBulkAll ds ≤ 1048576)
def OpenSpec.upto (s : _root_.Go.ChangeSpec) : _root_.Go.OpenSpec := { _root_.Go.OpenSpec.ofChange s with cond := some uptoSmall }

/-- 'laws.FnExactTakes', WHERE WHAT IT READS IS OF BULK AT MOST 1048576: true; the input reads as it did. -/
def fnExactTakesUptoRow : OpenClaim := { program := "ytcboalnpbmnfcaa", sum := "27d15a652f8370079b06f7790cdf797890ee8d337d97915c9c16bbcdea248227", func := "loop.example/g01145/laws.FnExactTakes", spec := "fnExactTakes", inPlace := ["internal/bytealg.IndexByteString"], unfollowed := true, recurses := true, apart := false, narrowed := true }
def FnExactTakesUptoSaid : Prop := fnExactTakesUptoRow.holds Try.pinned (OpenSpec.upto fnExactTakesSpec)

/-- 'laws.FnExactTellsApart', WHERE WHAT IT READS IS OF BULK AT MOST 1048576: true; the input reads as it did. -/
def fnExactTellsApartUptoRow : OpenClaim := { program := "ytcboalnpbmnfcaa", sum := "27d15a652f8370079b06f7790cdf797890ee8d337d97915c9c16bbcdea248227", func := "loop.example/g01145/laws.FnExactTellsApart", spec := "fnExactTellsApart", inPlace := ["internal/bytealg.IndexByteString"], unfollowed := true, recurses := true, apart := false, narrowed := true }
def FnExactTellsApartUptoSaid : Prop := fnExactTellsApartUptoRow.holds Try.pinned (OpenSpec.upto fnExactTellsApartSpec)

/-- 'laws.FnExactBothCheckers', WHERE WHAT IT READS IS OF BULK AT MOST 1048576: true; the input reads as it did. -/
def fnExactBothCheckersUptoRow : OpenClaim := { program := "ytcboalnpbmnfcaa", sum := "27d15a652f8370079b06f7790cdf797890ee8d337d97915c9c16bbcdea248227", func := "loop.example/g01145/laws.FnExactBothCheckers", spec := "fnExactBothCheckers", unfollowed := true, recurses := true, apart := false, narrowed := true }
def FnExactBothCheckersUptoSaid : Prop := fnExactBothCheckersUptoRow.holds Try.pinned (OpenSpec.upto fnExactBothCheckersSpec)

/-- 'laws.FnExactEitherCheckers', WHERE WHAT IT READS IS OF BULK AT MOST 1048576: true; the input reads as it did. -/
def fnExactEitherCheckersUptoRow : OpenClaim := { program := "ytcboalnpbmnfcaa", sum := "27d15a652f8370079b06f7790cdf797890ee8d337d97915c9c16bbcdea248227", func := "loop.example/g01145/laws.FnExactEitherCheckers", spec := "fnExactEitherCheckers", unfollowed := true, recurses := true, apart := false, narrowed := true }
def FnExactEitherCheckersUptoSaid : Prop := fnExactEitherCheckersUptoRow.holds Try.pinned (OpenSpec.upto fnExactEitherCheckersSpec)

/-- 'laws.FnExactValidChoices', WHERE WHAT IT READS IS OF BULK AT MOST 1048576: true; the input reads as it did. -/
def fnExactValidChoicesUptoRow : OpenClaim := { program := "ytcboalnpbmnfcaa", sum := "27d15a652f8370079b06f7790cdf797890ee8d337d97915c9c16bbcdea248227", func := "loop.example/g01145/laws.FnExactValidChoices", spec := "fnExactValidChoices", unfollowed := true, recurses := true, apart := false, narrowed := true }
def FnExactValidChoicesUptoSaid : Prop := fnExactValidChoicesUptoRow.holds Try.pinned (OpenSpec.upto fnExactValidChoicesSpec)

/-- 'laws.FnExactChoicesOf', WHERE WHAT IT READS IS OF BULK AT MOST 1048576: true; the input reads as it did. -/
def fnExactChoicesOfUptoRow : OpenClaim := { program := "ytcboalnpbmnfcaa", sum := "27d15a652f8370079b06f7790cdf797890ee8d337d97915c9c16bbcdea248227", func := "loop.example/g01145/laws.FnExactChoicesOf", spec := "fnExactChoicesOf", unfollowed := true, recurses := true, apart := false, narrowed := true }
def FnExactChoicesOfUptoSaid : Prop := fnExactChoicesOfUptoRow.holds Try.pinned (OpenSpec.upto fnExactChoicesOfSpec)

/-- 'laws.FnExactSameProgram', WHERE WHAT IT READS IS OF BULK AT MOST 1048576: true; the input reads as it did. -/
def fnExactSameProgramUptoRow : OpenClaim := { program := "ytcboalnpbmnfcaa", sum := "27d15a652f8370079b06f7790cdf797890ee8d337d97915c9c16bbcdea248227", func := "loop.example/g01145/laws.FnExactSameProgram", spec := "fnExactSameProgram", unfollowed := true, recurses := true, apart := false, narrowed := true }
def FnExactSameProgramUptoSaid : Prop := fnExactSameProgramUptoRow.holds Try.pinned (OpenSpec.upto fnExactSameProgramSpec)

end Rows
end Go.Proofs.Ytcboalnpbmnfcaa
