/-
  No cell of these rows narrows 'for every input' (looked for: loops, veiled, ifaces, maps, wideKeys, modest, calm, conditions, laid).
  DERIVED. THE GIVEN ROWS OF THIS SEAT. 6 by the template 'for every input the law returns true; each argument reads behind the call as it read before'; 0 by the template 'total and deterministic' (their statements: YthdjoligopmepabTotals.lean).
  GIVEN WITH THE SEED: the statements are not yours to turn. If you find one false, say at which input.
  Laid BY PROGRAM, IN A SANDBOX (cutbox-rows.mjs): the forced cells as the released guide's own fill.sh prints them over the translation 2afa22ab7f6b5566… (all of the seat's roots in one cut). By AI agents, Wed Nov 11 2026. No macro, syntax, notation, axiom, sorry.
-/
import Derived.Test.YthdjoligopmepabChecked
import GoSem.Claim
import GoSem.ClaimJoined
import GoSem.ClaimMapViews
import Derived.JoinedTies
import Derived.KernelRfl
namespace Go.Proofs.Ythdjoligopmepab
/- THE CELL 'sum', in the pinned program and in every row, IS THE sha256 OF THE DUMP (.gsa) THAT YthdjoligopmepabProg.lean LOADS. Nothing in Lean hashes anything: it is a label: what it is worth is what the hold of that sum in a sandbox is worth. -/
noncomputable def Try.pinned : Pinned := { name := "ythdjoligopmepab", sum := "2afa22ab7f6b5566796a7e9b9913f4a0de50ea3f28953e0a0bf7cdbfa0cadb9e", checked := Try.checked }
namespace Rows
def none {H : Type} : Left H := { results := [], args := [] }

/-- 'laws.FnExactGoOn': WHATEVER THE INPUT: true; the input reads as it did. -/
def fnExactGoOnSpec : ChangeSpec := { name := "fnExactGoOn", fn := fun _ => fun
  | [d1, d2, d3, d4] => { results := [.lit (.bool true)], args := [d1, d2, d3, d4] }
  | _ => none }
def fnExactGoOnRow : OpenClaim := { program := "ythdjoligopmepab", sum := "2afa22ab7f6b5566796a7e9b9913f4a0de50ea3f28953e0a0bf7cdbfa0cadb9e", func := "loop.example/g01145/laws.FnExactGoOn", spec := "fnExactGoOn", inPlace := ["internal/bytealg.IndexByteString"], unfollowed := true, recurses := true, apart := false }
def FnExactGoOnSaid : Prop := fnExactGoOnRow.holds Try.pinned (OpenSpec.ofChange fnExactGoOnSpec)

/-- ITS FALSE NEIGHBOUR: 'it returns false'. Refute it at one input. -/
def fnExactGoOnWrong : ChangeSpec := { name := "fnExactGoOn", fn := fun _ => fun
  | [d1, d2, d3, d4] => { results := [.lit (.bool false)], args := [d1, d2, d3, d4] }
  | _ => none }
def FnExactGoOnWrongFalsely : Prop := fnExactGoOnRow.holds Try.pinned (OpenSpec.ofChange fnExactGoOnWrong)

/-- 'laws.FnExactStacksOf': WHATEVER THE INPUT: true; the input reads as it did. -/
def fnExactStacksOfSpec : ChangeSpec := { name := "fnExactStacksOf", fn := fun _ => fun
  | [d1, d2] => { results := [.lit (.bool true)], args := [d1, d2] }
  | _ => none }
def fnExactStacksOfRow : OpenClaim := { program := "ythdjoligopmepab", sum := "2afa22ab7f6b5566796a7e9b9913f4a0de50ea3f28953e0a0bf7cdbfa0cadb9e", func := "loop.example/g01145/laws.FnExactStacksOf", spec := "fnExactStacksOf", inPlace := ["internal/bytealg.IndexByteString"], unfollowed := true, recurses := true, apart := false }
def FnExactStacksOfSaid : Prop := fnExactStacksOfRow.holds Try.pinned (OpenSpec.ofChange fnExactStacksOfSpec)

/-- ITS FALSE NEIGHBOUR: 'it returns false'. Refute it at one input. -/
def fnExactStacksOfWrong : ChangeSpec := { name := "fnExactStacksOf", fn := fun _ => fun
  | [d1, d2] => { results := [.lit (.bool false)], args := [d1, d2] }
  | _ => none }
def FnExactStacksOfWrongFalsely : Prop := fnExactStacksOfRow.holds Try.pinned (OpenSpec.ofChange fnExactStacksOfWrong)

/-- 'laws.FnExactUsedStates': WHATEVER THE INPUT: true; the input reads as it did. -/
def fnExactUsedStatesSpec : ChangeSpec := { name := "fnExactUsedStates", fn := fun _ => fun
  | [d] => { results := [.lit (.bool true)], args := [d] }
  | _ => none }
def fnExactUsedStatesRow : OpenClaim := { program := "ythdjoligopmepab", sum := "2afa22ab7f6b5566796a7e9b9913f4a0de50ea3f28953e0a0bf7cdbfa0cadb9e", func := "loop.example/g01145/laws.FnExactUsedStates", spec := "fnExactUsedStates", unfollowed := true, recurses := true, apart := false }
def FnExactUsedStatesSaid : Prop := fnExactUsedStatesRow.holds Try.pinned (OpenSpec.ofChange fnExactUsedStatesSpec)

/-- ITS FALSE NEIGHBOUR: 'it returns false'. Refute it at one input. -/
def fnExactUsedStatesWrong : ChangeSpec := { name := "fnExactUsedStates", fn := fun _ => fun
  | [d] => { results := [.lit (.bool false)], args := [d] }
  | _ => none }
def FnExactUsedStatesWrongFalsely : Prop := fnExactUsedStatesRow.holds Try.pinned (OpenSpec.ofChange fnExactUsedStatesWrong)

/-- 'laws.FnExactTrimChecker': WHATEVER THE INPUT: true; the input reads as it did. -/
def fnExactTrimCheckerSpec : ChangeSpec := { name := "fnExactTrimChecker", fn := fun _ => fun
  | [d] => { results := [.lit (.bool true)], args := [d] }
  | _ => none }
def fnExactTrimCheckerRow : OpenClaim := { program := "ythdjoligopmepab", sum := "2afa22ab7f6b5566796a7e9b9913f4a0de50ea3f28953e0a0bf7cdbfa0cadb9e", func := "loop.example/g01145/laws.FnExactTrimChecker", spec := "fnExactTrimChecker", unfollowed := true, recurses := true, apart := false }
def FnExactTrimCheckerSaid : Prop := fnExactTrimCheckerRow.holds Try.pinned (OpenSpec.ofChange fnExactTrimCheckerSpec)

/-- ITS FALSE NEIGHBOUR: 'it returns false'. Refute it at one input. -/
def fnExactTrimCheckerWrong : ChangeSpec := { name := "fnExactTrimChecker", fn := fun _ => fun
  | [d] => { results := [.lit (.bool false)], args := [d] }
  | _ => none }
def FnExactTrimCheckerWrongFalsely : Prop := fnExactTrimCheckerRow.holds Try.pinned (OpenSpec.ofChange fnExactTrimCheckerWrong)

/-- 'laws.FnExactBothCheckers': WHATEVER THE INPUT: true; the input reads as it did. -/
def fnExactBothCheckersSpec : ChangeSpec := { name := "fnExactBothCheckers", fn := fun _ => fun
  | [d1, d2] => { results := [.lit (.bool true)], args := [d1, d2] }
  | _ => none }
def fnExactBothCheckersRow : OpenClaim := { program := "ythdjoligopmepab", sum := "2afa22ab7f6b5566796a7e9b9913f4a0de50ea3f28953e0a0bf7cdbfa0cadb9e", func := "loop.example/g01145/laws.FnExactBothCheckers", spec := "fnExactBothCheckers", unfollowed := true, recurses := true, apart := false }
def FnExactBothCheckersSaid : Prop := fnExactBothCheckersRow.holds Try.pinned (OpenSpec.ofChange fnExactBothCheckersSpec)

/-- ITS FALSE NEIGHBOUR: 'it returns false'. Refute it at one input. -/
def fnExactBothCheckersWrong : ChangeSpec := { name := "fnExactBothCheckers", fn := fun _ => fun
  | [d1, d2] => { results := [.lit (.bool false)], args := [d1, d2] }
  | _ => none }
def FnExactBothCheckersWrongFalsely : Prop := fnExactBothCheckersRow.holds Try.pinned (OpenSpec.ofChange fnExactBothCheckersWrong)

/-- 'laws.FnExactEitherCheckers': WHATEVER THE INPUT: true; the input reads as it did. -/
def fnExactEitherCheckersSpec : ChangeSpec := { name := "fnExactEitherCheckers", fn := fun _ => fun
  | [d1, d2] => { results := [.lit (.bool true)], args := [d1, d2] }
  | _ => none }
def fnExactEitherCheckersRow : OpenClaim := { program := "ythdjoligopmepab", sum := "2afa22ab7f6b5566796a7e9b9913f4a0de50ea3f28953e0a0bf7cdbfa0cadb9e", func := "loop.example/g01145/laws.FnExactEitherCheckers", spec := "fnExactEitherCheckers", unfollowed := true, recurses := true, apart := false }
def FnExactEitherCheckersSaid : Prop := fnExactEitherCheckersRow.holds Try.pinned (OpenSpec.ofChange fnExactEitherCheckersSpec)

/-- ITS FALSE NEIGHBOUR: 'it returns false'. Refute it at one input. -/
def fnExactEitherCheckersWrong : ChangeSpec := { name := "fnExactEitherCheckers", fn := fun _ => fun
  | [d1, d2] => { results := [.lit (.bool false)], args := [d1, d2] }
  | _ => none }
def FnExactEitherCheckersWrongFalsely : Prop := fnExactEitherCheckersRow.holds Try.pinned (OpenSpec.ofChange fnExactEitherCheckersWrong)

/- THE SECOND FORM. 'bulk': how many values and letters a reading holds, each counted each time it is reached (what is shared counts as often as it is met; a slice's spare places count too). A statement '..UptoSaid' is the law's where the arguments, and the package variables that the reading takes, are together of bulk at most 1048576: NARROWER than '..Said'. Prove '..Said' where nothing that the law and all that it calls make is longer than what came in: it says more and counts as full. Else prove '..UptoSaid'. A law counts once. -/
mutual
def uptoBulk {H : Type} : DataW H → Nat
  | .lit (.string bytes) => bytes.length + 1
  | .lit _ => 1
  | .nil => 1
  | .ptr d => uptoBulk d + 1
  | .slice elems spare => uptoBulkAll elems + uptoBulkAll spare + 1
  | .agg parts => uptoBulkAll parts + 1
  | .iface _ d => uptoBulk d + 1
  | .map entries => uptoBulkEntries entries + 1
  | .held _ => 1
def uptoBulkAll {H : Type} : List (DataW H) → Nat
  | [] => 0
  | d :: r => uptoBulk d + uptoBulkAll r
def uptoBulkEntries {H : Type} : List (Lit × DataW H) → Nat
  | [] => 0
  | x :: r => uptoBulkEntry x + uptoBulkEntries r
def uptoBulkEntry {H : Type} : Lit × DataW H → Nat
  | (.string bytes, d) => bytes.length + uptoBulk d + 1
  | (_, d) => uptoBulk d + 1
 end
def uptoSmall : (H : Type) → List (DataW H) → Bool := fun _ ds => decide (uptoBulkAll ds ≤ 1048576)
def OpenSpec.upto (s : _root_.Go.ChangeSpec) : _root_.Go.OpenSpec := { _root_.Go.OpenSpec.ofChange s with cond := some uptoSmall }

/-- 'laws.FnExactGoOn', WHERE WHAT IT READS IS OF BULK AT MOST 1048576: true; the input reads as it did. -/
def fnExactGoOnUptoRow : OpenClaim := { program := "ythdjoligopmepab", sum := "2afa22ab7f6b5566796a7e9b9913f4a0de50ea3f28953e0a0bf7cdbfa0cadb9e", func := "loop.example/g01145/laws.FnExactGoOn", spec := "fnExactGoOn", inPlace := ["internal/bytealg.IndexByteString"], unfollowed := true, recurses := true, apart := false, narrowed := true }
def FnExactGoOnUptoSaid : Prop := fnExactGoOnUptoRow.holds Try.pinned (OpenSpec.upto fnExactGoOnSpec)

/-- 'laws.FnExactStacksOf', WHERE WHAT IT READS IS OF BULK AT MOST 1048576: true; the input reads as it did. -/
def fnExactStacksOfUptoRow : OpenClaim := { program := "ythdjoligopmepab", sum := "2afa22ab7f6b5566796a7e9b9913f4a0de50ea3f28953e0a0bf7cdbfa0cadb9e", func := "loop.example/g01145/laws.FnExactStacksOf", spec := "fnExactStacksOf", inPlace := ["internal/bytealg.IndexByteString"], unfollowed := true, recurses := true, apart := false, narrowed := true }
def FnExactStacksOfUptoSaid : Prop := fnExactStacksOfUptoRow.holds Try.pinned (OpenSpec.upto fnExactStacksOfSpec)

/-- 'laws.FnExactUsedStates', WHERE WHAT IT READS IS OF BULK AT MOST 1048576: true; the input reads as it did. -/
def fnExactUsedStatesUptoRow : OpenClaim := { program := "ythdjoligopmepab", sum := "2afa22ab7f6b5566796a7e9b9913f4a0de50ea3f28953e0a0bf7cdbfa0cadb9e", func := "loop.example/g01145/laws.FnExactUsedStates", spec := "fnExactUsedStates", unfollowed := true, recurses := true, apart := false, narrowed := true }
def FnExactUsedStatesUptoSaid : Prop := fnExactUsedStatesUptoRow.holds Try.pinned (OpenSpec.upto fnExactUsedStatesSpec)

/-- 'laws.FnExactTrimChecker', WHERE WHAT IT READS IS OF BULK AT MOST 1048576: true; the input reads as it did. -/
def fnExactTrimCheckerUptoRow : OpenClaim := { program := "ythdjoligopmepab", sum := "2afa22ab7f6b5566796a7e9b9913f4a0de50ea3f28953e0a0bf7cdbfa0cadb9e", func := "loop.example/g01145/laws.FnExactTrimChecker", spec := "fnExactTrimChecker", unfollowed := true, recurses := true, apart := false, narrowed := true }
def FnExactTrimCheckerUptoSaid : Prop := fnExactTrimCheckerUptoRow.holds Try.pinned (OpenSpec.upto fnExactTrimCheckerSpec)

/-- 'laws.FnExactBothCheckers', WHERE WHAT IT READS IS OF BULK AT MOST 1048576: true; the input reads as it did. -/
def fnExactBothCheckersUptoRow : OpenClaim := { program := "ythdjoligopmepab", sum := "2afa22ab7f6b5566796a7e9b9913f4a0de50ea3f28953e0a0bf7cdbfa0cadb9e", func := "loop.example/g01145/laws.FnExactBothCheckers", spec := "fnExactBothCheckers", unfollowed := true, recurses := true, apart := false, narrowed := true }
def FnExactBothCheckersUptoSaid : Prop := fnExactBothCheckersUptoRow.holds Try.pinned (OpenSpec.upto fnExactBothCheckersSpec)

/-- 'laws.FnExactEitherCheckers', WHERE WHAT IT READS IS OF BULK AT MOST 1048576: true; the input reads as it did. -/
def fnExactEitherCheckersUptoRow : OpenClaim := { program := "ythdjoligopmepab", sum := "2afa22ab7f6b5566796a7e9b9913f4a0de50ea3f28953e0a0bf7cdbfa0cadb9e", func := "loop.example/g01145/laws.FnExactEitherCheckers", spec := "fnExactEitherCheckers", unfollowed := true, recurses := true, apart := false, narrowed := true }
def FnExactEitherCheckersUptoSaid : Prop := fnExactEitherCheckersUptoRow.holds Try.pinned (OpenSpec.upto fnExactEitherCheckersSpec)

end Rows
end Go.Proofs.Ythdjoligopmepab
