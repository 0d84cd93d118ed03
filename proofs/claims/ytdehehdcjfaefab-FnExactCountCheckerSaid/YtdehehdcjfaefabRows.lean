/-
  No cell of these rows narrows 'for every input' (looked for: loops, veiled, ifaces, maps, wideKeys, modest, calm, conditions, laid).
  DERIVED. THE GIVEN ROWS OF THIS SEAT. 7 by the template 'for every input the law returns true; each argument reads behind the call as it read before'; 0 by the template 'total and deterministic' (their statements: YtdehehdcjfaefabTotals.lean).
  GIVEN WITH THE SEED: the statements are not yours to turn. If you find one false, say at which input.
  Laid BY PROGRAM, IN A SANDBOX (cutbox-rows.mjs): the forced cells as the released guide's own fill.sh prints them over the translation 6b780088f92bc3cc… (all of the seat's roots in one cut). By AI agents, Wed Nov 11 2026. No macro, syntax, notation, axiom, sorry.
-/
import Derived.Test.YtdehehdcjfaefabChecked
import GoSem.Claim
import GoSem.ClaimJoined
import GoSem.ClaimMapViews
import Derived.JoinedTies
import Derived.KernelRfl
namespace Go.Proofs.Ytdehehdcjfaefab
/- THE CELL 'sum', in the pinned program and in every row, IS THE sha256 OF THE DUMP (.gsa) THAT YtdehehdcjfaefabProg.lean LOADS. Nothing in Lean hashes anything: it is a label: what it is worth is what the hold of that sum in a sandbox is worth. -/
noncomputable def Try.pinned : Pinned := { name := "ytdehehdcjfaefab", sum := "6b780088f92bc3cc964f46522c456975c4326dc8b37985d1ebd2fc9211579fc3", checked := Try.checked }
namespace Rows
def none {H : Type} : Left H := { results := [], args := [] }

/-- 'laws.FnExactOppositeChecker': WHATEVER THE INPUT: true; the input reads as it did. -/
def fnExactOppositeCheckerSpec : ChangeSpec := { name := "fnExactOppositeChecker", fn := fun _ => fun
  | [d] => { results := [.lit (.bool true)], args := [d] }
  | _ => none }
def fnExactOppositeCheckerRow : OpenClaim := { program := "ytdehehdcjfaefab", sum := "6b780088f92bc3cc964f46522c456975c4326dc8b37985d1ebd2fc9211579fc3", func := "loop.example/g01145/laws.FnExactOppositeChecker", spec := "fnExactOppositeChecker", unfollowed := true, recurses := true, apart := false }
def FnExactOppositeCheckerSaid : Prop := fnExactOppositeCheckerRow.holds Try.pinned (OpenSpec.ofChange fnExactOppositeCheckerSpec)

/-- ITS FALSE NEIGHBOUR: 'it returns false'. Refute it at one input. -/
def fnExactOppositeCheckerWrong : ChangeSpec := { name := "fnExactOppositeChecker", fn := fun _ => fun
  | [d] => { results := [.lit (.bool false)], args := [d] }
  | _ => none }
def FnExactOppositeCheckerWrongFalsely : Prop := fnExactOppositeCheckerRow.holds Try.pinned (OpenSpec.ofChange fnExactOppositeCheckerWrong)

/-- 'laws.FnExactTrimChecker': WHATEVER THE INPUT: true; the input reads as it did. -/
def fnExactTrimCheckerSpec : ChangeSpec := { name := "fnExactTrimChecker", fn := fun _ => fun
  | [d] => { results := [.lit (.bool true)], args := [d] }
  | _ => none }
def fnExactTrimCheckerRow : OpenClaim := { program := "ytdehehdcjfaefab", sum := "6b780088f92bc3cc964f46522c456975c4326dc8b37985d1ebd2fc9211579fc3", func := "loop.example/g01145/laws.FnExactTrimChecker", spec := "fnExactTrimChecker", unfollowed := true, recurses := true, apart := false }
def FnExactTrimCheckerSaid : Prop := fnExactTrimCheckerRow.holds Try.pinned (OpenSpec.ofChange fnExactTrimCheckerSpec)

/-- ITS FALSE NEIGHBOUR: 'it returns false'. Refute it at one input. -/
def fnExactTrimCheckerWrong : ChangeSpec := { name := "fnExactTrimChecker", fn := fun _ => fun
  | [d] => { results := [.lit (.bool false)], args := [d] }
  | _ => none }
def FnExactTrimCheckerWrongFalsely : Prop := fnExactTrimCheckerRow.holds Try.pinned (OpenSpec.ofChange fnExactTrimCheckerWrong)

/-- 'laws.FnExactUsedStates': WHATEVER THE INPUT: true; the input reads as it did. -/
def fnExactUsedStatesSpec : ChangeSpec := { name := "fnExactUsedStates", fn := fun _ => fun
  | [d] => { results := [.lit (.bool true)], args := [d] }
  | _ => none }
def fnExactUsedStatesRow : OpenClaim := { program := "ytdehehdcjfaefab", sum := "6b780088f92bc3cc964f46522c456975c4326dc8b37985d1ebd2fc9211579fc3", func := "loop.example/g01145/laws.FnExactUsedStates", spec := "fnExactUsedStates", unfollowed := true, recurses := true, apart := false }
def FnExactUsedStatesSaid : Prop := fnExactUsedStatesRow.holds Try.pinned (OpenSpec.ofChange fnExactUsedStatesSpec)

/-- ITS FALSE NEIGHBOUR: 'it returns false'. Refute it at one input. -/
def fnExactUsedStatesWrong : ChangeSpec := { name := "fnExactUsedStates", fn := fun _ => fun
  | [d] => { results := [.lit (.bool false)], args := [d] }
  | _ => none }
def FnExactUsedStatesWrongFalsely : Prop := fnExactUsedStatesRow.holds Try.pinned (OpenSpec.ofChange fnExactUsedStatesWrong)

/-- 'laws.FnExactDepthChecker': WHATEVER THE INPUT: true; the input reads as it did. -/
def fnExactDepthCheckerSpec : ChangeSpec := { name := "fnExactDepthChecker", fn := fun _ => fun
  | [d] => { results := [.lit (.bool true)], args := [d] }
  | _ => none }
def fnExactDepthCheckerRow : OpenClaim := { program := "ytdehehdcjfaefab", sum := "6b780088f92bc3cc964f46522c456975c4326dc8b37985d1ebd2fc9211579fc3", func := "loop.example/g01145/laws.FnExactDepthChecker", spec := "fnExactDepthChecker", unfollowed := true, recurses := true, apart := false }
def FnExactDepthCheckerSaid : Prop := fnExactDepthCheckerRow.holds Try.pinned (OpenSpec.ofChange fnExactDepthCheckerSpec)

/-- ITS FALSE NEIGHBOUR: 'it returns false'. Refute it at one input. -/
def fnExactDepthCheckerWrong : ChangeSpec := { name := "fnExactDepthChecker", fn := fun _ => fun
  | [d] => { results := [.lit (.bool false)], args := [d] }
  | _ => none }
def FnExactDepthCheckerWrongFalsely : Prop := fnExactDepthCheckerRow.holds Try.pinned (OpenSpec.ofChange fnExactDepthCheckerWrong)

/-- 'laws.FnExactCountChecker': WHATEVER THE INPUT: true; the input reads as it did. -/
def fnExactCountCheckerSpec : ChangeSpec := { name := "fnExactCountChecker", fn := fun _ => fun
  | [d1, d2] => { results := [.lit (.bool true)], args := [d1, d2] }
  | _ => none }
def fnExactCountCheckerRow : OpenClaim := { program := "ytdehehdcjfaefab", sum := "6b780088f92bc3cc964f46522c456975c4326dc8b37985d1ebd2fc9211579fc3", func := "loop.example/g01145/laws.FnExactCountChecker", spec := "fnExactCountChecker", inPlace := ["internal/bytealg.IndexByteString"], unfollowed := true, recurses := true, apart := false }
def FnExactCountCheckerSaid : Prop := fnExactCountCheckerRow.holds Try.pinned (OpenSpec.ofChange fnExactCountCheckerSpec)

/-- ITS FALSE NEIGHBOUR: 'it returns false'. Refute it at one input. -/
def fnExactCountCheckerWrong : ChangeSpec := { name := "fnExactCountChecker", fn := fun _ => fun
  | [d1, d2] => { results := [.lit (.bool false)], args := [d1, d2] }
  | _ => none }
def FnExactCountCheckerWrongFalsely : Prop := fnExactCountCheckerRow.holds Try.pinned (OpenSpec.ofChange fnExactCountCheckerWrong)

/-- 'laws.FnExactBothCheckers': WHATEVER THE INPUT: true; the input reads as it did. -/
def fnExactBothCheckersSpec : ChangeSpec := { name := "fnExactBothCheckers", fn := fun _ => fun
  | [d1, d2] => { results := [.lit (.bool true)], args := [d1, d2] }
  | _ => none }
def fnExactBothCheckersRow : OpenClaim := { program := "ytdehehdcjfaefab", sum := "6b780088f92bc3cc964f46522c456975c4326dc8b37985d1ebd2fc9211579fc3", func := "loop.example/g01145/laws.FnExactBothCheckers", spec := "fnExactBothCheckers", unfollowed := true, recurses := true, apart := false }
def FnExactBothCheckersSaid : Prop := fnExactBothCheckersRow.holds Try.pinned (OpenSpec.ofChange fnExactBothCheckersSpec)

/-- ITS FALSE NEIGHBOUR: 'it returns false'. Refute it at one input. -/
def fnExactBothCheckersWrong : ChangeSpec := { name := "fnExactBothCheckers", fn := fun _ => fun
  | [d1, d2] => { results := [.lit (.bool false)], args := [d1, d2] }
  | _ => none }
def FnExactBothCheckersWrongFalsely : Prop := fnExactBothCheckersRow.holds Try.pinned (OpenSpec.ofChange fnExactBothCheckersWrong)

/-- 'laws.FnExactEitherCheckers': WHATEVER THE INPUT: true; the input reads as it did. -/
def fnExactEitherCheckersSpec : ChangeSpec := { name := "fnExactEitherCheckers", fn := fun _ => fun
  | [d1, d2] => { results := [.lit (.bool true)], args := [d1, d2] }
  | _ => none }
def fnExactEitherCheckersRow : OpenClaim := { program := "ytdehehdcjfaefab", sum := "6b780088f92bc3cc964f46522c456975c4326dc8b37985d1ebd2fc9211579fc3", func := "loop.example/g01145/laws.FnExactEitherCheckers", spec := "fnExactEitherCheckers", unfollowed := true, recurses := true, apart := false }
def FnExactEitherCheckersSaid : Prop := fnExactEitherCheckersRow.holds Try.pinned (OpenSpec.ofChange fnExactEitherCheckersSpec)

/-- ITS FALSE NEIGHBOUR: 'it returns false'. Refute it at one input. -/
def fnExactEitherCheckersWrong : ChangeSpec := { name := "fnExactEitherCheckers", fn := fun _ => fun
  | [d1, d2] => { results := [.lit (.bool false)], args := [d1, d2] }
  | _ => none }
def FnExactEitherCheckersWrongFalsely : Prop := fnExactEitherCheckersRow.holds Try.pinned (OpenSpec.ofChange fnExactEitherCheckersWrong)

/- THE SECOND FORM. 'bulk': how many values and letters a reading holds, each counted each time it is reached (what is shared counts as often as it is met; a slice's spare places count too). A statement '..UptoSaid' is the law's where the arguments, and the package variables that the reading takes, are together of bulk at most 1048576: NARROWER than '..Said'. Prove '..Said' where nothing that the law and all that it calls make is longer than what came in: it says more and counts as full. Else prove '..UptoSaid'. A law counts once. -/
mutual
def uptoBulk {H : Type} : DataW H → Nat
  | .lit (.string bytes) => bytes.length + 1
  | .lit _ => 1
  | .nil => 1
  | .ptr d => uptoBulk d + 1
  | .slice elems spare => uptoBulkAll elems + uptoBulkAll spare + 1
  | .agg parts => uptoBulkAll parts + 1
  | .iface _ d => uptoBulk d + 1
  | .map entries => uptoBulkEntries entries + 1
  | .held _ => 1
def uptoBulkAll {H : Type} : List (DataW H) → Nat
  | [] => 0
  | d :: r => uptoBulk d + uptoBulkAll r
def uptoBulkEntries {H : Type} : List (Lit × DataW H) → Nat
  | [] => 0
  | x :: r => uptoBulkEntry x + uptoBulkEntries r
def uptoBulkEntry {H : Type} : Lit × DataW H → Nat
  | (.string bytes, d) => bytes.length + uptoBulk d + 1
  | (_, d) => uptoBulk d + 1
 end
def uptoSmall : (H : Type) → List (DataW H) → Bool := fun _ ds => decide (uptoBulkAll ds ≤ 1048576)
def OpenSpec.upto (s : _root_.Go.ChangeSpec) : _root_.Go.OpenSpec := { _root_.Go.OpenSpec.ofChange s with cond := some uptoSmall }

/-- 'laws.FnExactOppositeChecker', WHERE WHAT IT READS IS OF BULK AT MOST 1048576: true; the input reads as it did. -/
def fnExactOppositeCheckerUptoRow : OpenClaim := { program := "ytdehehdcjfaefab", sum := "6b780088f92bc3cc964f46522c456975c4326dc8b37985d1ebd2fc9211579fc3", func := "loop.example/g01145/laws.FnExactOppositeChecker", spec := "fnExactOppositeChecker", unfollowed := true, recurses := true, apart := false, narrowed := true }
def FnExactOppositeCheckerUptoSaid : Prop := fnExactOppositeCheckerUptoRow.holds Try.pinned (OpenSpec.upto fnExactOppositeCheckerSpec)

/-- 'laws.FnExactTrimChecker', WHERE WHAT IT READS IS OF BULK AT MOST 1048576: true; the input reads as it did. -/
def fnExactTrimCheckerUptoRow : OpenClaim := { program := "ytdehehdcjfaefab", sum := "6b780088f92bc3cc964f46522c456975c4326dc8b37985d1ebd2fc9211579fc3", func := "loop.example/g01145/laws.FnExactTrimChecker", spec := "fnExactTrimChecker", unfollowed := true, recurses := true, apart := false, narrowed := true }
def FnExactTrimCheckerUptoSaid : Prop := fnExactTrimCheckerUptoRow.holds Try.pinned (OpenSpec.upto fnExactTrimCheckerSpec)

/-- 'laws.FnExactUsedStates', WHERE WHAT IT READS IS OF BULK AT MOST 1048576: true; the input reads as it did. -/
def fnExactUsedStatesUptoRow : OpenClaim := { program := "ytdehehdcjfaefab", sum := "6b780088f92bc3cc964f46522c456975c4326dc8b37985d1ebd2fc9211579fc3", func := "loop.example/g01145/laws.FnExactUsedStates", spec := "fnExactUsedStates", unfollowed := true, recurses := true, apart := false, narrowed := true }
def FnExactUsedStatesUptoSaid : Prop := fnExactUsedStatesUptoRow.holds Try.pinned (OpenSpec.upto fnExactUsedStatesSpec)

/-- 'laws.FnExactDepthChecker', WHERE WHAT IT READS IS OF BULK AT MOST 1048576: true; the input reads as it did. -/
def fnExactDepthCheckerUptoRow : OpenClaim := { program := "ytdehehdcjfaefab", sum := "6b780088f92bc3cc964f46522c456975c4326dc8b37985d1ebd2fc9211579fc3", func := "loop.example/g01145/laws.FnExactDepthChecker", spec := "fnExactDepthChecker", unfollowed := true, recurses := true, apart := false, narrowed := true }
def FnExactDepthCheckerUptoSaid : Prop := fnExactDepthCheckerUptoRow.holds Try.pinned (OpenSpec.upto fnExactDepthCheckerSpec)

/-- 'laws.FnExactCountChecker', WHERE WHAT IT READS IS OF BULK AT MOST 1048576: true; the input reads as it did. -/
def fnExactCountCheckerUptoRow : OpenClaim := { program := "ytdehehdcjfaefab", sum := "6b780088f92bc3cc964f46522c456975c4326dc8b37985d1ebd2fc9211579fc3", func := "loop.example/g01145/laws.FnExactCountChecker", spec := "fnExactCountChecker", inPlace := ["internal/bytealg.IndexByteString"], unfollowed := true, recurses := true, apart := false, narrowed := true }
def FnExactCountCheckerUptoSaid : Prop := fnExactCountCheckerUptoRow.holds Try.pinned (OpenSpec.upto fnExactCountCheckerSpec)

/-- 'laws.FnExactBothCheckers', WHERE WHAT IT READS IS OF BULK AT MOST 1048576: true; the input reads as it did. -/
def fnExactBothCheckersUptoRow : OpenClaim := { program := "ytdehehdcjfaefab", sum := "6b780088f92bc3cc964f46522c456975c4326dc8b37985d1ebd2fc9211579fc3", func := "loop.example/g01145/laws.FnExactBothCheckers", spec := "fnExactBothCheckers", unfollowed := true, recurses := true, apart := false, narrowed := true }
def FnExactBothCheckersUptoSaid : Prop := fnExactBothCheckersUptoRow.holds Try.pinned (OpenSpec.upto fnExactBothCheckersSpec)

/-- 'laws.FnExactEitherCheckers', WHERE WHAT IT READS IS OF BULK AT MOST 1048576: true; the input reads as it did. -/
def fnExactEitherCheckersUptoRow : OpenClaim := { program := "ytdehehdcjfaefab", sum := "6b780088f92bc3cc964f46522c456975c4326dc8b37985d1ebd2fc9211579fc3", func := "loop.example/g01145/laws.FnExactEitherCheckers", spec := "fnExactEitherCheckers", unfollowed := true, recurses := true, apart := false, narrowed := true }
def FnExactEitherCheckersUptoSaid : Prop := fnExactEitherCheckersUptoRow.holds Try.pinned (OpenSpec.upto fnExactEitherCheckersSpec)

end Rows
end Go.Proofs.Ytdehehdcjfaefab
