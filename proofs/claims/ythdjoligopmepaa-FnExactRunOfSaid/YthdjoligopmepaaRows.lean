/-
  No cell of these rows narrows 'for every input' (looked for: loops, veiled, ifaces, maps, wideKeys, modest, calm, conditions, laid).
  DERIVED. THE GIVEN ROWS OF THIS SEAT. 6 by the template 'for every input the law returns true; each argument reads behind the call as it read before'; 0 by the template 'total and deterministic' (their statements: YthdjoligopmepaaTotals.lean).
  GIVEN WITH THE SEED: the statements are not yours to turn. If you find one false, say at which input.
  Laid BY PROGRAM, IN A SANDBOX (cutbox-rows.mjs): the forced cells as the released guide's own fill.sh prints them over the translation 9f58a0c76753db80… (all of the seat's roots in one cut). By AI agents, Wed Nov 11 2026. No macro, syntax, notation, axiom, sorry.
-/
import Derived.Test.YthdjoligopmepaaChecked
import GoSem.Claim
import GoSem.ClaimJoined
import GoSem.ClaimMapViews
import Derived.JoinedTies
import Derived.KernelRfl
namespace Go.Proofs.Ythdjoligopmepaa
/- THE CELL 'sum', in the pinned program and in every row, IS THE sha256 OF THE DUMP (.gsa) THAT YthdjoligopmepaaProg.lean LOADS. Nothing in Lean hashes anything: it is a label: what it is worth is what the hold of that sum in a sandbox is worth. -/
noncomputable def Try.pinned : Pinned := { name := "ythdjoligopmepaa", sum := "9f58a0c76753db80be86a6e238dec60350c91fc19034d6b84f329085d1e717ea", checked := Try.checked }
namespace Rows
def none {H : Type} : Left H := { results := [], args := [] }

/-- 'laws.FnExactValidChecker': WHATEVER THE INPUT: true; the input reads as it did. -/
def fnExactValidCheckerSpec : ChangeSpec := { name := "fnExactValidChecker", fn := fun _ => fun
  | [d] => { results := [.lit (.bool true)], args := [d] }
  | _ => none }
def fnExactValidCheckerRow : OpenClaim := { program := "ythdjoligopmepaa", sum := "9f58a0c76753db80be86a6e238dec60350c91fc19034d6b84f329085d1e717ea", func := "loop.example/g01145/laws.FnExactValidChecker", spec := "fnExactValidChecker", apart := false }
def FnExactValidCheckerSaid : Prop := fnExactValidCheckerRow.holds Try.pinned (OpenSpec.ofChange fnExactValidCheckerSpec)

/-- ITS FALSE NEIGHBOUR: 'it returns false'. Refute it at one input. -/
def fnExactValidCheckerWrong : ChangeSpec := { name := "fnExactValidChecker", fn := fun _ => fun
  | [d] => { results := [.lit (.bool false)], args := [d] }
  | _ => none }
def FnExactValidCheckerWrongFalsely : Prop := fnExactValidCheckerRow.holds Try.pinned (OpenSpec.ofChange fnExactValidCheckerWrong)

/-- 'laws.FnExactSameChecker': WHATEVER THE INPUT: true; the input reads as it did. -/
def fnExactSameCheckerSpec : ChangeSpec := { name := "fnExactSameChecker", fn := fun _ => fun
  | [d1, d2] => { results := [.lit (.bool true)], args := [d1, d2] }
  | _ => none }
def fnExactSameCheckerRow : OpenClaim := { program := "ythdjoligopmepaa", sum := "9f58a0c76753db80be86a6e238dec60350c91fc19034d6b84f329085d1e717ea", func := "loop.example/g01145/laws.FnExactSameChecker", spec := "fnExactSameChecker", unfollowed := true, recurses := true, apart := false }
def FnExactSameCheckerSaid : Prop := fnExactSameCheckerRow.holds Try.pinned (OpenSpec.ofChange fnExactSameCheckerSpec)

/-- ITS FALSE NEIGHBOUR: 'it returns false'. Refute it at one input. -/
def fnExactSameCheckerWrong : ChangeSpec := { name := "fnExactSameChecker", fn := fun _ => fun
  | [d1, d2] => { results := [.lit (.bool false)], args := [d1, d2] }
  | _ => none }
def FnExactSameCheckerWrongFalsely : Prop := fnExactSameCheckerRow.holds Try.pinned (OpenSpec.ofChange fnExactSameCheckerWrong)

/-- 'laws.FnExactOppositeChecker': WHATEVER THE INPUT: true; the input reads as it did. -/
def fnExactOppositeCheckerSpec : ChangeSpec := { name := "fnExactOppositeChecker", fn := fun _ => fun
  | [d] => { results := [.lit (.bool true)], args := [d] }
  | _ => none }
def fnExactOppositeCheckerRow : OpenClaim := { program := "ythdjoligopmepaa", sum := "9f58a0c76753db80be86a6e238dec60350c91fc19034d6b84f329085d1e717ea", func := "loop.example/g01145/laws.FnExactOppositeChecker", spec := "fnExactOppositeChecker", unfollowed := true, recurses := true, apart := false }
def FnExactOppositeCheckerSaid : Prop := fnExactOppositeCheckerRow.holds Try.pinned (OpenSpec.ofChange fnExactOppositeCheckerSpec)

/-- ITS FALSE NEIGHBOUR: 'it returns false'. Refute it at one input. -/
def fnExactOppositeCheckerWrong : ChangeSpec := { name := "fnExactOppositeChecker", fn := fun _ => fun
  | [d] => { results := [.lit (.bool false)], args := [d] }
  | _ => none }
def FnExactOppositeCheckerWrongFalsely : Prop := fnExactOppositeCheckerRow.holds Try.pinned (OpenSpec.ofChange fnExactOppositeCheckerWrong)

/-- 'laws.FnExactTakes': WHATEVER THE INPUT: true; the input reads as it did. -/
def fnExactTakesSpec : ChangeSpec := { name := "fnExactTakes", fn := fun _ => fun
  | [d1, d2] => { results := [.lit (.bool true)], args := [d1, d2] }
  | _ => none }
def fnExactTakesRow : OpenClaim := { program := "ythdjoligopmepaa", sum := "9f58a0c76753db80be86a6e238dec60350c91fc19034d6b84f329085d1e717ea", func := "loop.example/g01145/laws.FnExactTakes", spec := "fnExactTakes", inPlace := ["internal/bytealg.IndexByteString"], unfollowed := true, recurses := true, apart := false }
def FnExactTakesSaid : Prop := fnExactTakesRow.holds Try.pinned (OpenSpec.ofChange fnExactTakesSpec)

/-- ITS FALSE NEIGHBOUR: 'it returns false'. Refute it at one input. -/
def fnExactTakesWrong : ChangeSpec := { name := "fnExactTakes", fn := fun _ => fun
  | [d1, d2] => { results := [.lit (.bool false)], args := [d1, d2] }
  | _ => none }
def FnExactTakesWrongFalsely : Prop := fnExactTakesRow.holds Try.pinned (OpenSpec.ofChange fnExactTakesWrong)

/-- 'laws.FnExactRunOf': WHATEVER THE INPUT: true; the input reads as it did. -/
def fnExactRunOfSpec : ChangeSpec := { name := "fnExactRunOf", fn := fun _ => fun
  | [d1, d2] => { results := [.lit (.bool true)], args := [d1, d2] }
  | _ => none }
def fnExactRunOfRow : OpenClaim := { program := "ythdjoligopmepaa", sum := "9f58a0c76753db80be86a6e238dec60350c91fc19034d6b84f329085d1e717ea", func := "loop.example/g01145/laws.FnExactRunOf", spec := "fnExactRunOf", inPlace := ["internal/bytealg.IndexByteString"], unfollowed := true, recurses := true, apart := false }
def FnExactRunOfSaid : Prop := fnExactRunOfRow.holds Try.pinned (OpenSpec.ofChange fnExactRunOfSpec)

/-- ITS FALSE NEIGHBOUR: 'it returns false'. Refute it at one input. -/
def fnExactRunOfWrong : ChangeSpec := { name := "fnExactRunOf", fn := fun _ => fun
  | [d1, d2] => { results := [.lit (.bool false)], args := [d1, d2] }
  | _ => none }
def FnExactRunOfWrongFalsely : Prop := fnExactRunOfRow.holds Try.pinned (OpenSpec.ofChange fnExactRunOfWrong)

/-- 'laws.FnExactSummaryOf': WHATEVER THE INPUT: true; the input reads as it did. -/
def fnExactSummaryOfSpec : ChangeSpec := { name := "fnExactSummaryOf", fn := fun _ => fun
  | [d1, d2] => { results := [.lit (.bool true)], args := [d1, d2] }
  | _ => none }
def fnExactSummaryOfRow : OpenClaim := { program := "ythdjoligopmepaa", sum := "9f58a0c76753db80be86a6e238dec60350c91fc19034d6b84f329085d1e717ea", func := "loop.example/g01145/laws.FnExactSummaryOf", spec := "fnExactSummaryOf", inPlace := ["internal/bytealg.IndexByteString"], unfollowed := true, recurses := true, apart := false }
def FnExactSummaryOfSaid : Prop := fnExactSummaryOfRow.holds Try.pinned (OpenSpec.ofChange fnExactSummaryOfSpec)

/-- ITS FALSE NEIGHBOUR: 'it returns false'. Refute it at one input. -/
def fnExactSummaryOfWrong : ChangeSpec := { name := "fnExactSummaryOf", fn := fun _ => fun
  | [d1, d2] => { results := [.lit (.bool false)], args := [d1, d2] }
  | _ => none }
def FnExactSummaryOfWrongFalsely : Prop := fnExactSummaryOfRow.holds Try.pinned (OpenSpec.ofChange fnExactSummaryOfWrong)

/- THE SECOND FORM. 'bulk': how many values and letters a reading holds, each counted each time it is reached (what is shared counts as often as it is met; a slice's spare places count too). A statement '..UptoSaid' is the law's where the arguments, and the package variables that the reading takes, are together of bulk at most 1048576: NARROWER than '..Said'. Prove '..Said' where nothing that the law and all that it calls make is longer than what came in: it says more and counts as full. Else prove '..UptoSaid'. A law counts once. -/
mutual
def uptoBulk {H : Type} : DataW H → Nat
  | .lit (.string bytes) => bytes.length + 1
  | .lit _ => 1
  | .nil => 1
  | .ptr d => uptoBulk d + 1
  | .slice elems spare => uptoBulkAll elems + uptoBulkAll spare + 1
  | .agg parts => uptoBulkAll parts + 1
  | .iface _ d => uptoBulk d + 1
  | .map entries => uptoBulkEntries entries + 1
  | .held _ => 1
def uptoBulkAll {H : Type} : List (DataW H) → Nat
  | [] => 0
  | d :: r => uptoBulk d + uptoBulkAll r
def uptoBulkEntries {H : Type} : List (Lit × DataW H) → Nat
  | [] => 0
  | x :: r => uptoBulkEntry x + uptoBulkEntries r
def uptoBulkEntry {H : Type} : Lit × DataW H → Nat
  | (.string bytes, d) => bytes.length + uptoBulk d + 1
  | (_, d) => uptoBulk d + 1
 end
def uptoSmall : (H : Type) → List (DataW H) → Bool := fun _ ds => decide (uptoBulkAll ds ≤ 1048576)
def OpenSpec.upto (s : _root_.Go.ChangeSpec) : _root_.Go.OpenSpec := { _root_.Go.OpenSpec.ofChange s with cond := some uptoSmall }

/-- 'laws.FnExactValidChecker', WHERE WHAT IT READS IS OF BULK AT MOST 1048576: true; the input reads as it did. -/
def fnExactValidCheckerUptoRow : OpenClaim := { program := "ythdjoligopmepaa", sum := "9f58a0c76753db80be86a6e238dec60350c91fc19034d6b84f329085d1e717ea", func := "loop.example/g01145/laws.FnExactValidChecker", spec := "fnExactValidChecker", apart := false, narrowed := true }
def FnExactValidCheckerUptoSaid : Prop := fnExactValidCheckerUptoRow.holds Try.pinned (OpenSpec.upto fnExactValidCheckerSpec)

/-- 'laws.FnExactSameChecker', WHERE WHAT IT READS IS OF BULK AT MOST 1048576: true; the input reads as it did. -/
def fnExactSameCheckerUptoRow : OpenClaim := { program := "ythdjoligopmepaa", sum := "9f58a0c76753db80be86a6e238dec60350c91fc19034d6b84f329085d1e717ea", func := "loop.example/g01145/laws.FnExactSameChecker", spec := "fnExactSameChecker", unfollowed := true, recurses := true, apart := false, narrowed := true }
def FnExactSameCheckerUptoSaid : Prop := fnExactSameCheckerUptoRow.holds Try.pinned (OpenSpec.upto fnExactSameCheckerSpec)

/-- 'laws.FnExactOppositeChecker', WHERE WHAT IT READS IS OF BULK AT MOST 1048576: true; the input reads as it did. -/
def fnExactOppositeCheckerUptoRow : OpenClaim := { program := "ythdjoligopmepaa", sum := "9f58a0c76753db80be86a6e238dec60350c91fc19034d6b84f329085d1e717ea", func := "loop.example/g01145/laws.FnExactOppositeChecker", spec := "fnExactOppositeChecker", unfollowed := true, recurses := true, apart := false, narrowed := true }
def FnExactOppositeCheckerUptoSaid : Prop := fnExactOppositeCheckerUptoRow.holds Try.pinned (OpenSpec.upto fnExactOppositeCheckerSpec)

/-- 'laws.FnExactTakes', WHERE WHAT IT READS IS OF BULK AT MOST 1048576: true; the input reads as it did. -/
def fnExactTakesUptoRow : OpenClaim := { program := "ythdjoligopmepaa", sum := "9f58a0c76753db80be86a6e238dec60350c91fc19034d6b84f329085d1e717ea", func := "loop.example/g01145/laws.FnExactTakes", spec := "fnExactTakes", inPlace := ["internal/bytealg.IndexByteString"], unfollowed := true, recurses := true, apart := false, narrowed := true }
def FnExactTakesUptoSaid : Prop := fnExactTakesUptoRow.holds Try.pinned (OpenSpec.upto fnExactTakesSpec)

/-- 'laws.FnExactRunOf', WHERE WHAT IT READS IS OF BULK AT MOST 1048576: true; the input reads as it did. -/
def fnExactRunOfUptoRow : OpenClaim := { program := "ythdjoligopmepaa", sum := "9f58a0c76753db80be86a6e238dec60350c91fc19034d6b84f329085d1e717ea", func := "loop.example/g01145/laws.FnExactRunOf", spec := "fnExactRunOf", inPlace := ["internal/bytealg.IndexByteString"], unfollowed := true, recurses := true, apart := false, narrowed := true }
def FnExactRunOfUptoSaid : Prop := fnExactRunOfUptoRow.holds Try.pinned (OpenSpec.upto fnExactRunOfSpec)

/-- 'laws.FnExactSummaryOf', WHERE WHAT IT READS IS OF BULK AT MOST 1048576: true; the input reads as it did. -/
def fnExactSummaryOfUptoRow : OpenClaim := { program := "ythdjoligopmepaa", sum := "9f58a0c76753db80be86a6e238dec60350c91fc19034d6b84f329085d1e717ea", func := "loop.example/g01145/laws.FnExactSummaryOf", spec := "fnExactSummaryOf", inPlace := ["internal/bytealg.IndexByteString"], unfollowed := true, recurses := true, apart := false, narrowed := true }
def FnExactSummaryOfUptoSaid : Prop := fnExactSummaryOfUptoRow.holds Try.pinned (OpenSpec.upto fnExactSummaryOfSpec)

end Rows
end Go.Proofs.Ythdjoligopmepaa
