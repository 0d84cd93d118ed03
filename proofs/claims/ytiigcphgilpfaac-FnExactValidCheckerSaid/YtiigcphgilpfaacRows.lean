/-
  No cell of these rows narrows 'for every input' (looked for: loops, veiled, ifaces, maps, wideKeys, modest, calm, conditions, laid).
  DERIVED. THE GIVEN ROWS OF THIS SEAT. 6 by the template 'for every input the law returns true; each argument reads behind the call as it read before'; 0 by the template 'total and deterministic' (their statements: YtiigcphgilpfaacTotals.lean).
  GIVEN WITH THE SEED: the statements are not yours to turn. If you find one false, say at which input.
  Laid BY PROGRAM, IN A SANDBOX (cutbox-rows.mjs): the forced cells as the released guide's own fill.sh prints them over the translation c17ad1f90de44945… (all of the seat's roots in one cut). By AI agents, Wed Nov 11 2026. No macro, syntax, notation, axiom, sorry.
-/
import Derived.Test.YtiigcphgilpfaacChecked
import GoSem.Claim
import GoSem.ClaimJoined
import GoSem.ClaimMapViews
import Derived.JoinedTies
import Derived.KernelRfl
namespace Go.Proofs.Ytiigcphgilpfaac
/- THE CELL 'sum', in the pinned program and in every row, IS THE sha256 OF THE DUMP (.gsa) THAT YtiigcphgilpfaacProg.lean LOADS. Nothing in Lean hashes anything: it is a label: what it is worth is what the hold of that sum in a sandbox is worth. -/
noncomputable def Try.pinned : Pinned := { name := "ytiigcphgilpfaac", sum := "c17ad1f90de44945e8e0d89afe01d9ada93fecaf16239285024c691040c59cf0", checked := Try.checked }
namespace Rows
def none {H : Type} : Left H := { results := [], args := [] }

/-- 'laws.FnExactMatchedChecker': WHATEVER THE INPUT: true; the input reads as it did. -/
def fnExactMatchedCheckerSpec : ChangeSpec := { name := "fnExactMatchedChecker", fn := fun _ => fun
  | [] => { results := [.lit (.bool true)], args := [] }
  | _ => none }
def fnExactMatchedCheckerRow : OpenClaim := { program := "ytiigcphgilpfaac", sum := "c17ad1f90de44945e8e0d89afe01d9ada93fecaf16239285024c691040c59cf0", func := "loop.example/g01145/laws.FnExactMatchedChecker", spec := "fnExactMatchedChecker", apart := false }
def FnExactMatchedCheckerSaid : Prop := fnExactMatchedCheckerRow.holds Try.pinned (OpenSpec.ofChange fnExactMatchedCheckerSpec)

/-- ITS FALSE NEIGHBOUR: 'it returns false'. Refute it at one input. -/
def fnExactMatchedCheckerWrong : ChangeSpec := { name := "fnExactMatchedChecker", fn := fun _ => fun
  | [] => { results := [.lit (.bool false)], args := [] }
  | _ => none }
def FnExactMatchedCheckerWrongFalsely : Prop := fnExactMatchedCheckerRow.holds Try.pinned (OpenSpec.ofChange fnExactMatchedCheckerWrong)

/-- 'laws.FnExactKindsChecker': WHATEVER THE INPUT: true; the input reads as it did. -/
def fnExactKindsCheckerSpec : ChangeSpec := { name := "fnExactKindsChecker", fn := fun _ => fun
  | [] => { results := [.lit (.bool true)], args := [] }
  | _ => none }
def fnExactKindsCheckerRow : OpenClaim := { program := "ytiigcphgilpfaac", sum := "c17ad1f90de44945e8e0d89afe01d9ada93fecaf16239285024c691040c59cf0", func := "loop.example/g01145/laws.FnExactKindsChecker", spec := "fnExactKindsChecker", apart := false }
def FnExactKindsCheckerSaid : Prop := fnExactKindsCheckerRow.holds Try.pinned (OpenSpec.ofChange fnExactKindsCheckerSpec)

/-- ITS FALSE NEIGHBOUR: 'it returns false'. Refute it at one input. -/
def fnExactKindsCheckerWrong : ChangeSpec := { name := "fnExactKindsChecker", fn := fun _ => fun
  | [] => { results := [.lit (.bool false)], args := [] }
  | _ => none }
def FnExactKindsCheckerWrongFalsely : Prop := fnExactKindsCheckerRow.holds Try.pinned (OpenSpec.ofChange fnExactKindsCheckerWrong)

/-- 'laws.FnExactValidChecker': WHATEVER THE INPUT: true; the input reads as it did. -/
def fnExactValidCheckerSpec : ChangeSpec := { name := "fnExactValidChecker", fn := fun _ => fun
  | [d] => { results := [.lit (.bool true)], args := [d] }
  | _ => none }
def fnExactValidCheckerRow : OpenClaim := { program := "ytiigcphgilpfaac", sum := "c17ad1f90de44945e8e0d89afe01d9ada93fecaf16239285024c691040c59cf0", func := "loop.example/g01145/laws.FnExactValidChecker", spec := "fnExactValidChecker", apart := false }
def FnExactValidCheckerSaid : Prop := fnExactValidCheckerRow.holds Try.pinned (OpenSpec.ofChange fnExactValidCheckerSpec)

/-- ITS FALSE NEIGHBOUR: 'it returns false'. Refute it at one input. -/
def fnExactValidCheckerWrong : ChangeSpec := { name := "fnExactValidChecker", fn := fun _ => fun
  | [d] => { results := [.lit (.bool false)], args := [d] }
  | _ => none }
def FnExactValidCheckerWrongFalsely : Prop := fnExactValidCheckerRow.holds Try.pinned (OpenSpec.ofChange fnExactValidCheckerWrong)

/-- 'laws.FnExactSameChecker': WHATEVER THE INPUT: true; the input reads as it did. -/
def fnExactSameCheckerSpec : ChangeSpec := { name := "fnExactSameChecker", fn := fun _ => fun
  | [d1, d2] => { results := [.lit (.bool true)], args := [d1, d2] }
  | _ => none }
def fnExactSameCheckerRow : OpenClaim := { program := "ytiigcphgilpfaac", sum := "c17ad1f90de44945e8e0d89afe01d9ada93fecaf16239285024c691040c59cf0", func := "loop.example/g01145/laws.FnExactSameChecker", spec := "fnExactSameChecker", unfollowed := true, recurses := true, apart := false }
def FnExactSameCheckerSaid : Prop := fnExactSameCheckerRow.holds Try.pinned (OpenSpec.ofChange fnExactSameCheckerSpec)

/-- ITS FALSE NEIGHBOUR: 'it returns false'. Refute it at one input. -/
def fnExactSameCheckerWrong : ChangeSpec := { name := "fnExactSameChecker", fn := fun _ => fun
  | [d1, d2] => { results := [.lit (.bool false)], args := [d1, d2] }
  | _ => none }
def FnExactSameCheckerWrongFalsely : Prop := fnExactSameCheckerRow.holds Try.pinned (OpenSpec.ofChange fnExactSameCheckerWrong)

/-- 'laws.FnExactDepthChecker': WHATEVER THE INPUT: true; the input reads as it did. -/
def fnExactDepthCheckerSpec : ChangeSpec := { name := "fnExactDepthChecker", fn := fun _ => fun
  | [d] => { results := [.lit (.bool true)], args := [d] }
  | _ => none }
def fnExactDepthCheckerRow : OpenClaim := { program := "ytiigcphgilpfaac", sum := "c17ad1f90de44945e8e0d89afe01d9ada93fecaf16239285024c691040c59cf0", func := "loop.example/g01145/laws.FnExactDepthChecker", spec := "fnExactDepthChecker", unfollowed := true, recurses := true, apart := false }
def FnExactDepthCheckerSaid : Prop := fnExactDepthCheckerRow.holds Try.pinned (OpenSpec.ofChange fnExactDepthCheckerSpec)

/-- ITS FALSE NEIGHBOUR: 'it returns false'. Refute it at one input. -/
def fnExactDepthCheckerWrong : ChangeSpec := { name := "fnExactDepthChecker", fn := fun _ => fun
  | [d] => { results := [.lit (.bool false)], args := [d] }
  | _ => none }
def FnExactDepthCheckerWrongFalsely : Prop := fnExactDepthCheckerRow.holds Try.pinned (OpenSpec.ofChange fnExactDepthCheckerWrong)

/-- 'laws.FnExactCountChecker': WHATEVER THE INPUT: true; the input reads as it did. -/
def fnExactCountCheckerSpec : ChangeSpec := { name := "fnExactCountChecker", fn := fun _ => fun
  | [d1, d2] => { results := [.lit (.bool true)], args := [d1, d2] }
  | _ => none }
def fnExactCountCheckerRow : OpenClaim := { program := "ytiigcphgilpfaac", sum := "c17ad1f90de44945e8e0d89afe01d9ada93fecaf16239285024c691040c59cf0", func := "loop.example/g01145/laws.FnExactCountChecker", spec := "fnExactCountChecker", inPlace := ["internal/bytealg.IndexByteString"], unfollowed := true, recurses := true, apart := false }
def FnExactCountCheckerSaid : Prop := fnExactCountCheckerRow.holds Try.pinned (OpenSpec.ofChange fnExactCountCheckerSpec)

/-- ITS FALSE NEIGHBOUR: 'it returns false'. Refute it at one input. -/
def fnExactCountCheckerWrong : ChangeSpec := { name := "fnExactCountChecker", fn := fun _ => fun
  | [d1, d2] => { results := [.lit (.bool false)], args := [d1, d2] }
  | _ => none }
def FnExactCountCheckerWrongFalsely : Prop := fnExactCountCheckerRow.holds Try.pinned (OpenSpec.ofChange fnExactCountCheckerWrong)

/- THE SECOND FORM. 'bulk': how many values and letters a reading holds, each counted each time it is reached (what is shared counts as often as it is met; a slice's spare places count too). A statement '..UptoSaid' is the law's where the arguments, and the package variables that the reading takes, are together of bulk at most 1048576: NARROWER than '..Said'. Prove '..Said' where nothing that the law and all that it calls make is longer than what came in: it says more and counts as full. Else prove '..UptoSaid'. A law counts once. -/
mutual
def uptoBulk {H : Type} : DataW H → Nat
  | .lit (.string bytes) => bytes.length + 1
  | .lit _ => 1
  | .nil => 1
  | .ptr d => uptoBulk d + 1
  | .slice elems spare => uptoBulkAll elems + uptoBulkAll spare + 1
  | .agg parts => uptoBulkAll parts + 1
  | .iface _ d => uptoBulk d + 1
  | .map entries => uptoBulkEntries entries + 1
  | .held _ => 1
def uptoBulkAll {H : Type} : List (DataW H) → Nat
  | [] => 0
  | d :: r => uptoBulk d + uptoBulkAll r
def uptoBulkEntries {H : Type} : List (Lit × DataW H) → Nat
  | [] => 0
  | x :: r => uptoBulkEntry x + uptoBulkEntries r
def uptoBulkEntry {H : Type} : Lit × DataW H → Nat
  | (.string bytes, d) => bytes.length + uptoBulk d + 1
  | (_, d) => uptoBulk d + 1
 end
def uptoSmall : (H : Type) → List (DataW H) → Bool := fun _ ds => decide (uptoBulkAll ds ≤ 1048576)
def OpenSpec.upto (s : _root_.Go.ChangeSpec) : _root_.Go.OpenSpec := { _root_.Go.OpenSpec.ofChange s with cond := some uptoSmall }

/-- 'laws.FnExactMatchedChecker', WHERE WHAT IT READS IS OF BULK AT MOST 1048576: true; the input reads as it did. -/
def fnExactMatchedCheckerUptoRow : OpenClaim := { program := "ytiigcphgilpfaac", sum := "c17ad1f90de44945e8e0d89afe01d9ada93fecaf16239285024c691040c59cf0", func := "loop.example/g01145/laws.FnExactMatchedChecker", spec := "fnExactMatchedChecker", apart := false, narrowed := true }
def FnExactMatchedCheckerUptoSaid : Prop := fnExactMatchedCheckerUptoRow.holds Try.pinned (OpenSpec.upto fnExactMatchedCheckerSpec)

/-- 'laws.FnExactKindsChecker', WHERE WHAT IT READS IS OF BULK AT MOST 1048576: true; the input reads as it did. -/
def fnExactKindsCheckerUptoRow : OpenClaim := { program := "ytiigcphgilpfaac", sum := "c17ad1f90de44945e8e0d89afe01d9ada93fecaf16239285024c691040c59cf0", func := "loop.example/g01145/laws.FnExactKindsChecker", spec := "fnExactKindsChecker", apart := false, narrowed := true }
def FnExactKindsCheckerUptoSaid : Prop := fnExactKindsCheckerUptoRow.holds Try.pinned (OpenSpec.upto fnExactKindsCheckerSpec)

/-- 'laws.FnExactValidChecker', WHERE WHAT IT READS IS OF BULK AT MOST 1048576: true; the input reads as it did. -/
def fnExactValidCheckerUptoRow : OpenClaim := { program := "ytiigcphgilpfaac", sum := "c17ad1f90de44945e8e0d89afe01d9ada93fecaf16239285024c691040c59cf0", func := "loop.example/g01145/laws.FnExactValidChecker", spec := "fnExactValidChecker", apart := false, narrowed := true }
def FnExactValidCheckerUptoSaid : Prop := fnExactValidCheckerUptoRow.holds Try.pinned (OpenSpec.upto fnExactValidCheckerSpec)

/-- 'laws.FnExactSameChecker', WHERE WHAT IT READS IS OF BULK AT MOST 1048576: true; the input reads as it did. -/
def fnExactSameCheckerUptoRow : OpenClaim := { program := "ytiigcphgilpfaac", sum := "c17ad1f90de44945e8e0d89afe01d9ada93fecaf16239285024c691040c59cf0", func := "loop.example/g01145/laws.FnExactSameChecker", spec := "fnExactSameChecker", unfollowed := true, recurses := true, apart := false, narrowed := true }
def FnExactSameCheckerUptoSaid : Prop := fnExactSameCheckerUptoRow.holds Try.pinned (OpenSpec.upto fnExactSameCheckerSpec)

/-- 'laws.FnExactDepthChecker', WHERE WHAT IT READS IS OF BULK AT MOST 1048576: true; the input reads as it did. -/
def fnExactDepthCheckerUptoRow : OpenClaim := { program := "ytiigcphgilpfaac", sum := "c17ad1f90de44945e8e0d89afe01d9ada93fecaf16239285024c691040c59cf0", func := "loop.example/g01145/laws.FnExactDepthChecker", spec := "fnExactDepthChecker", unfollowed := true, recurses := true, apart := false, narrowed := true }
def FnExactDepthCheckerUptoSaid : Prop := fnExactDepthCheckerUptoRow.holds Try.pinned (OpenSpec.upto fnExactDepthCheckerSpec)

/-- 'laws.FnExactCountChecker', WHERE WHAT IT READS IS OF BULK AT MOST 1048576: true; the input reads as it did. -/
def fnExactCountCheckerUptoRow : OpenClaim := { program := "ytiigcphgilpfaac", sum := "c17ad1f90de44945e8e0d89afe01d9ada93fecaf16239285024c691040c59cf0", func := "loop.example/g01145/laws.FnExactCountChecker", spec := "fnExactCountChecker", inPlace := ["internal/bytealg.IndexByteString"], unfollowed := true, recurses := true, apart := false, narrowed := true }
def FnExactCountCheckerUptoSaid : Prop := fnExactCountCheckerUptoRow.holds Try.pinned (OpenSpec.upto fnExactCountCheckerSpec)

end Rows
end Go.Proofs.Ytiigcphgilpfaac
