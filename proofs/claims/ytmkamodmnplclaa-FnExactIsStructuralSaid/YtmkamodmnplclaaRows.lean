/-
  No cell of these rows narrows 'for every input' (looked for: loops, veiled, ifaces, maps, wideKeys, modest, calm, conditions, laid).
  DERIVED. THE GIVEN ROWS OF THIS SEAT. 9 by the template 'for every input the law returns true; each argument reads behind the call as it read before'; 0 by the template 'total and deterministic' (their statements: YtmkamodmnplclaaTotals.lean).
  GIVEN WITH THE SEED: the statements are not yours to turn. If you find one false, say at which input.
  Laid BY PROGRAM, IN A SANDBOX (cutbox-rows.mjs): the forced cells as the released guide's own fill.sh prints them over the translation f3742591e3cd9b9f… (all of the seat's roots in one cut). By AI agents, Wed Nov 11 2026. No macro, syntax, notation, axiom, sorry.
-/
import Derived.Test.YtmkamodmnplclaaChecked
import GoSem.Claim
import GoSem.ClaimJoined
import GoSem.ClaimMapViews
import Derived.JoinedTies
import Derived.KernelRfl
namespace Go.Proofs.Ytmkamodmnplclaa
/- THE CELL 'sum', in the pinned program and in every row, IS THE sha256 OF THE DUMP (.gsa) THAT YtmkamodmnplclaaProg.lean LOADS. Nothing in Lean hashes anything: it is a label: what it is worth is what the hold of that sum in a sandbox is worth. -/
noncomputable def Try.pinned : Pinned := { name := "ytmkamodmnplclaa", sum := "f3742591e3cd9b9f65a43273d4d903c82acdfae5d3abd2b5eaad71e13c233ec2", checked := Try.checked }
namespace Rows
def none {H : Type} : Left H := { results := [], args := [] }

/-- 'laws.FnExactSameProgram': WHATEVER THE INPUT: true; the input reads as it did. -/
def fnExactSameProgramSpec : ChangeSpec := { name := "fnExactSameProgram", fn := fun _ => fun
  | [d1, d2] => { results := [.lit (.bool true)], args := [d1, d2] }
  | _ => none }
def fnExactSameProgramRow : OpenClaim := { program := "ytmkamodmnplclaa", sum := "f3742591e3cd9b9f65a43273d4d903c82acdfae5d3abd2b5eaad71e13c233ec2", func := "loop.example/g01145/laws.FnExactSameProgram", spec := "fnExactSameProgram", unfollowed := true, recurses := true, apart := false }
def FnExactSameProgramSaid : Prop := fnExactSameProgramRow.holds Try.pinned (OpenSpec.ofChange fnExactSameProgramSpec)

/-- ITS FALSE NEIGHBOUR: 'it returns false'. Refute it at one input. -/
def fnExactSameProgramWrong : ChangeSpec := { name := "fnExactSameProgram", fn := fun _ => fun
  | [d1, d2] => { results := [.lit (.bool false)], args := [d1, d2] }
  | _ => none }
def FnExactSameProgramWrongFalsely : Prop := fnExactSameProgramRow.holds Try.pinned (OpenSpec.ofChange fnExactSameProgramWrong)

/-- 'laws.FnExactIdentityRewriter': WHATEVER THE INPUT: true; the input reads as it did. -/
def fnExactIdentityRewriterSpec : ChangeSpec := { name := "fnExactIdentityRewriter", fn := fun _ => fun
  | [] => { results := [.lit (.bool true)], args := [] }
  | _ => none }
def fnExactIdentityRewriterRow : OpenClaim := { program := "ytmkamodmnplclaa", sum := "f3742591e3cd9b9f65a43273d4d903c82acdfae5d3abd2b5eaad71e13c233ec2", func := "loop.example/g01145/laws.FnExactIdentityRewriter", spec := "fnExactIdentityRewriter", unfollowed := true, recurses := true, apart := false }
def FnExactIdentityRewriterSaid : Prop := fnExactIdentityRewriterRow.holds Try.pinned (OpenSpec.ofChange fnExactIdentityRewriterSpec)

/-- ITS FALSE NEIGHBOUR: 'it returns false'. Refute it at one input. -/
def fnExactIdentityRewriterWrong : ChangeSpec := { name := "fnExactIdentityRewriter", fn := fun _ => fun
  | [] => { results := [.lit (.bool false)], args := [] }
  | _ => none }
def FnExactIdentityRewriterWrongFalsely : Prop := fnExactIdentityRewriterRow.holds Try.pinned (OpenSpec.ofChange fnExactIdentityRewriterWrong)

/-- 'laws.FnExactFixRewriter': WHATEVER THE INPUT: true; the input reads as it did. -/
def fnExactFixRewriterSpec : ChangeSpec := { name := "fnExactFixRewriter", fn := fun _ => fun
  | [] => { results := [.lit (.bool true)], args := [] }
  | _ => none }
def fnExactFixRewriterRow : OpenClaim := { program := "ytmkamodmnplclaa", sum := "f3742591e3cd9b9f65a43273d4d903c82acdfae5d3abd2b5eaad71e13c233ec2", func := "loop.example/g01145/laws.FnExactFixRewriter", spec := "fnExactFixRewriter", unfollowed := true, recurses := true, apart := false }
def FnExactFixRewriterSaid : Prop := fnExactFixRewriterRow.holds Try.pinned (OpenSpec.ofChange fnExactFixRewriterSpec)

/-- ITS FALSE NEIGHBOUR: 'it returns false'. Refute it at one input. -/
def fnExactFixRewriterWrong : ChangeSpec := { name := "fnExactFixRewriter", fn := fun _ => fun
  | [] => { results := [.lit (.bool false)], args := [] }
  | _ => none }
def FnExactFixRewriterWrongFalsely : Prop := fnExactFixRewriterRow.holds Try.pinned (OpenSpec.ofChange fnExactFixRewriterWrong)

/-- 'laws.FnExactDropRewriter': WHATEVER THE INPUT: true; the input reads as it did. -/
def fnExactDropRewriterSpec : ChangeSpec := { name := "fnExactDropRewriter", fn := fun _ => fun
  | [d] => { results := [.lit (.bool true)], args := [d] }
  | _ => none }
def fnExactDropRewriterRow : OpenClaim := { program := "ytmkamodmnplclaa", sum := "f3742591e3cd9b9f65a43273d4d903c82acdfae5d3abd2b5eaad71e13c233ec2", func := "loop.example/g01145/laws.FnExactDropRewriter", spec := "fnExactDropRewriter", inPlace := ["internal/bytealg.IndexByteString"], unfollowed := true, recurses := true, apart := false }
def FnExactDropRewriterSaid : Prop := fnExactDropRewriterRow.holds Try.pinned (OpenSpec.ofChange fnExactDropRewriterSpec)

/-- ITS FALSE NEIGHBOUR: 'it returns false'. Refute it at one input. -/
def fnExactDropRewriterWrong : ChangeSpec := { name := "fnExactDropRewriter", fn := fun _ => fun
  | [d] => { results := [.lit (.bool false)], args := [d] }
  | _ => none }
def FnExactDropRewriterWrongFalsely : Prop := fnExactDropRewriterRow.holds Try.pinned (OpenSpec.ofChange fnExactDropRewriterWrong)

/-- 'laws.FnExactThinRewriter': WHATEVER THE INPUT: true; the input reads as it did. -/
def fnExactThinRewriterSpec : ChangeSpec := { name := "fnExactThinRewriter", fn := fun _ => fun
  | [d] => { results := [.lit (.bool true)], args := [d] }
  | _ => none }
def fnExactThinRewriterRow : OpenClaim := { program := "ytmkamodmnplclaa", sum := "f3742591e3cd9b9f65a43273d4d903c82acdfae5d3abd2b5eaad71e13c233ec2", func := "loop.example/g01145/laws.FnExactThinRewriter", spec := "fnExactThinRewriter", inPlace := ["internal/bytealg.IndexByteString"], unfollowed := true, recurses := true, apart := false }
def FnExactThinRewriterSaid : Prop := fnExactThinRewriterRow.holds Try.pinned (OpenSpec.ofChange fnExactThinRewriterSpec)

/-- ITS FALSE NEIGHBOUR: 'it returns false'. Refute it at one input. -/
def fnExactThinRewriterWrong : ChangeSpec := { name := "fnExactThinRewriter", fn := fun _ => fun
  | [d] => { results := [.lit (.bool false)], args := [d] }
  | _ => none }
def FnExactThinRewriterWrongFalsely : Prop := fnExactThinRewriterRow.holds Try.pinned (OpenSpec.ofChange fnExactThinRewriterWrong)

/-- 'laws.FnExactUnwrapRewriter': WHATEVER THE INPUT: true; the input reads as it did. -/
def fnExactUnwrapRewriterSpec : ChangeSpec := { name := "fnExactUnwrapRewriter", fn := fun _ => fun
  | [d] => { results := [.lit (.bool true)], args := [d] }
  | _ => none }
def fnExactUnwrapRewriterRow : OpenClaim := { program := "ytmkamodmnplclaa", sum := "f3742591e3cd9b9f65a43273d4d903c82acdfae5d3abd2b5eaad71e13c233ec2", func := "loop.example/g01145/laws.FnExactUnwrapRewriter", spec := "fnExactUnwrapRewriter", inPlace := ["internal/bytealg.IndexByteString"], unfollowed := true, recurses := true, apart := false }
def FnExactUnwrapRewriterSaid : Prop := fnExactUnwrapRewriterRow.holds Try.pinned (OpenSpec.ofChange fnExactUnwrapRewriterSpec)

/-- ITS FALSE NEIGHBOUR: 'it returns false'. Refute it at one input. -/
def fnExactUnwrapRewriterWrong : ChangeSpec := { name := "fnExactUnwrapRewriter", fn := fun _ => fun
  | [d] => { results := [.lit (.bool false)], args := [d] }
  | _ => none }
def FnExactUnwrapRewriterWrongFalsely : Prop := fnExactUnwrapRewriterRow.holds Try.pinned (OpenSpec.ofChange fnExactUnwrapRewriterWrong)

/-- 'laws.FnExactRenameRewriter': WHATEVER THE INPUT: true; the input reads as it did. -/
def fnExactRenameRewriterSpec : ChangeSpec := { name := "fnExactRenameRewriter", fn := fun _ => fun
  | [d] => { results := [.lit (.bool true)], args := [d] }
  | _ => none }
def fnExactRenameRewriterRow : OpenClaim := { program := "ytmkamodmnplclaa", sum := "f3742591e3cd9b9f65a43273d4d903c82acdfae5d3abd2b5eaad71e13c233ec2", func := "loop.example/g01145/laws.FnExactRenameRewriter", spec := "fnExactRenameRewriter", inPlace := ["internal/bytealg.IndexByteString"], unfollowed := true, recurses := true, apart := false }
def FnExactRenameRewriterSaid : Prop := fnExactRenameRewriterRow.holds Try.pinned (OpenSpec.ofChange fnExactRenameRewriterSpec)

/-- ITS FALSE NEIGHBOUR: 'it returns false'. Refute it at one input. -/
def fnExactRenameRewriterWrong : ChangeSpec := { name := "fnExactRenameRewriter", fn := fun _ => fun
  | [d] => { results := [.lit (.bool false)], args := [d] }
  | _ => none }
def FnExactRenameRewriterWrongFalsely : Prop := fnExactRenameRewriterRow.holds Try.pinned (OpenSpec.ofChange fnExactRenameRewriterWrong)

/-- 'laws.FnExactValidRewriter': WHATEVER THE INPUT: true; the input reads as it did. -/
def fnExactValidRewriterSpec : ChangeSpec := { name := "fnExactValidRewriter", fn := fun _ => fun
  | [d] => { results := [.lit (.bool true)], args := [d] }
  | _ => none }
def fnExactValidRewriterRow : OpenClaim := { program := "ytmkamodmnplclaa", sum := "f3742591e3cd9b9f65a43273d4d903c82acdfae5d3abd2b5eaad71e13c233ec2", func := "loop.example/g01145/laws.FnExactValidRewriter", spec := "fnExactValidRewriter", unfollowed := true, recurses := true, apart := false }
def FnExactValidRewriterSaid : Prop := fnExactValidRewriterRow.holds Try.pinned (OpenSpec.ofChange fnExactValidRewriterSpec)

/-- ITS FALSE NEIGHBOUR: 'it returns false'. Refute it at one input. -/
def fnExactValidRewriterWrong : ChangeSpec := { name := "fnExactValidRewriter", fn := fun _ => fun
  | [d] => { results := [.lit (.bool false)], args := [d] }
  | _ => none }
def FnExactValidRewriterWrongFalsely : Prop := fnExactValidRewriterRow.holds Try.pinned (OpenSpec.ofChange fnExactValidRewriterWrong)

/-- 'laws.FnExactIsStructural': WHATEVER THE INPUT: true; the input reads as it did. -/
def fnExactIsStructuralSpec : ChangeSpec := { name := "fnExactIsStructural", fn := fun _ => fun
  | [d] => { results := [.lit (.bool true)], args := [d] }
  | _ => none }
def fnExactIsStructuralRow : OpenClaim := { program := "ytmkamodmnplclaa", sum := "f3742591e3cd9b9f65a43273d4d903c82acdfae5d3abd2b5eaad71e13c233ec2", func := "loop.example/g01145/laws.FnExactIsStructural", spec := "fnExactIsStructural", inPlace := ["internal/bytealg.IndexByteString"], unfollowed := true, recurses := true, apart := false }
def FnExactIsStructuralSaid : Prop := fnExactIsStructuralRow.holds Try.pinned (OpenSpec.ofChange fnExactIsStructuralSpec)

/-- ITS FALSE NEIGHBOUR: 'it returns false'. Refute it at one input. -/
def fnExactIsStructuralWrong : ChangeSpec := { name := "fnExactIsStructural", fn := fun _ => fun
  | [d] => { results := [.lit (.bool false)], args := [d] }
  | _ => none }
def FnExactIsStructuralWrongFalsely : Prop := fnExactIsStructuralRow.holds Try.pinned (OpenSpec.ofChange fnExactIsStructuralWrong)

/- THE SECOND FORM. 'bulk': how many values and letters a reading holds, each counted each time it is reached (what is shared counts as often as it is met; a slice's spare places count too). A statement '..UptoSaid' is the law's where the arguments, and the package variables that the reading takes, are together of bulk at most 1048576: NARROWER than '..Said'. Prove '..Said' where nothing that the law and all that it calls make is longer than what came in: it says more and counts as full. Else prove '..UptoSaid'. A law counts once. -/
mutual
def uptoBulk {H : Type} : DataW H → Nat
  | .lit (.string bytes) => bytes.length + 1
  | .lit _ => 1
  | .nil => 1
  | .ptr d => uptoBulk d + 1
  | .slice elems spare => uptoBulkAll elems + uptoBulkAll spare + 1
  | .agg parts => uptoBulkAll parts + 1
  | .iface _ d => uptoBulk d + 1
  | .map entries => uptoBulkEntries entries + 1
  | .held _ => 1
def uptoBulkAll {H : Type} : List (DataW H) → Nat
  | [] => 0
  | d :: r => uptoBulk d + uptoBulkAll r
def uptoBulkEntries {H : Type} : List (Lit × DataW H) → Nat
  | [] => 0
  | x :: r => uptoBulkEntry x + uptoBulkEntries r
def uptoBulkEntry {H : Type} : Lit × DataW H → Nat
  | (.string bytes, d) => bytes.length + uptoBulk d + 1
  | (_, d) => uptoBulk d + 1
 end
def uptoSmall : (H : Type) → List (DataW H) → Bool := fun _ ds => decide (uptoBulkAll ds ≤ 1048576)
def OpenSpec.upto (s : _root_.Go.ChangeSpec) : _root_.Go.OpenSpec := { _root_.Go.OpenSpec.ofChange s with cond := some uptoSmall }

/-- 'laws.FnExactSameProgram', WHERE WHAT IT READS IS OF BULK AT MOST 1048576: true; the input reads as it did. -/
def fnExactSameProgramUptoRow : OpenClaim := { program := "ytmkamodmnplclaa", sum := "f3742591e3cd9b9f65a43273d4d903c82acdfae5d3abd2b5eaad71e13c233ec2", func := "loop.example/g01145/laws.FnExactSameProgram", spec := "fnExactSameProgram", unfollowed := true, recurses := true, apart := false, narrowed := true }
def FnExactSameProgramUptoSaid : Prop := fnExactSameProgramUptoRow.holds Try.pinned (OpenSpec.upto fnExactSameProgramSpec)

/-- 'laws.FnExactIdentityRewriter', WHERE WHAT IT READS IS OF BULK AT MOST 1048576: true; the input reads as it did. -/
def fnExactIdentityRewriterUptoRow : OpenClaim := { program := "ytmkamodmnplclaa", sum := "f3742591e3cd9b9f65a43273d4d903c82acdfae5d3abd2b5eaad71e13c233ec2", func := "loop.example/g01145/laws.FnExactIdentityRewriter", spec := "fnExactIdentityRewriter", unfollowed := true, recurses := true, apart := false, narrowed := true }
def FnExactIdentityRewriterUptoSaid : Prop := fnExactIdentityRewriterUptoRow.holds Try.pinned (OpenSpec.upto fnExactIdentityRewriterSpec)

/-- 'laws.FnExactFixRewriter', WHERE WHAT IT READS IS OF BULK AT MOST 1048576: true; the input reads as it did. -/
def fnExactFixRewriterUptoRow : OpenClaim := { program := "ytmkamodmnplclaa", sum := "f3742591e3cd9b9f65a43273d4d903c82acdfae5d3abd2b5eaad71e13c233ec2", func := "loop.example/g01145/laws.FnExactFixRewriter", spec := "fnExactFixRewriter", unfollowed := true, recurses := true, apart := false, narrowed := true }
def FnExactFixRewriterUptoSaid : Prop := fnExactFixRewriterUptoRow.holds Try.pinned (OpenSpec.upto fnExactFixRewriterSpec)

/-- 'laws.FnExactDropRewriter', WHERE WHAT IT READS IS OF BULK AT MOST 1048576: true; the input reads as it did. -/
def fnExactDropRewriterUptoRow : OpenClaim := { program := "ytmkamodmnplclaa", sum := "f3742591e3cd9b9f65a43273d4d903c82acdfae5d3abd2b5eaad71e13c233ec2", func := "loop.example/g01145/laws.FnExactDropRewriter", spec := "fnExactDropRewriter", inPlace := ["internal/bytealg.IndexByteString"], unfollowed := true, recurses := true, apart := false, narrowed := true }
def FnExactDropRewriterUptoSaid : Prop := fnExactDropRewriterUptoRow.holds Try.pinned (OpenSpec.upto fnExactDropRewriterSpec)

/-- 'laws.FnExactThinRewriter', WHERE WHAT IT READS IS OF BULK AT MOST 1048576: true; the input reads as it did. -/
def fnExactThinRewriterUptoRow : OpenClaim := { program := "ytmkamodmnplclaa", sum := "f3742591e3cd9b9f65a43273d4d903c82acdfae5d3abd2b5eaad71e13c233ec2", func := "loop.example/g01145/laws.FnExactThinRewriter", spec := "fnExactThinRewriter", inPlace := ["internal/bytealg.IndexByteString"], unfollowed := true, recurses := true, apart := false, narrowed := true }
def FnExactThinRewriterUptoSaid : Prop := fnExactThinRewriterUptoRow.holds Try.pinned (OpenSpec.upto fnExactThinRewriterSpec)

/-- 'laws.FnExactUnwrapRewriter', WHERE WHAT IT READS IS OF BULK AT MOST 1048576: true; the input reads as it did. -/
def fnExactUnwrapRewriterUptoRow : OpenClaim := { program := "ytmkamodmnplclaa", sum := "f3742591e3cd9b9f65a43273d4d903c82acdfae5d3abd2b5eaad71e13c233ec2", func := "loop.example/g01145/laws.FnExactUnwrapRewriter", spec := "fnExactUnwrapRewriter", inPlace := ["internal/bytealg.IndexByteString"], unfollowed := true, recurses := true, apart := false, narrowed := true }
def FnExactUnwrapRewriterUptoSaid : Prop := fnExactUnwrapRewriterUptoRow.holds Try.pinned (OpenSpec.upto fnExactUnwrapRewriterSpec)

/-- 'laws.FnExactRenameRewriter', WHERE WHAT IT READS IS OF BULK AT MOST 1048576: true; the input reads as it did. -/
def fnExactRenameRewriterUptoRow : OpenClaim := { program := "ytmkamodmnplclaa", sum := "f3742591e3cd9b9f65a43273d4d903c82acdfae5d3abd2b5eaad71e13c233ec2", func := "loop.example/g01145/laws.FnExactRenameRewriter", spec := "fnExactRenameRewriter", inPlace := ["internal/bytealg.IndexByteString"], unfollowed := true, recurses := true, apart := false, narrowed := true }
def FnExactRenameRewriterUptoSaid : Prop := fnExactRenameRewriterUptoRow.holds Try.pinned (OpenSpec.upto fnExactRenameRewriterSpec)

/-- 'laws.FnExactValidRewriter', WHERE WHAT IT READS IS OF BULK AT MOST 1048576: true; the input reads as it did. -/
def fnExactValidRewriterUptoRow : OpenClaim := { program := "ytmkamodmnplclaa", sum := "f3742591e3cd9b9f65a43273d4d903c82acdfae5d3abd2b5eaad71e13c233ec2", func := "loop.example/g01145/laws.FnExactValidRewriter", spec := "fnExactValidRewriter", unfollowed := true, recurses := true, apart := false, narrowed := true }
def FnExactValidRewriterUptoSaid : Prop := fnExactValidRewriterUptoRow.holds Try.pinned (OpenSpec.upto fnExactValidRewriterSpec)

/-- 'laws.FnExactIsStructural', WHERE WHAT IT READS IS OF BULK AT MOST 1048576: true; the input reads as it did. -/
def fnExactIsStructuralUptoRow : OpenClaim := { program := "ytmkamodmnplclaa", sum := "f3742591e3cd9b9f65a43273d4d903c82acdfae5d3abd2b5eaad71e13c233ec2", func := "loop.example/g01145/laws.FnExactIsStructural", spec := "fnExactIsStructural", inPlace := ["internal/bytealg.IndexByteString"], unfollowed := true, recurses := true, apart := false, narrowed := true }
def FnExactIsStructuralUptoSaid : Prop := fnExactIsStructuralUptoRow.holds Try.pinned (OpenSpec.upto fnExactIsStructuralSpec)

end Rows
end Go.Proofs.Ytmkamodmnplclaa
