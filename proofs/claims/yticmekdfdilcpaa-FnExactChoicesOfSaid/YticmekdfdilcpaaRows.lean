/-
  No cell of these rows narrows 'for every input' (looked for: loops, veiled, ifaces, maps, wideKeys, modest, calm, conditions, laid).
  DERIVED. THE GIVEN ROWS OF THIS SEAT. 4 by the template 'for every input the law returns true; each argument reads behind the call as it read before'; 0 by the template 'total and deterministic' (their statements: YticmekdfdilcpaaTotals.lean).
  GIVEN WITH THE SEED: the statements are not yours to turn. If you find one false, say at which input.
  Laid BY PROGRAM, IN A SANDBOX (cutbox-rows.mjs): the forced cells as the released guide's own fill.sh prints them over the translation a7fe1f7225bc6117… (all of the seat's roots in one cut). By AI agents, Wed Nov 11 2026. No macro, syntax, notation, axiom, sorry.
-/
import Derived.Test.YticmekdfdilcpaaChecked
import GoSem.Claim
import GoSem.ClaimJoined
import GoSem.ClaimMapViews
import Derived.JoinedTies
import Derived.KernelRfl
namespace Go.Proofs.Yticmekdfdilcpaa
/- THE CELL 'sum', in the pinned program and in every row, IS THE sha256 OF THE DUMP (.gsa) THAT YticmekdfdilcpaaProg.lean LOADS. Nothing in Lean hashes anything: it is a label: what it is worth is what the hold of that sum in a sandbox is worth. -/
noncomputable def Try.pinned : Pinned := { name := "yticmekdfdilcpaa", sum := "a7fe1f7225bc6117e5a0bf714ef36bb2226520280cd4607a31f4f8cd369eff87", checked := Try.checked }
namespace Rows
def none {H : Type} : Left H := { results := [], args := [] }

/-- 'laws.FnExactValidChoices': WHATEVER THE INPUT: true; the input reads as it did. -/
def fnExactValidChoicesSpec : ChangeSpec := { name := "fnExactValidChoices", fn := fun _ => fun
  | [d] => { results := [.lit (.bool true)], args := [d] }
  | _ => none }
def fnExactValidChoicesRow : OpenClaim := { program := "yticmekdfdilcpaa", sum := "a7fe1f7225bc6117e5a0bf714ef36bb2226520280cd4607a31f4f8cd369eff87", func := "loop.example/g01145/laws.FnExactValidChoices", spec := "fnExactValidChoices", unfollowed := true, recurses := true, apart := false }
def FnExactValidChoicesSaid : Prop := fnExactValidChoicesRow.holds Try.pinned (OpenSpec.ofChange fnExactValidChoicesSpec)

/-- ITS FALSE NEIGHBOUR: 'it returns false'. Refute it at one input. -/
def fnExactValidChoicesWrong : ChangeSpec := { name := "fnExactValidChoices", fn := fun _ => fun
  | [d] => { results := [.lit (.bool false)], args := [d] }
  | _ => none }
def FnExactValidChoicesWrongFalsely : Prop := fnExactValidChoicesRow.holds Try.pinned (OpenSpec.ofChange fnExactValidChoicesWrong)

/-- 'laws.FnExactChoicesOf': WHATEVER THE INPUT: true; the input reads as it did. -/
def fnExactChoicesOfSpec : ChangeSpec := { name := "fnExactChoicesOf", fn := fun _ => fun
  | [d] => { results := [.lit (.bool true)], args := [d] }
  | _ => none }
def fnExactChoicesOfRow : OpenClaim := { program := "yticmekdfdilcpaa", sum := "a7fe1f7225bc6117e5a0bf714ef36bb2226520280cd4607a31f4f8cd369eff87", func := "loop.example/g01145/laws.FnExactChoicesOf", spec := "fnExactChoicesOf", unfollowed := true, recurses := true, apart := false }
def FnExactChoicesOfSaid : Prop := fnExactChoicesOfRow.holds Try.pinned (OpenSpec.ofChange fnExactChoicesOfSpec)

/-- ITS FALSE NEIGHBOUR: 'it returns false'. Refute it at one input. -/
def fnExactChoicesOfWrong : ChangeSpec := { name := "fnExactChoicesOf", fn := fun _ => fun
  | [d] => { results := [.lit (.bool false)], args := [d] }
  | _ => none }
def FnExactChoicesOfWrongFalsely : Prop := fnExactChoicesOfRow.holds Try.pinned (OpenSpec.ofChange fnExactChoicesOfWrong)

/-- 'laws.FnExactEitherChoices': WHATEVER THE INPUT: true; the input reads as it did. -/
def fnExactEitherChoicesSpec : ChangeSpec := { name := "fnExactEitherChoices", fn := fun _ => fun
  | [d1, d2] => { results := [.lit (.bool true)], args := [d1, d2] }
  | _ => none }
def fnExactEitherChoicesRow : OpenClaim := { program := "yticmekdfdilcpaa", sum := "a7fe1f7225bc6117e5a0bf714ef36bb2226520280cd4607a31f4f8cd369eff87", func := "loop.example/g01145/laws.FnExactEitherChoices", spec := "fnExactEitherChoices", unfollowed := true, recurses := true, apart := false }
def FnExactEitherChoicesSaid : Prop := fnExactEitherChoicesRow.holds Try.pinned (OpenSpec.ofChange fnExactEitherChoicesSpec)

/-- ITS FALSE NEIGHBOUR: 'it returns false'. Refute it at one input. -/
def fnExactEitherChoicesWrong : ChangeSpec := { name := "fnExactEitherChoices", fn := fun _ => fun
  | [d1, d2] => { results := [.lit (.bool false)], args := [d1, d2] }
  | _ => none }
def FnExactEitherChoicesWrongFalsely : Prop := fnExactEitherChoicesRow.holds Try.pinned (OpenSpec.ofChange fnExactEitherChoicesWrong)

/-- 'laws.FnExactElementOf': WHATEVER THE INPUT: true; the input reads as it did. -/
def fnExactElementOfSpec : ChangeSpec := { name := "fnExactElementOf", fn := fun _ => fun
  | [d1, d2] => { results := [.lit (.bool true)], args := [d1, d2] }
  | _ => none }
def fnExactElementOfRow : OpenClaim := { program := "yticmekdfdilcpaa", sum := "a7fe1f7225bc6117e5a0bf714ef36bb2226520280cd4607a31f4f8cd369eff87", func := "loop.example/g01145/laws.FnExactElementOf", spec := "fnExactElementOf", inPlace := ["internal/bytealg.IndexByteString"], unfollowed := true, recurses := true, apart := false }
def FnExactElementOfSaid : Prop := fnExactElementOfRow.holds Try.pinned (OpenSpec.ofChange fnExactElementOfSpec)

/-- ITS FALSE NEIGHBOUR: 'it returns false'. Refute it at one input. -/
def fnExactElementOfWrong : ChangeSpec := { name := "fnExactElementOf", fn := fun _ => fun
  | [d1, d2] => { results := [.lit (.bool false)], args := [d1, d2] }
  | _ => none }
def FnExactElementOfWrongFalsely : Prop := fnExactElementOfRow.holds Try.pinned (OpenSpec.ofChange fnExactElementOfWrong)

/- THE SECOND FORM. 'bulk': how many values and letters a reading holds, each counted each time it is reached (what is shared counts as often as it is met; a slice's spare places count too). A statement '..UptoSaid' is the law's where the arguments, and the package variables that the reading takes, are together of bulk at most 1048576: NARROWER than '..Said'. Prove '..Said' where nothing that the law and all that it calls make is longer than what came in: it says more and counts as full. Else prove '..UptoSaid'. A law counts once. -/
mutual
def uptoBulk {H : Type} : DataW H → Nat
  | .lit (.string bytes) => bytes.length + 1
  | .lit _ => 1
  | .nil => 1
  | .ptr d => uptoBulk d + 1
  | .slice elems spare => uptoBulkAll elems + uptoBulkAll spare + 1
  | .agg parts => uptoBulkAll parts + 1
  | .iface _ d => uptoBulk d + 1
  | .map entries => uptoBulkEntries entries + 1
  | .held _ => 1
def uptoBulkAll {H : Type} : List (DataW H) → Nat
  | [] => 0
  | d :: r => uptoBulk d + uptoBulkAll r
def uptoBulkEntries {H : Type} : List (Lit × DataW H) → Nat
  | [] => 0
  | x :: r => uptoBulkEntry x + uptoBulkEntries r
def uptoBulkEntry {H : Type} : Lit × DataW H → Nat
  | (.string bytes, d) => bytes.length + uptoBulk d + 1
  | (_, d) => uptoBulk d + 1
 end
def uptoSmall : (H : Type) → List (DataW H) → Bool := fun _ ds => decide (uptoBulkAll ds ≤ 1048576)
def OpenSpec.upto (s : _root_.Go.ChangeSpec) : _root_.Go.OpenSpec := { _root_.Go.OpenSpec.ofChange s with cond := some uptoSmall }

/-- 'laws.FnExactValidChoices', WHERE WHAT IT READS IS OF BULK AT MOST 1048576: true; the input reads as it did. -/
def fnExactValidChoicesUptoRow : OpenClaim := { program := "yticmekdfdilcpaa", sum := "a7fe1f7225bc6117e5a0bf714ef36bb2226520280cd4607a31f4f8cd369eff87", func := "loop.example/g01145/laws.FnExactValidChoices", spec := "fnExactValidChoices", unfollowed := true, recurses := true, apart := false, narrowed := true }
def FnExactValidChoicesUptoSaid : Prop := fnExactValidChoicesUptoRow.holds Try.pinned (OpenSpec.upto fnExactValidChoicesSpec)

/-- 'laws.FnExactChoicesOf', WHERE WHAT IT READS IS OF BULK AT MOST 1048576: true; the input reads as it did. -/
def fnExactChoicesOfUptoRow : OpenClaim := { program := "yticmekdfdilcpaa", sum := "a7fe1f7225bc6117e5a0bf714ef36bb2226520280cd4607a31f4f8cd369eff87", func := "loop.example/g01145/laws.FnExactChoicesOf", spec := "fnExactChoicesOf", unfollowed := true, recurses := true, apart := false, narrowed := true }
def FnExactChoicesOfUptoSaid : Prop := fnExactChoicesOfUptoRow.holds Try.pinned (OpenSpec.upto fnExactChoicesOfSpec)

/-- 'laws.FnExactEitherChoices', WHERE WHAT IT READS IS OF BULK AT MOST 1048576: true; the input reads as it did. -/
def fnExactEitherChoicesUptoRow : OpenClaim := { program := "yticmekdfdilcpaa", sum := "a7fe1f7225bc6117e5a0bf714ef36bb2226520280cd4607a31f4f8cd369eff87", func := "loop.example/g01145/laws.FnExactEitherChoices", spec := "fnExactEitherChoices", unfollowed := true, recurses := true, apart := false, narrowed := true }
def FnExactEitherChoicesUptoSaid : Prop := fnExactEitherChoicesUptoRow.holds Try.pinned (OpenSpec.upto fnExactEitherChoicesSpec)

/-- 'laws.FnExactElementOf', WHERE WHAT IT READS IS OF BULK AT MOST 1048576: true; the input reads as it did. -/
def fnExactElementOfUptoRow : OpenClaim := { program := "yticmekdfdilcpaa", sum := "a7fe1f7225bc6117e5a0bf714ef36bb2226520280cd4607a31f4f8cd369eff87", func := "loop.example/g01145/laws.FnExactElementOf", spec := "fnExactElementOf", inPlace := ["internal/bytealg.IndexByteString"], unfollowed := true, recurses := true, apart := false, narrowed := true }
def FnExactElementOfUptoSaid : Prop := fnExactElementOfUptoRow.holds Try.pinned (OpenSpec.upto fnExactElementOfSpec)

end Rows
end Go.Proofs.Yticmekdfdilcpaa
