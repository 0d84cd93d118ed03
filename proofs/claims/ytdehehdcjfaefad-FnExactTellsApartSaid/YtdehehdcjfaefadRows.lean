/-
  No cell of these rows narrows 'for every input' (looked for: loops, veiled, ifaces, maps, wideKeys, modest, calm, conditions, laid).
  DERIVED. THE GIVEN ROWS OF THIS SEAT. 6 by the template 'for every input the law returns true; each argument reads behind the call as it read before'; 0 by the template 'total and deterministic' (their statements: YtdehehdcjfaefadTotals.lean).
  GIVEN WITH THE SEED: the statements are not yours to turn. If you find one false, say at which input.
  Laid BY PROGRAM, IN A SANDBOX (cutbox-rows.mjs): the forced cells as the released guide's own fill.sh prints them over the translation 7bdd2192d0799041… (all of the seat's roots in one cut). By AI agents, Wed Nov 11 2026. No macro, syntax, notation, axiom, sorry.
-/
import Derived.Test.YtdehehdcjfaefadChecked
import GoSem.Claim
import GoSem.ClaimJoined
import GoSem.ClaimMapViews
import Derived.JoinedTies
import Derived.KernelRfl
namespace Go.Proofs.Ytdehehdcjfaefad
/- THE CELL 'sum', in the pinned program and in every row, IS THE sha256 OF THE DUMP (.gsa) THAT YtdehehdcjfaefadProg.lean LOADS. Nothing in Lean hashes anything: it is a label: what it is worth is what the hold of that sum in a sandbox is worth. -/
noncomputable def Try.pinned : Pinned := { name := "ytdehehdcjfaefad", sum := "7bdd2192d0799041e2dca690411f0af44243a4750f6a6a3890e2d58ca02d3de9", checked := Try.checked }
namespace Rows
def none {H : Type} : Left H := { results := [], args := [] }

/-- 'laws.FnExactValidChoices': WHATEVER THE INPUT: true; the input reads as it did. -/
def fnExactValidChoicesSpec : ChangeSpec := { name := "fnExactValidChoices", fn := fun _ => fun
  | [d] => { results := [.lit (.bool true)], args := [d] }
  | _ => none }
def fnExactValidChoicesRow : OpenClaim := { program := "ytdehehdcjfaefad", sum := "7bdd2192d0799041e2dca690411f0af44243a4750f6a6a3890e2d58ca02d3de9", func := "loop.example/g01145/laws.FnExactValidChoices", spec := "fnExactValidChoices", unfollowed := true, recurses := true, apart := false }
def FnExactValidChoicesSaid : Prop := fnExactValidChoicesRow.holds Try.pinned (OpenSpec.ofChange fnExactValidChoicesSpec)

/-- ITS FALSE NEIGHBOUR: 'it returns false'. Refute it at one input. -/
def fnExactValidChoicesWrong : ChangeSpec := { name := "fnExactValidChoices", fn := fun _ => fun
  | [d] => { results := [.lit (.bool false)], args := [d] }
  | _ => none }
def FnExactValidChoicesWrongFalsely : Prop := fnExactValidChoicesRow.holds Try.pinned (OpenSpec.ofChange fnExactValidChoicesWrong)

/-- 'laws.FnExactChoicesOf': WHATEVER THE INPUT: true; the input reads as it did. -/
def fnExactChoicesOfSpec : ChangeSpec := { name := "fnExactChoicesOf", fn := fun _ => fun
  | [d] => { results := [.lit (.bool true)], args := [d] }
  | _ => none }
def fnExactChoicesOfRow : OpenClaim := { program := "ytdehehdcjfaefad", sum := "7bdd2192d0799041e2dca690411f0af44243a4750f6a6a3890e2d58ca02d3de9", func := "loop.example/g01145/laws.FnExactChoicesOf", spec := "fnExactChoicesOf", unfollowed := true, recurses := true, apart := false }
def FnExactChoicesOfSaid : Prop := fnExactChoicesOfRow.holds Try.pinned (OpenSpec.ofChange fnExactChoicesOfSpec)

/-- ITS FALSE NEIGHBOUR: 'it returns false'. Refute it at one input. -/
def fnExactChoicesOfWrong : ChangeSpec := { name := "fnExactChoicesOf", fn := fun _ => fun
  | [d] => { results := [.lit (.bool false)], args := [d] }
  | _ => none }
def FnExactChoicesOfWrongFalsely : Prop := fnExactChoicesOfRow.holds Try.pinned (OpenSpec.ofChange fnExactChoicesOfWrong)

/-- 'laws.FnExactTellsApart': WHATEVER THE INPUT: true; the input reads as it did. -/
def fnExactTellsApartSpec : ChangeSpec := { name := "fnExactTellsApart", fn := fun _ => fun
  | [d1, d2, d3, d4] => { results := [.lit (.bool true)], args := [d1, d2, d3, d4] }
  | _ => none }
def fnExactTellsApartRow : OpenClaim := { program := "ytdehehdcjfaefad", sum := "7bdd2192d0799041e2dca690411f0af44243a4750f6a6a3890e2d58ca02d3de9", func := "loop.example/g01145/laws.FnExactTellsApart", spec := "fnExactTellsApart", inPlace := ["internal/bytealg.IndexByteString"], unfollowed := true, recurses := true, apart := false }
def FnExactTellsApartSaid : Prop := fnExactTellsApartRow.holds Try.pinned (OpenSpec.ofChange fnExactTellsApartSpec)

/-- ITS FALSE NEIGHBOUR: 'it returns false'. Refute it at one input. -/
def fnExactTellsApartWrong : ChangeSpec := { name := "fnExactTellsApart", fn := fun _ => fun
  | [d1, d2, d3, d4] => { results := [.lit (.bool false)], args := [d1, d2, d3, d4] }
  | _ => none }
def FnExactTellsApartWrongFalsely : Prop := fnExactTellsApartRow.holds Try.pinned (OpenSpec.ofChange fnExactTellsApartWrong)

/-- 'laws.FnExactValidAlgebra': WHATEVER THE INPUT: true; the input reads as it did. -/
def fnExactValidAlgebraSpec : ChangeSpec := { name := "fnExactValidAlgebra", fn := fun _ => fun
  | [d] => { results := [.lit (.bool true)], args := [d] }
  | _ => none }
def fnExactValidAlgebraRow : OpenClaim := { program := "ytdehehdcjfaefad", sum := "7bdd2192d0799041e2dca690411f0af44243a4750f6a6a3890e2d58ca02d3de9", func := "loop.example/g01145/laws.FnExactValidAlgebra", spec := "fnExactValidAlgebra", unfollowed := true, recurses := true, apart := false }
def FnExactValidAlgebraSaid : Prop := fnExactValidAlgebraRow.holds Try.pinned (OpenSpec.ofChange fnExactValidAlgebraSpec)

/-- ITS FALSE NEIGHBOUR: 'it returns false'. Refute it at one input. -/
def fnExactValidAlgebraWrong : ChangeSpec := { name := "fnExactValidAlgebra", fn := fun _ => fun
  | [d] => { results := [.lit (.bool false)], args := [d] }
  | _ => none }
def FnExactValidAlgebraWrongFalsely : Prop := fnExactValidAlgebraRow.holds Try.pinned (OpenSpec.ofChange fnExactValidAlgebraWrong)

/-- 'laws.FnExactElementOf': WHATEVER THE INPUT: true; the input reads as it did. -/
def fnExactElementOfSpec : ChangeSpec := { name := "fnExactElementOf", fn := fun _ => fun
  | [d1, d2] => { results := [.lit (.bool true)], args := [d1, d2] }
  | _ => none }
def fnExactElementOfRow : OpenClaim := { program := "ytdehehdcjfaefad", sum := "7bdd2192d0799041e2dca690411f0af44243a4750f6a6a3890e2d58ca02d3de9", func := "loop.example/g01145/laws.FnExactElementOf", spec := "fnExactElementOf", inPlace := ["internal/bytealg.IndexByteString"], unfollowed := true, recurses := true, apart := false }
def FnExactElementOfSaid : Prop := fnExactElementOfRow.holds Try.pinned (OpenSpec.ofChange fnExactElementOfSpec)

/-- ITS FALSE NEIGHBOUR: 'it returns false'. Refute it at one input. -/
def fnExactElementOfWrong : ChangeSpec := { name := "fnExactElementOf", fn := fun _ => fun
  | [d1, d2] => { results := [.lit (.bool false)], args := [d1, d2] }
  | _ => none }
def FnExactElementOfWrongFalsely : Prop := fnExactElementOfRow.holds Try.pinned (OpenSpec.ofChange fnExactElementOfWrong)

/-- 'laws.FnExactMatchedAt': WHATEVER THE INPUT: true; the input reads as it did. -/
def fnExactMatchedAtSpec : ChangeSpec := { name := "fnExactMatchedAt", fn := fun _ => fun
  | [d1, d2] => { results := [.lit (.bool true)], args := [d1, d2] }
  | _ => none }
def fnExactMatchedAtRow : OpenClaim := { program := "ytdehehdcjfaefad", sum := "7bdd2192d0799041e2dca690411f0af44243a4750f6a6a3890e2d58ca02d3de9", func := "loop.example/g01145/laws.FnExactMatchedAt", spec := "fnExactMatchedAt", apart := false }
def FnExactMatchedAtSaid : Prop := fnExactMatchedAtRow.holds Try.pinned (OpenSpec.ofChange fnExactMatchedAtSpec)

/-- ITS FALSE NEIGHBOUR: 'it returns false'. Refute it at one input. -/
def fnExactMatchedAtWrong : ChangeSpec := { name := "fnExactMatchedAt", fn := fun _ => fun
  | [d1, d2] => { results := [.lit (.bool false)], args := [d1, d2] }
  | _ => none }
def FnExactMatchedAtWrongFalsely : Prop := fnExactMatchedAtRow.holds Try.pinned (OpenSpec.ofChange fnExactMatchedAtWrong)

/- THE SECOND FORM. 'bulk': how many values and letters a reading holds, each counted each time it is reached (what is shared counts as often as it is met; a slice's spare places count too). A statement '..UptoSaid' is the law's where the arguments, and the package variables that the reading takes, are together of bulk at most 1048576: NARROWER than '..Said'. Prove '..Said' where nothing that the law and all that it calls make is longer than what came in: it says more and counts as full. Else prove '..UptoSaid'. A law counts once. -/
mutual
def uptoBulk {H : Type} : DataW H → Nat
  | .lit (.string bytes) => bytes.length + 1
  | .lit _ => 1
  | .nil => 1
  | .ptr d => uptoBulk d + 1
  | .slice elems spare => uptoBulkAll elems + uptoBulkAll spare + 1
  | .agg parts => uptoBulkAll parts + 1
  | .iface _ d => uptoBulk d + 1
  | .map entries => uptoBulkEntries entries + 1
  | .held _ => 1
def uptoBulkAll {H : Type} : List (DataW H) → Nat
  | [] => 0
  | d :: r => uptoBulk d + uptoBulkAll r
def uptoBulkEntries {H : Type} : List (Lit × DataW H) → Nat
  | [] => 0
  | x :: r => uptoBulkEntry x + uptoBulkEntries r
def uptoBulkEntry {H : Type} : Lit × DataW H → Nat
  | (.string bytes, d) => bytes.length + uptoBulk d + 1
  | (_, d) => uptoBulk d + 1
 end
def uptoSmall : (H : Type) → List (DataW H) → Bool := fun _ ds => decide (uptoBulkAll ds ≤ 1048576)
def OpenSpec.upto (s : _root_.Go.ChangeSpec) : _root_.Go.OpenSpec := { _root_.Go.OpenSpec.ofChange s with cond := some uptoSmall }

/-- 'laws.FnExactValidChoices', WHERE WHAT IT READS IS OF BULK AT MOST 1048576: true; the input reads as it did. -/
def fnExactValidChoicesUptoRow : OpenClaim := { program := "ytdehehdcjfaefad", sum := "7bdd2192d0799041e2dca690411f0af44243a4750f6a6a3890e2d58ca02d3de9", func := "loop.example/g01145/laws.FnExactValidChoices", spec := "fnExactValidChoices", unfollowed := true, recurses := true, apart := false, narrowed := true }
def FnExactValidChoicesUptoSaid : Prop := fnExactValidChoicesUptoRow.holds Try.pinned (OpenSpec.upto fnExactValidChoicesSpec)

/-- 'laws.FnExactChoicesOf', WHERE WHAT IT READS IS OF BULK AT MOST 1048576: true; the input reads as it did. -/
def fnExactChoicesOfUptoRow : OpenClaim := { program := "ytdehehdcjfaefad", sum := "7bdd2192d0799041e2dca690411f0af44243a4750f6a6a3890e2d58ca02d3de9", func := "loop.example/g01145/laws.FnExactChoicesOf", spec := "fnExactChoicesOf", unfollowed := true, recurses := true, apart := false, narrowed := true }
def FnExactChoicesOfUptoSaid : Prop := fnExactChoicesOfUptoRow.holds Try.pinned (OpenSpec.upto fnExactChoicesOfSpec)

/-- 'laws.FnExactTellsApart', WHERE WHAT IT READS IS OF BULK AT MOST 1048576: true; the input reads as it did. -/
def fnExactTellsApartUptoRow : OpenClaim := { program := "ytdehehdcjfaefad", sum := "7bdd2192d0799041e2dca690411f0af44243a4750f6a6a3890e2d58ca02d3de9", func := "loop.example/g01145/laws.FnExactTellsApart", spec := "fnExactTellsApart", inPlace := ["internal/bytealg.IndexByteString"], unfollowed := true, recurses := true, apart := false, narrowed := true }
def FnExactTellsApartUptoSaid : Prop := fnExactTellsApartUptoRow.holds Try.pinned (OpenSpec.upto fnExactTellsApartSpec)

/-- 'laws.FnExactValidAlgebra', WHERE WHAT IT READS IS OF BULK AT MOST 1048576: true; the input reads as it did. -/
def fnExactValidAlgebraUptoRow : OpenClaim := { program := "ytdehehdcjfaefad", sum := "7bdd2192d0799041e2dca690411f0af44243a4750f6a6a3890e2d58ca02d3de9", func := "loop.example/g01145/laws.FnExactValidAlgebra", spec := "fnExactValidAlgebra", unfollowed := true, recurses := true, apart := false, narrowed := true }
def FnExactValidAlgebraUptoSaid : Prop := fnExactValidAlgebraUptoRow.holds Try.pinned (OpenSpec.upto fnExactValidAlgebraSpec)

/-- 'laws.FnExactElementOf', WHERE WHAT IT READS IS OF BULK AT MOST 1048576: true; the input reads as it did. -/
def fnExactElementOfUptoRow : OpenClaim := { program := "ytdehehdcjfaefad", sum := "7bdd2192d0799041e2dca690411f0af44243a4750f6a6a3890e2d58ca02d3de9", func := "loop.example/g01145/laws.FnExactElementOf", spec := "fnExactElementOf", inPlace := ["internal/bytealg.IndexByteString"], unfollowed := true, recurses := true, apart := false, narrowed := true }
def FnExactElementOfUptoSaid : Prop := fnExactElementOfUptoRow.holds Try.pinned (OpenSpec.upto fnExactElementOfSpec)

/-- 'laws.FnExactMatchedAt', WHERE WHAT IT READS IS OF BULK AT MOST 1048576: true; the input reads as it did. -/
def fnExactMatchedAtUptoRow : OpenClaim := { program := "ytdehehdcjfaefad", sum := "7bdd2192d0799041e2dca690411f0af44243a4750f6a6a3890e2d58ca02d3de9", func := "loop.example/g01145/laws.FnExactMatchedAt", spec := "fnExactMatchedAt", apart := false, narrowed := true }
def FnExactMatchedAtUptoSaid : Prop := fnExactMatchedAtUptoRow.holds Try.pinned (OpenSpec.upto fnExactMatchedAtSpec)

end Rows
end Go.Proofs.Ytdehehdcjfaefad
