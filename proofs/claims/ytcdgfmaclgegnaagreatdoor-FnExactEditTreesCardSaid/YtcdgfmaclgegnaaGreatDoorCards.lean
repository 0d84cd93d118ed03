/-
  DERIVED. GIVEN WITH THE SEED: THE CARDS: each row of YtcdgfmaclgegnaaGreatDoorRows.lean that lists a variable, with what it lists TIED to the program's text (the seventh form; the later family's looks); each row that meets fmt, with fmt's text TOLD by the authors' own Lean function (tested against real Go, not proved from fmt's source: count such statements apart). THE CARD IS WHAT COUNTS. Prove the row's statement (the work); the ties are given (YtcdgfmaclgegnaaGreatDoorTie.lean); close each card by the builder's one call (the guide's Derived/Test/ToyasCard.lean, 'card_holds'). Laid BY PROGRAM, IN A SANDBOX (cutbox-door.mjs). By AI agents, Wed Nov 11 2026. No macro, syntax, notation, axiom, sorry.
-/
import Derived.Test.YtcdgfmaclgegnaaGreatDoorRows
import GoSem.ClaimSeven
namespace Go.Proofs.YtcdgfmaclgegnaaGreatDoor
namespace Rows

/-- THE TIED CARD OF 'laws.FnExactReadTreeEdit'. -/
def fnExactReadTreeEditCard : Claim7 := { stood := { row := fnExactReadTreeEditRow, standIns := [], harness := (true, "a88c6eac992a9766baf0a3105ffcc8e3fb974af8d3e3b1b151076692cced0375"), looks := true }, kinds := [], alts := [], laidByText := true, laidKinds := [.data, .data, .data, .sentinel, .sentinel], laidTests := true, laidLooks := .later }
def FnExactReadTreeEditCardSaid : Prop := Claim7.holds Tryz.pinned (.plain (OpenSpec.ofChange fnExactReadTreeEditSpec)) fnExactReadTreeEditCard

/-- THE TIED CARD OF 'laws.FnExactUndoTreeEdit'. -/
def fnExactUndoTreeEditCard : Claim7 := { stood := { row := fnExactUndoTreeEditRow, standIns := [], harness := (true, "a88c6eac992a9766baf0a3105ffcc8e3fb974af8d3e3b1b151076692cced0375"), looks := true }, kinds := [], alts := [], laidByText := true, laidKinds := [.handle], laidTests := true, laidLooks := .later }
def FnExactUndoTreeEditCardSaid : Prop := Claim7.holds Tryz.pinned (.plain (OpenSpec.ofChange fnExactUndoTreeEditSpec)) fnExactUndoTreeEditCard

/-- THE TIED CARD OF 'laws.FnExactEditTrees'. -/
def fnExactEditTreesCard : Claim7 := { stood := { row := fnExactEditTreesRow, standIns := [], harness := (true, "a88c6eac992a9766baf0a3105ffcc8e3fb974af8d3e3b1b151076692cced0375"), looks := true }, kinds := [], alts := [], laidByText := true, laidKinds := [.handle], laidTests := true, laidLooks := .later }
def FnExactEditTreesCardSaid : Prop := Claim7.holds Tryz.pinned (.plain (OpenSpec.ofChange fnExactEditTreesSpec)) fnExactEditTreesCard

/-- THE SECOND FORM's CARD OF 'laws.FnExactReadTreeEdit'. -/
def fnExactReadTreeEditUptoCard : Claim7 := { stood := { row := fnExactReadTreeEditUptoRow, standIns := [], harness := (true, "a88c6eac992a9766baf0a3105ffcc8e3fb974af8d3e3b1b151076692cced0375"), looks := true }, kinds := [], alts := [], laidByText := true, laidKinds := [.data, .data, .data, .sentinel, .sentinel], laidTests := true, laidLooks := .later }
def FnExactReadTreeEditUptoCardSaid : Prop := Claim7.holds Tryz.pinned (.plain (OpenSpec.upto fnExactReadTreeEditSpec)) fnExactReadTreeEditUptoCard

/-- THE SECOND FORM's CARD OF 'laws.FnExactUndoTreeEdit'. -/
def fnExactUndoTreeEditUptoCard : Claim7 := { stood := { row := fnExactUndoTreeEditUptoRow, standIns := [], harness := (true, "a88c6eac992a9766baf0a3105ffcc8e3fb974af8d3e3b1b151076692cced0375"), looks := true }, kinds := [], alts := [], laidByText := true, laidKinds := [.handle], laidTests := true, laidLooks := .later }
def FnExactUndoTreeEditUptoCardSaid : Prop := Claim7.holds Tryz.pinned (.plain (OpenSpec.upto fnExactUndoTreeEditSpec)) fnExactUndoTreeEditUptoCard

/-- THE SECOND FORM's CARD OF 'laws.FnExactEditTrees'. -/
def fnExactEditTreesUptoCard : Claim7 := { stood := { row := fnExactEditTreesUptoRow, standIns := [], harness := (true, "a88c6eac992a9766baf0a3105ffcc8e3fb974af8d3e3b1b151076692cced0375"), looks := true }, kinds := [], alts := [], laidByText := true, laidKinds := [.handle], laidTests := true, laidLooks := .later }
def FnExactEditTreesUptoCardSaid : Prop := Claim7.holds Tryz.pinned (.plain (OpenSpec.upto fnExactEditTreesSpec)) fnExactEditTreesUptoCard
end Rows
end Go.Proofs.YtcdgfmaclgegnaaGreatDoor
