/-
  DERIVED. GIVEN WITH THE SEED: THE CARDS: each row of YtblgjedjljfmcaaGreatDoorRows.lean that lists a variable, with what it lists TIED to the program's text (the seventh form; the later family's looks); each row that meets fmt, with fmt's text TOLD by the authors' own Lean function (tested against real Go, not proved from fmt's source: count such statements apart). THE CARD IS WHAT COUNTS. Prove the row's statement (the work); the ties are given (YtblgjedjljfmcaaGreatDoorTie.lean); close each card by the builder's one call (the guide's Derived/Test/ToyasCard.lean, 'card_holds'). Laid BY PROGRAM, IN A SANDBOX (cutbox-door.mjs). By AI agents, Wed Nov 11 2026. No macro, syntax, notation, axiom, sorry.
-/
import Derived.Test.YtblgjedjljfmcaaGreatDoorRows
import GoSem.ClaimSeven
namespace Go.Proofs.YtblgjedjljfmcaaGreatDoor
namespace Rows

/-- THE TIED CARD OF 'laws.FnExactUndoTreeEdit'. -/
def fnExactUndoTreeEditCard : Claim7 := { stood := { row := fnExactUndoTreeEditRow, standIns := [], harness := (true, "355bbd6f085928ab0b21b630b14708786d218149df64d53e46383d6be260bf71"), looks := true }, kinds := [], alts := [], laidByText := true, laidKinds := [.handle], laidTests := true, laidLooks := .later }
def FnExactUndoTreeEditCardSaid : Prop := Claim7.holds Tryz.pinned (.plain (OpenSpec.ofChange fnExactUndoTreeEditSpec)) fnExactUndoTreeEditCard

/-- THE TIED CARD OF 'laws.FnExactReadTreeEdit'. -/
def fnExactReadTreeEditCard : Claim7 := { stood := { row := fnExactReadTreeEditRow, standIns := [], harness := (true, "355bbd6f085928ab0b21b630b14708786d218149df64d53e46383d6be260bf71"), looks := true }, kinds := [], alts := [], laidByText := true, laidKinds := [.data, .data, .data, .sentinel, .sentinel], laidTests := true, laidLooks := .later }
def FnExactReadTreeEditCardSaid : Prop := Claim7.holds Tryz.pinned (.plain (OpenSpec.ofChange fnExactReadTreeEditSpec)) fnExactReadTreeEditCard

/-- THE SECOND FORM's CARD OF 'laws.FnExactUndoTreeEdit'. -/
def fnExactUndoTreeEditUptoCard : Claim7 := { stood := { row := fnExactUndoTreeEditUptoRow, standIns := [], harness := (true, "355bbd6f085928ab0b21b630b14708786d218149df64d53e46383d6be260bf71"), looks := true }, kinds := [], alts := [], laidByText := true, laidKinds := [.handle], laidTests := true, laidLooks := .later }
def FnExactUndoTreeEditUptoCardSaid : Prop := Claim7.holds Tryz.pinned (.plain (OpenSpec.upto fnExactUndoTreeEditSpec)) fnExactUndoTreeEditUptoCard

/-- THE SECOND FORM's CARD OF 'laws.FnExactReadTreeEdit'. -/
def fnExactReadTreeEditUptoCard : Claim7 := { stood := { row := fnExactReadTreeEditUptoRow, standIns := [], harness := (true, "355bbd6f085928ab0b21b630b14708786d218149df64d53e46383d6be260bf71"), looks := true }, kinds := [], alts := [], laidByText := true, laidKinds := [.data, .data, .data, .sentinel, .sentinel], laidTests := true, laidLooks := .later }
def FnExactReadTreeEditUptoCardSaid : Prop := Claim7.holds Tryz.pinned (.plain (OpenSpec.upto fnExactReadTreeEditSpec)) fnExactReadTreeEditUptoCard
end Rows
end Go.Proofs.YtblgjedjljfmcaaGreatDoor
