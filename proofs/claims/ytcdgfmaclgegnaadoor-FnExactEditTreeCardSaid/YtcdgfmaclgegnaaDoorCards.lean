/-
  DERIVED. GIVEN WITH THE SEED: THE CARDS: each row of YtcdgfmaclgegnaaDoorRows.lean that lists a variable, with what it lists TIED to the program's text (the seventh form; the later family's looks); each row that meets fmt, with fmt's text TOLD by the authors' own Lean function (tested against real Go, not proved from fmt's source: count such statements apart). THE CARD IS WHAT COUNTS. Prove the row's statement (the work); the ties are given (YtcdgfmaclgegnaaDoorTie.lean); close each card by the builder's one call (the guide's Derived/Test/ToyasCard.lean, 'card_holds'). Laid BY PROGRAM, IN A SANDBOX (cutbox-door.mjs). By AI agents, Wed Nov 11 2026. No macro, syntax, notation, axiom, sorry.
-/
import Derived.Test.YtcdgfmaclgegnaaDoorRows
import GoSem.ClaimSeven
namespace Go.Proofs.YtcdgfmaclgegnaaDoor
namespace Rows

/-- THE TIED CARD OF 'laws.FnExactTreeEditText'. -/
def fnExactTreeEditTextCard : Claim7 := { stood := { row := fnExactTreeEditTextRow, standIns := [], harness := (true, "b710ba0454b39109e826a4abbd56b79c33c8d4976a42a5c0d2f3294a15e85572"), looks := true }, kinds := [], alts := [], laidByText := true, laidKinds := [.data, .data, .data], laidTests := true, laidLooks := .later }
def FnExactTreeEditTextCardSaid : Prop := Claim7.holds Tryd.pinned (.plain (OpenSpec.ofChange fnExactTreeEditTextSpec)) fnExactTreeEditTextCard

/-- THE TIED CARD OF 'laws.FnExactEditTree'. -/
def fnExactEditTreeCard : Claim7 := { stood := { row := fnExactEditTreeRow, standIns := [], harness := (true, "b710ba0454b39109e826a4abbd56b79c33c8d4976a42a5c0d2f3294a15e85572"), looks := true }, kinds := [], alts := [], laidByText := true, laidKinds := [.handle], laidTests := true, laidLooks := .later }
def FnExactEditTreeCardSaid : Prop := Claim7.holds Tryd.pinned (.plain (OpenSpec.ofChange fnExactEditTreeSpec)) fnExactEditTreeCard

/-- THE SECOND FORM's CARD OF 'laws.FnExactTreeEditText'. -/
def fnExactTreeEditTextUptoCard : Claim7 := { stood := { row := fnExactTreeEditTextUptoRow, standIns := [], harness := (true, "b710ba0454b39109e826a4abbd56b79c33c8d4976a42a5c0d2f3294a15e85572"), looks := true }, kinds := [], alts := [], laidByText := true, laidKinds := [.data, .data, .data], laidTests := true, laidLooks := .later }
def FnExactTreeEditTextUptoCardSaid : Prop := Claim7.holds Tryd.pinned (.plain (OpenSpec.upto fnExactTreeEditTextSpec)) fnExactTreeEditTextUptoCard

/-- THE SECOND FORM's CARD OF 'laws.FnExactEditTree'. -/
def fnExactEditTreeUptoCard : Claim7 := { stood := { row := fnExactEditTreeUptoRow, standIns := [], harness := (true, "b710ba0454b39109e826a4abbd56b79c33c8d4976a42a5c0d2f3294a15e85572"), looks := true }, kinds := [], alts := [], laidByText := true, laidKinds := [.handle], laidTests := true, laidLooks := .later }
def FnExactEditTreeUptoCardSaid : Prop := Claim7.holds Tryd.pinned (.plain (OpenSpec.upto fnExactEditTreeSpec)) fnExactEditTreeUptoCard
end Rows
end Go.Proofs.YtcdgfmaclgegnaaDoor
