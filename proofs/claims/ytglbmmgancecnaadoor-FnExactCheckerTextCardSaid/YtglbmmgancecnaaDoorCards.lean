/-
  DERIVED. GIVEN WITH THE SEED: THE CARDS: each row of YtglbmmgancecnaaDoorRows.lean that lists a variable, with what it lists TIED to the program's text (the seventh form; the later family's looks); each row that meets fmt, with fmt's text TOLD by the authors' own Lean function (tested against real Go, not proved from fmt's source: count such statements apart). THE CARD IS WHAT COUNTS. Prove the row's statement (the work); the ties are given (YtglbmmgancecnaaDoorTie.lean); close each card by the builder's one call (the guide's Derived/Test/ToyasCard.lean, 'card_holds'). Laid BY PROGRAM, IN A SANDBOX (cutbox-door.mjs). By AI agents, Wed Nov 11 2026. No macro, syntax, notation, axiom, sorry.
-/
import Derived.Test.YtglbmmgancecnaaDoorRows
import GoSem.ClaimSeven
namespace Go.Proofs.YtglbmmgancecnaaDoor
namespace Rows

/-- THE TIED CARD OF 'laws.FnExactCheckerText'. -/
def fnExactCheckerTextCard : Claim7 := { stood := { row := fnExactCheckerTextRow, standIns := [], harness := (true, "251ed6f30e1efeb5b6adb40ed5f21bbe7f968b615a33ec569b1b24211fe0d9ce"), looks := false }, kinds := [], alts := [], laidByText := true, laidKinds := [.data, .data, .data], laidTests := true, laidLooks := .later }
def FnExactCheckerTextCardSaid : Prop := Claim7.holds Tryd.pinned (.plain (OpenSpec.ofChange fnExactCheckerTextSpec)) fnExactCheckerTextCard

/-- THE SECOND FORM's CARD OF 'laws.FnExactCheckerText'. -/
def fnExactCheckerTextUptoCard : Claim7 := { stood := { row := fnExactCheckerTextUptoRow, standIns := [], harness := (true, "251ed6f30e1efeb5b6adb40ed5f21bbe7f968b615a33ec569b1b24211fe0d9ce"), looks := false }, kinds := [], alts := [], laidByText := true, laidKinds := [.data, .data, .data], laidTests := true, laidLooks := .later }
def FnExactCheckerTextUptoCardSaid : Prop := Claim7.holds Tryd.pinned (.plain (OpenSpec.upto fnExactCheckerTextSpec)) fnExactCheckerTextUptoCard
end Rows
end Go.Proofs.YtglbmmgancecnaaDoor
