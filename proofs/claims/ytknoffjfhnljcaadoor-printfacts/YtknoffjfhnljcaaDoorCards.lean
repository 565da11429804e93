/-
  DERIVED. GIVEN WITH THE SEED: THE CARDS: each row of YtknoffjfhnljcaaDoorRows.lean that lists a variable, with what it lists TIED to the program's text (the seventh form; the later family's looks); each row that meets fmt, with fmt's text TOLD by the authors' own Lean function (tested against real Go, not proved from fmt's source: count such statements apart). THE CARD IS WHAT COUNTS. Prove the row's statement (the work); the ties are given (YtknoffjfhnljcaaDoorTie.lean); close each card by the builder's one call (the guide's Derived/Test/ToyasCard.lean, 'card_holds'). Laid BY PROGRAM, IN A SANDBOX (cutbox-door.mjs). By AI agents, Wed Nov 11 2026. No macro, syntax, notation, axiom, sorry.
-/
import Derived.Test.YtknoffjfhnljcaaDoorRows
import GoSem.ClaimSeven
namespace Go.Proofs.YtknoffjfhnljcaaDoor
namespace Rows

/-- THE TIED CARD OF 'pedigreelaw06.PrintFacts'. -/
def printFactsCard : Claim7 := { stood := { row := printFactsRow, standIns := [], harness := (true, "e5d19bc925cbd70f3fdb9a3b51dc33457ee069208e398ffad44d840fb91b5dea"), looks := false }, kinds := [], alts := [], laidByText := true, laidKinds := [.data, .data, .data, .data, .data, .data, .data], laidTests := true, laidLooks := .later }
def PrintFactsCardSaid : Prop := Claim7.holds Tryd.pinned (.plain (OpenSpec.ofChange printFactsSpec)) printFactsCard

/-- THE SECOND FORM's CARD OF 'pedigreelaw06.PrintFacts'. -/
def printFactsUptoCard : Claim7 := { stood := { row := printFactsUptoRow, standIns := [], harness := (true, "e5d19bc925cbd70f3fdb9a3b51dc33457ee069208e398ffad44d840fb91b5dea"), looks := false }, kinds := [], alts := [], laidByText := true, laidKinds := [.data, .data, .data, .data, .data, .data, .data], laidTests := true, laidLooks := .later }
def PrintFactsUptoCardSaid : Prop := Claim7.holds Tryd.pinned (.plain (OpenSpec.upto printFactsSpec)) printFactsUptoCard
end Rows
end Go.Proofs.YtknoffjfhnljcaaDoor
