/-
  DERIVED. GIVEN WITH THE SEED: THE CARDS: each row of YtmmkpcbelofkmaaGreatDoorRows.lean that lists a variable, with what it lists TIED to the program's text (the seventh form; the later family's looks); each row that meets fmt, with fmt's text TOLD by the authors' own Lean function (tested against real Go, not proved from fmt's source: count such statements apart). THE CARD IS WHAT COUNTS. Prove the row's statement (the work); the ties are given (YtmmkpcbelofkmaaGreatDoorTie.lean); close each card by the builder's one call (the guide's Derived/Test/ToyasCard.lean, 'card_holds'). Laid BY PROGRAM, IN A SANDBOX (cutbox-door.mjs). By AI agents, Wed Nov 11 2026. No macro, syntax, notation, axiom, sorry.
-/
import Derived.Test.YtmmkpcbelofkmaaGreatDoorRows
import GoSem.ClaimSeven
namespace Go.Proofs.YtmmkpcbelofkmaaGreatDoor
namespace Rows

/-- THE TIED CARD OF 'pedigreelaw07.CheckInputs'. -/
def checkInputsCard : Claim7 := { stood := { row := checkInputsRow, standIns := [], harness := (true, "080a772cf08a9222ee015ffb9d30d679eb411c008d415b5ea271b9c31b8c6c3a"), looks := true }, kinds := [], alts := [], laidByText := true, laidKinds := [.data, .data, .data, .data, .data], laidTests := true, laidLooks := .later }
def CheckInputsCardSaid : Prop := Claim7.holds Tryz.pinned (.plain (OpenSpec.ofChange checkInputsSpec)) checkInputsCard

/-- THE SECOND FORM's CARD OF 'pedigreelaw07.CheckInputs'. -/
def checkInputsUptoCard : Claim7 := { stood := { row := checkInputsUptoRow, standIns := [], harness := (true, "080a772cf08a9222ee015ffb9d30d679eb411c008d415b5ea271b9c31b8c6c3a"), looks := true }, kinds := [], alts := [], laidByText := true, laidKinds := [.data, .data, .data, .data, .data], laidTests := true, laidLooks := .later }
def CheckInputsUptoCardSaid : Prop := Claim7.holds Tryz.pinned (.plain (OpenSpec.upto checkInputsSpec)) checkInputsUptoCard
end Rows
end Go.Proofs.YtmmkpcbelofkmaaGreatDoor
