/-
  DERIVED. GIVEN WITH THE SEED: THE CARDS: each row of YtfklpedcigdlmaaGreatDoorRows.lean that lists a variable, with what it lists TIED to the program's text (the seventh form; the later family's looks); each row that meets fmt, with fmt's text TOLD by the authors' own Lean function (tested against real Go, not proved from fmt's source: count such statements apart). THE CARD IS WHAT COUNTS. Prove the row's statement (the work); the ties are given (YtfklpedcigdlmaaGreatDoorTie.lean); close each card by the builder's one call (the guide's Derived/Test/ToyasCard.lean, 'card_holds'). Laid BY PROGRAM, IN A SANDBOX (cutbox-door.mjs). By AI agents, Wed Nov 11 2026. No macro, syntax, notation, axiom, sorry.
-/
import Derived.Test.YtfklpedcigdlmaaGreatDoorRows
import GoSem.ClaimSeven
namespace Go.Proofs.YtfklpedcigdlmaaGreatDoor
namespace Rows

/-- THE TIED CARD OF 'pedigreelaw07.CheckJobs'. -/
def checkJobsCard : Claim7 := { stood := { row := checkJobsRow, standIns := [], harness := (true, "baa1136519aa5dc5aa86cb5286d847f7ade98bdf1f8e1396c8597ddc0cdb8f16"), looks := true }, kinds := [], alts := [], laidByText := true, laidKinds := [.data, .data, .data, .data, .data], laidTests := true, laidLooks := .later }
def CheckJobsCardSaid : Prop := Claim7.holds Tryz.pinned (.plain (OpenSpec.ofChange checkJobsSpec)) checkJobsCard

/-- THE SECOND FORM's CARD OF 'pedigreelaw07.CheckJobs'. -/
def checkJobsUptoCard : Claim7 := { stood := { row := checkJobsUptoRow, standIns := [], harness := (true, "baa1136519aa5dc5aa86cb5286d847f7ade98bdf1f8e1396c8597ddc0cdb8f16"), looks := true }, kinds := [], alts := [], laidByText := true, laidKinds := [.data, .data, .data, .data, .data], laidTests := true, laidLooks := .later }
def CheckJobsUptoCardSaid : Prop := Claim7.holds Tryz.pinned (.plain (OpenSpec.upto checkJobsSpec)) checkJobsUptoCard
end Rows
end Go.Proofs.YtfklpedcigdlmaaGreatDoor
