/-
  DERIVED. GIVEN WITH THE SEED: THE CARDS: each row of YtgfnijhhhgjabaaGreatDoorRows.lean that lists a variable, with what it lists TIED to the program's text (the seventh form; the later family's looks); each row that meets fmt, with fmt's text TOLD by the authors' own Lean function (tested against real Go, not proved from fmt's source: count such statements apart). THE CARD IS WHAT COUNTS. Prove the row's statement (the work); the ties are given (YtgfnijhhhgjabaaGreatDoorTie.lean); close each card by the builder's one call (the guide's Derived/Test/ToyasCard.lean, 'card_holds'). Laid BY PROGRAM, IN A SANDBOX (cutbox-door.mjs). By AI agents, Wed Nov 11 2026. No macro, syntax, notation, axiom, sorry.
-/
import Derived.Test.YtgfnijhhhgjabaaGreatDoorRows
import GoSem.ClaimSeven
namespace Go.Proofs.YtgfnijhhhgjabaaGreatDoor
namespace Rows

/-- THE TIED CARD OF 'pedigreelaw07.CheckOneWay'. -/
def checkOneWayCard : Claim7 := { stood := { row := checkOneWayRow, standIns := [], harness := (true, "833fb77c380b6c1817a387fa1063bb2dcaac3d7619df29ab3901853df9302314"), looks := true }, kinds := [], alts := [], laidByText := true, laidKinds := [.data, .data, .data, .data, .data, .data], laidTests := true, laidLooks := .later }
def CheckOneWayCardSaid : Prop := Claim7.holds Tryz.pinned (.plain (OpenSpec.ofChange checkOneWaySpec)) checkOneWayCard

/-- THE SECOND FORM's CARD OF 'pedigreelaw07.CheckOneWay'. -/
def checkOneWayUptoCard : Claim7 := { stood := { row := checkOneWayUptoRow, standIns := [], harness := (true, "833fb77c380b6c1817a387fa1063bb2dcaac3d7619df29ab3901853df9302314"), looks := true }, kinds := [], alts := [], laidByText := true, laidKinds := [.data, .data, .data, .data, .data, .data], laidTests := true, laidLooks := .later }
def CheckOneWayUptoCardSaid : Prop := Claim7.holds Tryz.pinned (.plain (OpenSpec.upto checkOneWaySpec)) checkOneWayUptoCard
end Rows
end Go.Proofs.YtgfnijhhhgjabaaGreatDoor
