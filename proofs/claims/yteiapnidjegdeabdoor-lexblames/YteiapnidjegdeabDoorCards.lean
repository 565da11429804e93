/-
  DERIVED. GIVEN WITH THE SEED: THE CARDS: each row of YteiapnidjegdeabDoorRows.lean that lists a variable, with what it lists TIED to the program's text (the seventh form; the later family's looks); each row that meets fmt, with fmt's text TOLD by the authors' own Lean function (tested against real Go, not proved from fmt's source: count such statements apart). THE CARD IS WHAT COUNTS. Prove the row's statement (the work); the ties are given (YteiapnidjegdeabDoorTie.lean); close each card by the builder's one call (the guide's Derived/Test/ToyasCard.lean, 'card_holds'). Laid BY PROGRAM, IN A SANDBOX (cutbox-door.mjs). By AI agents, Wed Nov 11 2026. No macro, syntax, notation, axiom, sorry.
-/
import Derived.Test.YteiapnidjegdeabDoorRows
import GoSem.ClaimSeven
namespace Go.Proofs.YteiapnidjegdeabDoor
namespace Rows

/-- THE TIED CARD OF 'pedigreelaw03.LexBlames'. -/
def lexBlamesCard : Claim7 := { stood := { row := lexBlamesRow, standIns := [], harness := (true, "f1d2a10ea0ab056b74891f889512b7b935136cb86037d2a911db8fa71ec80e52"), looks := true }, kinds := [], alts := [], laidByText := true, laidKinds := [.data, .data, .data, .sentinel, .sentinel, .data, .data], laidTests := true, laidLooks := .later }
def LexBlamesCardSaid : Prop := Claim7.holds Tryd.pinned (.plain (OpenSpec.ofChange lexBlamesSpec)) lexBlamesCard

/-- THE SECOND FORM's CARD OF 'pedigreelaw03.LexBlames'. -/
def lexBlamesUptoCard : Claim7 := { stood := { row := lexBlamesUptoRow, standIns := [], harness := (true, "f1d2a10ea0ab056b74891f889512b7b935136cb86037d2a911db8fa71ec80e52"), looks := true }, kinds := [], alts := [], laidByText := true, laidKinds := [.data, .data, .data, .sentinel, .sentinel, .data, .data], laidTests := true, laidLooks := .later }
def LexBlamesUptoCardSaid : Prop := Claim7.holds Tryd.pinned (.plain (OpenSpec.upto lexBlamesSpec)) lexBlamesUptoCard
end Rows
end Go.Proofs.YteiapnidjegdeabDoor
