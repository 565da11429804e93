/-
  DERIVED. GIVEN WITH THE SEED: THE CARDS: each row of YtfklpedcigdlmaaDoorRows.lean that lists a variable, with what it lists TIED to the program's text (the seventh form; the later family's looks); each row that meets fmt, with fmt's text TOLD by the authors' own Lean function (tested against real Go, not proved from fmt's source: count such statements apart). THE CARD IS WHAT COUNTS. Prove the row's statement (the work); the ties are given (YtfklpedcigdlmaaDoorTie.lean); close each card by the builder's one call (the guide's Derived/Test/ToyasCard.lean, 'card_holds'). Laid BY PROGRAM, IN A SANDBOX (cutbox-door.mjs). By AI agents, Wed Nov 11 2026. No macro, syntax, notation, axiom, sorry.
-/
import Derived.Test.YtfklpedcigdlmaaDoorRows
import GoSem.ClaimSeven
namespace Go.Proofs.YtfklpedcigdlmaaDoor
namespace Rows

/-- THE TIED CARD OF 'pedigreelaw07.CheckPreds'. -/
def checkPredsCard : Claim7 := { stood := { row := checkPredsRow, standIns := [], harness := (true, "cf24c107a65c0c1e0b8f8e38811fdcc851419540f29f0176f389675f90462828"), looks := false }, kinds := [], alts := [], laidByText := true, laidKinds := [.data, .data, .data], laidTests := true, laidLooks := .later }
def CheckPredsCardSaid : Prop := Claim7.holds Tryd.pinned (.plain (OpenSpec.ofChange checkPredsSpec)) checkPredsCard

/-- THE SECOND FORM's CARD OF 'pedigreelaw07.CheckPreds'. -/
def checkPredsUptoCard : Claim7 := { stood := { row := checkPredsUptoRow, standIns := [], harness := (true, "cf24c107a65c0c1e0b8f8e38811fdcc851419540f29f0176f389675f90462828"), looks := false }, kinds := [], alts := [], laidByText := true, laidKinds := [.data, .data, .data], laidTests := true, laidLooks := .later }
def CheckPredsUptoCardSaid : Prop := Claim7.holds Tryd.pinned (.plain (OpenSpec.upto checkPredsSpec)) checkPredsUptoCard
end Rows
end Go.Proofs.YtfklpedcigdlmaaDoor
