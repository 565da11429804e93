/-
  DERIVED. GIVEN WITH THE SEED: THE CARDS: each row of YtkfajjnaadmobaaGreatDoorRows.lean that lists a variable, with what it lists TIED to the program's text (the seventh form; the later family's looks); each row that meets fmt, with fmt's text TOLD by the authors' own Lean function (tested against real Go, not proved from fmt's source: count such statements apart). THE CARD IS WHAT COUNTS. Prove the row's statement (the work); the ties are given (YtkfajjnaadmobaaGreatDoorTie.lean); close each card by the builder's one call (the guide's Derived/Test/ToyasCard.lean, 'card_holds'). Laid BY PROGRAM, IN A SANDBOX (cutbox-door.mjs). By AI agents, Wed Nov 11 2026. No macro, syntax, notation, axiom, sorry.
-/
import Derived.Test.YtkfajjnaadmobaaGreatDoorRows
import GoSem.ClaimSeven
namespace Go.Proofs.YtkfajjnaadmobaaGreatDoor
namespace Rows

/-- THE TIED CARD OF 'pedigreelaw07.CheckFixed'. -/
def checkFixedCard : Claim7 := { stood := { row := checkFixedRow, standIns := [], harness := (true, "2c972b308141b741827ab5b05f32bae3ead49695ea4cc9398d34009d7a434952"), looks := true }, kinds := [], alts := [], laidByText := true, laidKinds := [.data, .data, .data, .data, .data], laidTests := true, laidLooks := .later }
def CheckFixedCardSaid : Prop := Claim7.holds Tryz.pinned (.plain (OpenSpec.ofChange checkFixedSpec)) checkFixedCard

/-- THE TIED CARD OF 'pedigreelaw07.CheckTurned'. -/
def checkTurnedCard : Claim7 := { stood := { row := checkTurnedRow, standIns := [], harness := (true, "2c972b308141b741827ab5b05f32bae3ead49695ea4cc9398d34009d7a434952"), looks := true }, kinds := [], alts := [], laidByText := true, laidKinds := [.data, .data, .data, .data, .data], laidTests := true, laidLooks := .later }
def CheckTurnedCardSaid : Prop := Claim7.holds Tryz.pinned (.plain (OpenSpec.ofChange checkTurnedSpec)) checkTurnedCard

/-- THE SECOND FORM's CARD OF 'pedigreelaw07.CheckFixed'. -/
def checkFixedUptoCard : Claim7 := { stood := { row := checkFixedUptoRow, standIns := [], harness := (true, "2c972b308141b741827ab5b05f32bae3ead49695ea4cc9398d34009d7a434952"), looks := true }, kinds := [], alts := [], laidByText := true, laidKinds := [.data, .data, .data, .data, .data], laidTests := true, laidLooks := .later }
def CheckFixedUptoCardSaid : Prop := Claim7.holds Tryz.pinned (.plain (OpenSpec.upto checkFixedSpec)) checkFixedUptoCard

/-- THE SECOND FORM's CARD OF 'pedigreelaw07.CheckTurned'. -/
def checkTurnedUptoCard : Claim7 := { stood := { row := checkTurnedUptoRow, standIns := [], harness := (true, "2c972b308141b741827ab5b05f32bae3ead49695ea4cc9398d34009d7a434952"), looks := true }, kinds := [], alts := [], laidByText := true, laidKinds := [.data, .data, .data, .data, .data], laidTests := true, laidLooks := .later }
def CheckTurnedUptoCardSaid : Prop := Claim7.holds Tryz.pinned (.plain (OpenSpec.upto checkTurnedSpec)) checkTurnedUptoCard
end Rows
end Go.Proofs.YtkfajjnaadmobaaGreatDoor
