/-
  DERIVED. GIVEN WITH THE SEED: THE CARDS: each row of YtpnmepabecbgcaaDoorRows.lean that lists a variable, with what it lists TIED to the program's text (the seventh form; the later family's looks); each row that meets fmt, with fmt's text TOLD by the authors' own Lean function (tested against real Go, not proved from fmt's source: count such statements apart). THE CARD IS WHAT COUNTS. Prove the row's statement (the work); the ties are given (YtpnmepabecbgcaaDoorTie.lean); close each card by the builder's one call (the guide's Derived/Test/ToyasCard.lean, 'card_holds'). Laid BY PROGRAM, IN A SANDBOX (cutbox-door.mjs). By AI agents, Wed Nov 11 2026. No macro, syntax, notation, axiom, sorry.
-/
import Derived.Test.YtpnmepabecbgcaaDoorRows
import GoSem.ClaimSeven
namespace Go.Proofs.YtpnmepabecbgcaaDoor
namespace Rows

/-- THE TIED CARD OF 'pedigreelaw03.LexRounds'. -/
def lexRoundsCard : Claim7 := { stood := { row := lexRoundsRow, standIns := [], harness := (true, "6fe346c8cbf7e9a81ede92fc9ba0298221c7171080483f6974dec5b3ff2ab26d"), looks := true }, kinds := [], alts := [], laidByText := true, laidKinds := [.data, .data, .data, .sentinel, .sentinel, .data, .data], laidTests := true, laidLooks := .later }
def LexRoundsCardSaid : Prop := Claim7.holds Tryd.pinned (.plain (OpenSpec.ofChange lexRoundsSpec)) lexRoundsCard

/-- THE SECOND FORM's CARD OF 'pedigreelaw03.LexRounds'. -/
def lexRoundsUptoCard : Claim7 := { stood := { row := lexRoundsUptoRow, standIns := [], harness := (true, "6fe346c8cbf7e9a81ede92fc9ba0298221c7171080483f6974dec5b3ff2ab26d"), looks := true }, kinds := [], alts := [], laidByText := true, laidKinds := [.data, .data, .data, .sentinel, .sentinel, .data, .data], laidTests := true, laidLooks := .later }
def LexRoundsUptoCardSaid : Prop := Claim7.holds Tryd.pinned (.plain (OpenSpec.upto lexRoundsSpec)) lexRoundsUptoCard
end Rows
end Go.Proofs.YtpnmepabecbgcaaDoor
