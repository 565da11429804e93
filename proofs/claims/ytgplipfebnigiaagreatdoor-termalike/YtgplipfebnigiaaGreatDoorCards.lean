/-
  DERIVED. GIVEN WITH THE SEED: THE CARDS: each row of YtgplipfebnigiaaGreatDoorRows.lean that lists a variable, with what it lists TIED to the program's text (the seventh form; the later family's looks); each row that meets fmt, with fmt's text TOLD by the authors' own Lean function (tested against real Go, not proved from fmt's source: count such statements apart). THE CARD IS WHAT COUNTS. Prove the row's statement (the work); the ties are given (YtgplipfebnigiaaGreatDoorTie.lean); close each card by the builder's one call (the guide's Derived/Test/ToyasCard.lean, 'card_holds'). Laid BY PROGRAM, IN A SANDBOX (cutbox-door.mjs). By AI agents, Wed Nov 11 2026. No macro, syntax, notation, axiom, sorry.
-/
import Derived.Test.YtgplipfebnigiaaGreatDoorRows
import GoSem.ClaimSeven
namespace Go.Proofs.YtgplipfebnigiaaGreatDoor
namespace Rows

/-- THE TIED CARD OF 'pedigreelaw04.TermCanons'. -/
def termCanonsCard : Claim7 := { stood := { row := termCanonsRow, standIns := [], harness := (true, "f229e6482cd337140d44c8237324b0dccb9b3c3c4e067ce0dd2a722bb1310923"), looks := true }, kinds := [], alts := [], laidByText := true, laidKinds := [.data, .data, .data, .data], laidTests := true, laidLooks := .later }
def TermCanonsCardSaid : Prop := Claim7.holds Tryz.pinned (.plain (OpenSpec.ofChange termCanonsSpec)) termCanonsCard

/-- THE TIED CARD OF 'pedigreelaw04.TermAlike'. -/
def termAlikeCard : Claim7 := { stood := { row := termAlikeRow, standIns := [], harness := (true, "f229e6482cd337140d44c8237324b0dccb9b3c3c4e067ce0dd2a722bb1310923"), looks := true }, kinds := [], alts := [], laidByText := true, laidKinds := [.data, .data, .data, .data, .data], laidTests := true, laidLooks := .later }
def TermAlikeCardSaid : Prop := Claim7.holds Tryz.pinned (.plain (OpenSpec.ofChange termAlikeSpec)) termAlikeCard

/-- THE SECOND FORM's CARD OF 'pedigreelaw04.TermCanons'. -/
def termCanonsUptoCard : Claim7 := { stood := { row := termCanonsUptoRow, standIns := [], harness := (true, "f229e6482cd337140d44c8237324b0dccb9b3c3c4e067ce0dd2a722bb1310923"), looks := true }, kinds := [], alts := [], laidByText := true, laidKinds := [.data, .data, .data, .data], laidTests := true, laidLooks := .later }
def TermCanonsUptoCardSaid : Prop := Claim7.holds Tryz.pinned (.plain (OpenSpec.upto termCanonsSpec)) termCanonsUptoCard

/-- THE SECOND FORM's CARD OF 'pedigreelaw04.TermAlike'. -/
def termAlikeUptoCard : Claim7 := { stood := { row := termAlikeUptoRow, standIns := [], harness := (true, "f229e6482cd337140d44c8237324b0dccb9b3c3c4e067ce0dd2a722bb1310923"), looks := true }, kinds := [], alts := [], laidByText := true, laidKinds := [.data, .data, .data, .data, .data], laidTests := true, laidLooks := .later }
def TermAlikeUptoCardSaid : Prop := Claim7.holds Tryz.pinned (.plain (OpenSpec.upto termAlikeSpec)) termAlikeUptoCard
end Rows
end Go.Proofs.YtgplipfebnigiaaGreatDoor
