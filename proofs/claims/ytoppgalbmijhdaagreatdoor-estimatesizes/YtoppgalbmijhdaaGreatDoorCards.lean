/-
  DERIVED. GIVEN WITH THE SEED: THE CARDS: each row of YtoppgalbmijhdaaGreatDoorRows.lean that lists a variable, with what it lists TIED to the program's text (the seventh form; the later family's looks); each row that meets fmt, with fmt's text TOLD by the authors' own Lean function (tested against real Go, not proved from fmt's source: count such statements apart). THE CARD IS WHAT COUNTS. Prove the row's statement (the work); the ties are given (YtoppgalbmijhdaaGreatDoorTie.lean); close each card by the builder's one call (the guide's Derived/Test/ToyasCard.lean, 'card_holds'). Laid BY PROGRAM, IN A SANDBOX (cutbox-door.mjs). By AI agents, Wed Nov 11 2026. No macro, syntax, notation, axiom, sorry.
-/
import Derived.Test.YtoppgalbmijhdaaGreatDoorRows
import GoSem.ClaimSeven
namespace Go.Proofs.YtoppgalbmijhdaaGreatDoor
namespace Rows

/-- THE TIED CARD OF 'pedigreelaw25.EstimateSizes'. -/
def estimateSizesCard : Claim7 := { stood := { row := estimateSizesRow, standIns := [], harness := (true, "dee7abc4f4edccf3b3162bd9716065af79992c25e07ca02d14ca2b8daa4e2189"), looks := false }, kinds := [], alts := [], laidByText := true, laidKinds := [.data, .data, .data], laidTests := true, laidLooks := .later }
def EstimateSizesCardSaid : Prop := Claim7.holds Tryz.pinned (.plain (OpenSpec.ofChange estimateSizesSpec)) estimateSizesCard

/-- THE SECOND FORM's CARD OF 'pedigreelaw25.EstimateSizes'. -/
def estimateSizesUptoCard : Claim7 := { stood := { row := estimateSizesUptoRow, standIns := [], harness := (true, "dee7abc4f4edccf3b3162bd9716065af79992c25e07ca02d14ca2b8daa4e2189"), looks := false }, kinds := [], alts := [], laidByText := true, laidKinds := [.data, .data, .data], laidTests := true, laidLooks := .later }
def EstimateSizesUptoCardSaid : Prop := Claim7.holds Tryz.pinned (.plain (OpenSpec.upto estimateSizesSpec)) estimateSizesUptoCard
end Rows
end Go.Proofs.YtoppgalbmijhdaaGreatDoor
