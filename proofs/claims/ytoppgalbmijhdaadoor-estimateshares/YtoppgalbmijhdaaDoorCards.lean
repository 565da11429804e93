/-
  DERIVED. GIVEN WITH THE SEED: THE CARDS: each row of YtoppgalbmijhdaaDoorRows.lean that lists a variable, with what it lists TIED to the program's text (the seventh form; the later family's looks); each row that meets fmt, with fmt's text TOLD by the authors' own Lean function (tested against real Go, not proved from fmt's source: count such statements apart). THE CARD IS WHAT COUNTS. Prove the row's statement (the work); the ties are given (YtoppgalbmijhdaaDoorTie.lean); close each card by the builder's one call (the guide's Derived/Test/ToyasCard.lean, 'card_holds'). Laid BY PROGRAM, IN A SANDBOX (cutbox-door.mjs). By AI agents, Wed Nov 11 2026. No macro, syntax, notation, axiom, sorry.
-/
import Derived.Test.YtoppgalbmijhdaaDoorRows
import GoSem.ClaimSeven
namespace Go.Proofs.YtoppgalbmijhdaaDoor
namespace Rows

/-- THE TIED CARD OF 'pedigreelaw25.EstimateShares'. -/
def estimateSharesCard : Claim7 := { stood := { row := estimateSharesRow, standIns := [], harness := (true, "6d6847a57a1615e628cd555ae9b1ab7004f808e8b4427c40844f2e9dae929dde"), looks := false }, kinds := [], alts := [], laidByText := true, laidKinds := [.data, .data, .data], laidTests := true, laidLooks := .later }
def EstimateSharesCardSaid : Prop := Claim7.holds Tryd.pinned (.plain (OpenSpec.ofChange estimateSharesSpec)) estimateSharesCard

/-- THE SECOND FORM's CARD OF 'pedigreelaw25.EstimateShares'. -/
def estimateSharesUptoCard : Claim7 := { stood := { row := estimateSharesUptoRow, standIns := [], harness := (true, "6d6847a57a1615e628cd555ae9b1ab7004f808e8b4427c40844f2e9dae929dde"), looks := false }, kinds := [], alts := [], laidByText := true, laidKinds := [.data, .data, .data], laidTests := true, laidLooks := .later }
def EstimateSharesUptoCardSaid : Prop := Claim7.holds Tryd.pinned (.plain (OpenSpec.upto estimateSharesSpec)) estimateSharesUptoCard
end Rows
end Go.Proofs.YtoppgalbmijhdaaDoor
