/-
  DERIVED. GIVEN WITH THE SEED: THE CARDS: each row of YtbclaikfiofciaaDoorRows.lean that lists a variable, with what it lists TIED to the program's text (the seventh form; the later family's looks); each row that meets fmt, with fmt's text TOLD by the authors' own Lean function (tested against real Go, not proved from fmt's source: count such statements apart). THE CARD IS WHAT COUNTS. Prove the row's statement (the work); the ties are given (YtbclaikfiofciaaDoorTie.lean); close each card by the builder's one call (the guide's Derived/Test/ToyasCard.lean, 'card_holds'). Laid BY PROGRAM, IN A SANDBOX (cutbox-door.mjs). By AI agents, Wed Nov 11 2026. No macro, syntax, notation, axiom, sorry.
-/
import Derived.Test.YtbclaikfiofciaaDoorRows
import GoSem.ClaimSeven
namespace Go.Proofs.YtbclaikfiofciaaDoor
namespace Rows

/-- THE TIED CARD OF 'pedigreelaw01.ValueAriths'. -/
def valueArithsCard : Claim7 := { stood := { row := valueArithsRow, standIns := [], harness := (true, "4c35919c07df3b887401c193ad3d06e2ffe8196bfcf969dff31ee0c79d867e00"), looks := false }, kinds := [], alts := [], laidByText := true, laidKinds := [.data], laidTests := true, laidLooks := .later }
def ValueArithsCardSaid : Prop := Claim7.holds Tryd.pinned (.plain (OpenSpec.ofChange valueArithsSpec)) valueArithsCard

/-- THE TIED CARD OF 'pedigreelaw01.ValueTexts'. -/
def valueTextsCard : Claim7 := { stood := { row := valueTextsRow, standIns := [], harness := (true, "4c35919c07df3b887401c193ad3d06e2ffe8196bfcf969dff31ee0c79d867e00"), looks := false }, kinds := [], alts := [], laidByText := true, laidKinds := [.data, .data, .data, .data], laidTests := true, laidLooks := .later }
def ValueTextsCardSaid : Prop := Claim7.holds Tryd.pinned (.plain (OpenSpec.ofChange valueTextsSpec)) valueTextsCard

/-- THE SECOND FORM's CARD OF 'pedigreelaw01.ValueAriths'. -/
def valueArithsUptoCard : Claim7 := { stood := { row := valueArithsUptoRow, standIns := [], harness := (true, "4c35919c07df3b887401c193ad3d06e2ffe8196bfcf969dff31ee0c79d867e00"), looks := false }, kinds := [], alts := [], laidByText := true, laidKinds := [.data], laidTests := true, laidLooks := .later }
def ValueArithsUptoCardSaid : Prop := Claim7.holds Tryd.pinned (.plain (OpenSpec.upto valueArithsSpec)) valueArithsUptoCard

/-- THE SECOND FORM's CARD OF 'pedigreelaw01.ValueTexts'. -/
def valueTextsUptoCard : Claim7 := { stood := { row := valueTextsUptoRow, standIns := [], harness := (true, "4c35919c07df3b887401c193ad3d06e2ffe8196bfcf969dff31ee0c79d867e00"), looks := false }, kinds := [], alts := [], laidByText := true, laidKinds := [.data, .data, .data, .data], laidTests := true, laidLooks := .later }
def ValueTextsUptoCardSaid : Prop := Claim7.holds Tryd.pinned (.plain (OpenSpec.upto valueTextsSpec)) valueTextsUptoCard
end Rows
end Go.Proofs.YtbclaikfiofciaaDoor
