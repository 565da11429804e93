/-
  DERIVED. GIVEN WITH THE SEED: THE CARDS: each row of YtkcgnommiaiidabDoorRows.lean that lists a variable, with what it lists TIED to the program's text (the seventh form; the later family's looks); each row that meets fmt, with fmt's text TOLD by the authors' own Lean function (tested against real Go, not proved from fmt's source: count such statements apart). THE CARD IS WHAT COUNTS. Prove the row's statement (the work); the ties are given (YtkcgnommiaiidabDoorTie.lean); close each card by the builder's one call (the guide's Derived/Test/ToyasCard.lean, 'card_holds'). Laid BY PROGRAM, IN A SANDBOX (cutbox-door.mjs). By AI agents, Wed Nov 11 2026. No macro, syntax, notation, axiom, sorry.
-/
import Derived.Test.YtkcgnommiaiidabDoorRows
import GoSem.ClaimSeven
namespace Go.Proofs.YtkcgnommiaiidabDoor
namespace Rows

/-- THE TIED CARD OF 'pedigreelaw01.ValueSorts'. -/
def valueSortsCard : Claim7 := { stood := { row := valueSortsRow, standIns := [], harness := (true, "00c11e9ebc7a1ec928c785998ce3cf2d597a1c71fe0dfc776c4a2911736913aa"), looks := true }, kinds := [], alts := [], laidByText := true, laidKinds := [.data, .data, .data], laidTests := true, laidLooks := .later }
def ValueSortsCardSaid : Prop := Claim7.holds Tryd.pinned (.plain (OpenSpec.ofChange valueSortsSpec)) valueSortsCard

/-- THE TIED CARD OF 'pedigreelaw01.ValueTotal'. -/
def valueTotalCard : Claim7 := { stood := { row := valueTotalRow, standIns := [], harness := (true, "00c11e9ebc7a1ec928c785998ce3cf2d597a1c71fe0dfc776c4a2911736913aa"), looks := true }, kinds := [], alts := [], laidByText := true, laidKinds := [.data, .data, .data, .data], laidTests := true, laidLooks := .later }
def ValueTotalCardSaid : Prop := Claim7.holds Tryd.pinned (.plain (OpenSpec.ofChange valueTotalSpec)) valueTotalCard

/-- THE TIED CARD OF 'pedigreelaw01.ValueColumns'. -/
def valueColumnsCard : Claim7 := { stood := { row := valueColumnsRow, standIns := [], harness := (true, "00c11e9ebc7a1ec928c785998ce3cf2d597a1c71fe0dfc776c4a2911736913aa"), looks := true }, kinds := [], alts := [], laidByText := true, laidKinds := [.data, .data, .data, .data], laidTests := true, laidLooks := .later }
def ValueColumnsCardSaid : Prop := Claim7.holds Tryd.pinned (.plain (OpenSpec.ofChange valueColumnsSpec)) valueColumnsCard

/-- THE TIED CARD OF 'pedigreelaw01.ValueThere'. -/
def valueThereCard : Claim7 := { stood := { row := valueThereRow, standIns := [], harness := (true, "00c11e9ebc7a1ec928c785998ce3cf2d597a1c71fe0dfc776c4a2911736913aa"), looks := true }, kinds := [], alts := [], laidByText := true, laidKinds := [.data, .data, .data, .sentinel, .sentinel, .data], laidTests := true, laidLooks := .later }
def ValueThereCardSaid : Prop := Claim7.holds Tryd.pinned (.plain (OpenSpec.ofChange valueThereSpec)) valueThereCard

/-- THE TIED CARD OF 'pedigreelaw01.ValueRing'. -/
def valueRingCard : Claim7 := { stood := { row := valueRingRow, standIns := [], harness := (true, "00c11e9ebc7a1ec928c785998ce3cf2d597a1c71fe0dfc776c4a2911736913aa"), looks := true }, kinds := [], alts := [], laidByText := true, laidKinds := [.data, .data, .data, .data], laidTests := true, laidLooks := .later }
def ValueRingCardSaid : Prop := Claim7.holds Tryd.pinned (.plain (OpenSpec.ofChange valueRingSpec)) valueRingCard

/-- THE TIED CARD OF 'pedigreelaw01.ValueTexts'. -/
def valueTextsCard : Claim7 := { stood := { row := valueTextsRow, standIns := [], harness := (true, "00c11e9ebc7a1ec928c785998ce3cf2d597a1c71fe0dfc776c4a2911736913aa"), looks := true }, kinds := [], alts := [], laidByText := true, laidKinds := [.data, .data, .data, .data], laidTests := true, laidLooks := .later }
def ValueTextsCardSaid : Prop := Claim7.holds Tryd.pinned (.plain (OpenSpec.ofChange valueTextsSpec)) valueTextsCard

/-- THE SECOND FORM's CARD OF 'pedigreelaw01.ValueSorts'. -/
def valueSortsUptoCard : Claim7 := { stood := { row := valueSortsUptoRow, standIns := [], harness := (true, "00c11e9ebc7a1ec928c785998ce3cf2d597a1c71fe0dfc776c4a2911736913aa"), looks := true }, kinds := [], alts := [], laidByText := true, laidKinds := [.data, .data, .data], laidTests := true, laidLooks := .later }
def ValueSortsUptoCardSaid : Prop := Claim7.holds Tryd.pinned (.plain (OpenSpec.upto valueSortsSpec)) valueSortsUptoCard

/-- THE SECOND FORM's CARD OF 'pedigreelaw01.ValueTotal'. -/
def valueTotalUptoCard : Claim7 := { stood := { row := valueTotalUptoRow, standIns := [], harness := (true, "00c11e9ebc7a1ec928c785998ce3cf2d597a1c71fe0dfc776c4a2911736913aa"), looks := true }, kinds := [], alts := [], laidByText := true, laidKinds := [.data, .data, .data, .data], laidTests := true, laidLooks := .later }
def ValueTotalUptoCardSaid : Prop := Claim7.holds Tryd.pinned (.plain (OpenSpec.upto valueTotalSpec)) valueTotalUptoCard

/-- THE SECOND FORM's CARD OF 'pedigreelaw01.ValueColumns'. -/
def valueColumnsUptoCard : Claim7 := { stood := { row := valueColumnsUptoRow, standIns := [], harness := (true, "00c11e9ebc7a1ec928c785998ce3cf2d597a1c71fe0dfc776c4a2911736913aa"), looks := true }, kinds := [], alts := [], laidByText := true, laidKinds := [.data, .data, .data, .data], laidTests := true, laidLooks := .later }
def ValueColumnsUptoCardSaid : Prop := Claim7.holds Tryd.pinned (.plain (OpenSpec.upto valueColumnsSpec)) valueColumnsUptoCard

/-- THE SECOND FORM's CARD OF 'pedigreelaw01.ValueThere'. -/
def valueThereUptoCard : Claim7 := { stood := { row := valueThereUptoRow, standIns := [], harness := (true, "00c11e9ebc7a1ec928c785998ce3cf2d597a1c71fe0dfc776c4a2911736913aa"), looks := true }, kinds := [], alts := [], laidByText := true, laidKinds := [.data, .data, .data, .sentinel, .sentinel, .data], laidTests := true, laidLooks := .later }
def ValueThereUptoCardSaid : Prop := Claim7.holds Tryd.pinned (.plain (OpenSpec.upto valueThereSpec)) valueThereUptoCard

/-- THE SECOND FORM's CARD OF 'pedigreelaw01.ValueRing'. -/
def valueRingUptoCard : Claim7 := { stood := { row := valueRingUptoRow, standIns := [], harness := (true, "00c11e9ebc7a1ec928c785998ce3cf2d597a1c71fe0dfc776c4a2911736913aa"), looks := true }, kinds := [], alts := [], laidByText := true, laidKinds := [.data, .data, .data, .data], laidTests := true, laidLooks := .later }
def ValueRingUptoCardSaid : Prop := Claim7.holds Tryd.pinned (.plain (OpenSpec.upto valueRingSpec)) valueRingUptoCard

/-- THE SECOND FORM's CARD OF 'pedigreelaw01.ValueTexts'. -/
def valueTextsUptoCard : Claim7 := { stood := { row := valueTextsUptoRow, standIns := [], harness := (true, "00c11e9ebc7a1ec928c785998ce3cf2d597a1c71fe0dfc776c4a2911736913aa"), looks := true }, kinds := [], alts := [], laidByText := true, laidKinds := [.data, .data, .data, .data], laidTests := true, laidLooks := .later }
def ValueTextsUptoCardSaid : Prop := Claim7.holds Tryd.pinned (.plain (OpenSpec.upto valueTextsSpec)) valueTextsUptoCard
end Rows
end Go.Proofs.YtkcgnommiaiidabDoor
