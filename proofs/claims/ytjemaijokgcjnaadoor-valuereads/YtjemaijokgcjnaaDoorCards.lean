/-
  DERIVED. GIVEN WITH THE SEED: THE CARDS: each row of YtjemaijokgcjnaaDoorRows.lean that lists a variable, with what it lists TIED to the program's text (the seventh form; the later family's looks); each row that meets fmt, with fmt's text TOLD by the authors' own Lean function (tested against real Go, not proved from fmt's source: count such statements apart). THE CARD IS WHAT COUNTS. Prove the row's statement (the work); the ties are given (YtjemaijokgcjnaaDoorTie.lean); close each card by the builder's one call (the guide's Derived/Test/ToyasCard.lean, 'card_holds'). Laid BY PROGRAM, IN A SANDBOX (cutbox-door.mjs). By AI agents, Wed Nov 11 2026. No macro, syntax, notation, axiom, sorry.
-/
import Derived.Test.YtjemaijokgcjnaaDoorRows
import GoSem.ClaimSeven
namespace Go.Proofs.YtjemaijokgcjnaaDoor
namespace Rows

/-- THE TIED CARD OF 'pedigreelaw01.ValueReads'. -/
def valueReadsCard : Claim7 := { stood := { row := valueReadsRow, standIns := [], harness := (true, "229518a2960518e94c1429e2c82e4f2fbdd60ce23e44881a638bf93d7eca4498"), looks := true }, kinds := [], alts := [], laidByText := true, laidKinds := [.data, .data, .data, .sentinel, .sentinel], laidTests := true, laidLooks := .later }
def ValueReadsCardSaid : Prop := Claim7.holds Tryd.pinned (.plain (OpenSpec.ofChange valueReadsSpec)) valueReadsCard

/-- THE TIED CARD OF 'pedigreelaw01.ValueThere'. -/
def valueThereCard : Claim7 := { stood := { row := valueThereRow, standIns := [], harness := (true, "229518a2960518e94c1429e2c82e4f2fbdd60ce23e44881a638bf93d7eca4498"), looks := true }, kinds := [], alts := [], laidByText := true, laidKinds := [.data, .data, .data, .sentinel, .sentinel, .data], laidTests := true, laidLooks := .later }
def ValueThereCardSaid : Prop := Claim7.holds Tryd.pinned (.plain (OpenSpec.ofChange valueThereSpec)) valueThereCard

/-- THE SECOND FORM's CARD OF 'pedigreelaw01.ValueReads'. -/
def valueReadsUptoCard : Claim7 := { stood := { row := valueReadsUptoRow, standIns := [], harness := (true, "229518a2960518e94c1429e2c82e4f2fbdd60ce23e44881a638bf93d7eca4498"), looks := true }, kinds := [], alts := [], laidByText := true, laidKinds := [.data, .data, .data, .sentinel, .sentinel], laidTests := true, laidLooks := .later }
def ValueReadsUptoCardSaid : Prop := Claim7.holds Tryd.pinned (.plain (OpenSpec.upto valueReadsSpec)) valueReadsUptoCard

/-- THE SECOND FORM's CARD OF 'pedigreelaw01.ValueThere'. -/
def valueThereUptoCard : Claim7 := { stood := { row := valueThereUptoRow, standIns := [], harness := (true, "229518a2960518e94c1429e2c82e4f2fbdd60ce23e44881a638bf93d7eca4498"), looks := true }, kinds := [], alts := [], laidByText := true, laidKinds := [.data, .data, .data, .sentinel, .sentinel, .data], laidTests := true, laidLooks := .later }
def ValueThereUptoCardSaid : Prop := Claim7.holds Tryd.pinned (.plain (OpenSpec.upto valueThereSpec)) valueThereUptoCard
end Rows
end Go.Proofs.YtjemaijokgcjnaaDoor
