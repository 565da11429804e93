/-
  DERIVED. GIVEN WITH THE SEED: THE CARDS: each row of YtjdnpgpbeppgjaaGreatDoorRows.lean that lists a variable, with what it lists TIED to the program's text (the seventh form; the later family's looks); each row that meets fmt, with fmt's text TOLD by the authors' own Lean function (tested against real Go, not proved from fmt's source: count such statements apart). THE CARD IS WHAT COUNTS. Prove the row's statement (the work); the ties are given (YtjdnpgpbeppgjaaGreatDoorTie.lean); close each card by the builder's one call (the guide's Derived/Test/ToyasCard.lean, 'card_holds'). Laid BY PROGRAM, IN A SANDBOX (cutbox-door.mjs). By AI agents, Wed Nov 11 2026. No macro, syntax, notation, axiom, sorry.
-/
import Derived.Test.YtjdnpgpbeppgjaaGreatDoorRows
import GoSem.ClaimSeven
namespace Go.Proofs.YtjdnpgpbeppgjaaGreatDoor
namespace Rows

/-- THE TIED CARD OF 'pedigreelaw12.PlanMakes'. -/
def planMakesCard : Claim7 := { stood := { row := planMakesRow, standIns := [], harness := (true, "80d1ce57dd746dc8325ec922d60b53d62c7c6f3e200d8c7b0778a97e54bb0968"), looks := true }, kinds := [], alts := [], laidByText := true, laidKinds := [.data, .data, .data, .data], laidTests := true, laidLooks := .later }
def PlanMakesCardSaid : Prop := Claim7.holds Tryz.pinned (.plain (OpenSpec.ofChange planMakesSpec)) planMakesCard

/-- THE TIED CARD OF 'pedigreelaw12.PlanRights'. -/
def planRightsCard : Claim7 := { stood := { row := planRightsRow, standIns := [], harness := (true, "80d1ce57dd746dc8325ec922d60b53d62c7c6f3e200d8c7b0778a97e54bb0968"), looks := true }, kinds := [], alts := [], laidByText := true, laidKinds := [.data, .data, .data, .data], laidTests := true, laidLooks := .later }
def PlanRightsCardSaid : Prop := Claim7.holds Tryz.pinned (.plain (OpenSpec.ofChange planRightsSpec)) planRightsCard

/-- THE SECOND FORM's CARD OF 'pedigreelaw12.PlanMakes'. -/
def planMakesUptoCard : Claim7 := { stood := { row := planMakesUptoRow, standIns := [], harness := (true, "80d1ce57dd746dc8325ec922d60b53d62c7c6f3e200d8c7b0778a97e54bb0968"), looks := true }, kinds := [], alts := [], laidByText := true, laidKinds := [.data, .data, .data, .data], laidTests := true, laidLooks := .later }
def PlanMakesUptoCardSaid : Prop := Claim7.holds Tryz.pinned (.plain (OpenSpec.upto planMakesSpec)) planMakesUptoCard

/-- THE SECOND FORM's CARD OF 'pedigreelaw12.PlanRights'. -/
def planRightsUptoCard : Claim7 := { stood := { row := planRightsUptoRow, standIns := [], harness := (true, "80d1ce57dd746dc8325ec922d60b53d62c7c6f3e200d8c7b0778a97e54bb0968"), looks := true }, kinds := [], alts := [], laidByText := true, laidKinds := [.data, .data, .data, .data], laidTests := true, laidLooks := .later }
def PlanRightsUptoCardSaid : Prop := Claim7.holds Tryz.pinned (.plain (OpenSpec.upto planRightsSpec)) planRightsUptoCard
end Rows
end Go.Proofs.YtjdnpgpbeppgjaaGreatDoor
