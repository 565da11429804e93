/-
  DERIVED. GIVEN WITH THE SEED: THE CARDS: each row of YtdchfmokicfmnaaDoorRows.lean that lists a variable, with what it lists TIED to the program's text (the seventh form; the later family's looks); each row that meets fmt, with fmt's text TOLD by the authors' own Lean function (tested against real Go, not proved from fmt's source: count such statements apart). THE CARD IS WHAT COUNTS. Prove the row's statement (the work); the ties are given (YtdchfmokicfmnaaDoorTie.lean); close each card by the builder's one call (the guide's Derived/Test/ToyasCard.lean, 'card_holds'). Laid BY PROGRAM, IN A SANDBOX (cutbox-door.mjs). By AI agents, Wed Nov 11 2026. No macro, syntax, notation, axiom, sorry.
-/
import Derived.Test.YtdchfmokicfmnaaDoorRows
import GoSem.ClaimSeven
namespace Go.Proofs.YtdchfmokicfmnaaDoor
namespace Rows

/-- THE TIED CARD OF 'pedigreelaw12.PlanGives'. -/
def planGivesCard : Claim7 := { stood := { row := planGivesRow, standIns := [], harness := (true, "2d7ebffe6071821a090df2851475c03fb876fc468e8b946d87ee8c532d05a4c9"), looks := true }, kinds := [], alts := [], laidByText := true, laidKinds := [.data, .data, .data, .data], laidTests := true, laidLooks := .later }
def PlanGivesCardSaid : Prop := Claim7.holds Tryd.pinned (.plain (OpenSpec.ofChange planGivesSpec)) planGivesCard

/-- THE SECOND FORM's CARD OF 'pedigreelaw12.PlanGives'. -/
def planGivesUptoCard : Claim7 := { stood := { row := planGivesUptoRow, standIns := [], harness := (true, "2d7ebffe6071821a090df2851475c03fb876fc468e8b946d87ee8c532d05a4c9"), looks := true }, kinds := [], alts := [], laidByText := true, laidKinds := [.data, .data, .data, .data], laidTests := true, laidLooks := .later }
def PlanGivesUptoCardSaid : Prop := Claim7.holds Tryd.pinned (.plain (OpenSpec.upto planGivesSpec)) planGivesUptoCard
end Rows
end Go.Proofs.YtdchfmokicfmnaaDoor
