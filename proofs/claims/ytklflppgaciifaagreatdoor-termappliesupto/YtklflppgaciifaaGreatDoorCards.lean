/-
  DERIVED. GIVEN WITH THE SEED: THE CARDS: each row of YtklflppgaciifaaGreatDoorRows.lean that lists a variable, with what it lists TIED to the program's text (the seventh form; the later family's looks); each row that meets fmt, with fmt's text TOLD by the authors' own Lean function (tested against real Go, not proved from fmt's source: count such statements apart). THE CARD IS WHAT COUNTS. Prove the row's statement (the work); the ties are given (YtklflppgaciifaaGreatDoorTie.lean); close each card by the builder's one call (the guide's Derived/Test/ToyasCard.lean, 'card_holds'). Laid BY PROGRAM, IN A SANDBOX (cutbox-door.mjs). By AI agents, Wed Nov 11 2026. No macro, syntax, notation, axiom, sorry.
-/
import Derived.Test.YtklflppgaciifaaGreatDoorRows
import GoSem.ClaimSeven
namespace Go.Proofs.YtklflppgaciifaaGreatDoor
namespace Rows

/-- THE TIED CARD OF 'pedigreelaw04.TermApplies'. -/
def termAppliesCard : Claim7 := { stood := { row := termAppliesRow, standIns := [], harness := (true, "5320376a9ff01e85d8c692e5b07fd961c97b843ad8c287824a6c03efcadd452f"), looks := true }, kinds := [], alts := [], laidByText := true, laidKinds := [.data, .data, .data, .data], laidTests := true, laidLooks := .later }
def TermAppliesCardSaid : Prop := Claim7.holds Tryz.pinned (.plain (OpenSpec.ofChange termAppliesSpec)) termAppliesCard

/-- THE SECOND FORM's CARD OF 'pedigreelaw04.TermApplies'. -/
def termAppliesUptoCard : Claim7 := { stood := { row := termAppliesUptoRow, standIns := [], harness := (true, "5320376a9ff01e85d8c692e5b07fd961c97b843ad8c287824a6c03efcadd452f"), looks := true }, kinds := [], alts := [], laidByText := true, laidKinds := [.data, .data, .data, .data], laidTests := true, laidLooks := .later }
def TermAppliesUptoCardSaid : Prop := Claim7.holds Tryz.pinned (.plain (OpenSpec.upto termAppliesSpec)) termAppliesUptoCard
end Rows
end Go.Proofs.YtklflppgaciifaaGreatDoor
