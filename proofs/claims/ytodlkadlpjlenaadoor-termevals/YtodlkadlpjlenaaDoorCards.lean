/-
  DERIVED. GIVEN WITH THE SEED: THE CARDS: each row of YtodlkadlpjlenaaDoorRows.lean that lists a variable, with what it lists TIED to the program's text (the seventh form; the later family's looks); each row that meets fmt, with fmt's text TOLD by the authors' own Lean function (tested against real Go, not proved from fmt's source: count such statements apart). THE CARD IS WHAT COUNTS. Prove the row's statement (the work); the ties are given (YtodlkadlpjlenaaDoorTie.lean); close each card by the builder's one call (the guide's Derived/Test/ToyasCard.lean, 'card_holds'). Laid BY PROGRAM, IN A SANDBOX (cutbox-door.mjs). By AI agents, Wed Nov 11 2026. No macro, syntax, notation, axiom, sorry.
-/
import Derived.Test.YtodlkadlpjlenaaDoorRows
import GoSem.ClaimSeven
namespace Go.Proofs.YtodlkadlpjlenaaDoor
namespace Rows

/-- THE TIED CARD OF 'pedigreelaw04.TermEvals'. -/
def termEvalsCard : Claim7 := { stood := { row := termEvalsRow, standIns := [], harness := (true, "687233705a54227130390cfa8b2c27fbceeceab144f6533198ab945a86b13604"), looks := false }, kinds := [], alts := [], laidByText := true, laidKinds := [.data, .data, .data, .data, .data], laidTests := true, laidLooks := .later }
def TermEvalsCardSaid : Prop := Claim7.holds Tryd.pinned (.plain (OpenSpec.ofChange termEvalsSpec)) termEvalsCard

/-- THE SECOND FORM's CARD OF 'pedigreelaw04.TermEvals'. -/
def termEvalsUptoCard : Claim7 := { stood := { row := termEvalsUptoRow, standIns := [], harness := (true, "687233705a54227130390cfa8b2c27fbceeceab144f6533198ab945a86b13604"), looks := false }, kinds := [], alts := [], laidByText := true, laidKinds := [.data, .data, .data, .data, .data], laidTests := true, laidLooks := .later }
def TermEvalsUptoCardSaid : Prop := Claim7.holds Tryd.pinned (.plain (OpenSpec.upto termEvalsSpec)) termEvalsUptoCard
end Rows
end Go.Proofs.YtodlkadlpjlenaaDoor
