/-
  DERIVED. GIVEN WITH THE SEED: THE CARDS: each row of YtkkpdhlnnjkpeaaDoorRows.lean that lists a variable, with what it lists TIED to the program's text (the seventh form; the later family's looks); each row that meets fmt, with fmt's text TOLD by the authors' own Lean function (tested against real Go, not proved from fmt's source: count such statements apart). THE CARD IS WHAT COUNTS. Prove the row's statement (the work); the ties are given (YtkkpdhlnnjkpeaaDoorTie.lean); close each card by the builder's one call (the guide's Derived/Test/ToyasCard.lean, 'card_holds'). Laid BY PROGRAM, IN A SANDBOX (cutbox-door.mjs). By AI agents, Wed Nov 11 2026. No macro, syntax, notation, axiom, sorry.
-/
import Derived.Test.YtkkpdhlnnjkpeaaDoorRows
import GoSem.ClaimSeven
namespace Go.Proofs.YtkkpdhlnnjkpeaaDoor
namespace Rows

/-- THE TIED CARD OF 'pedigreelaw04.TermRules'. -/
def termRulesCard : Claim7 := { stood := { row := termRulesRow, standIns := [], harness := (true, "558cb2d65c6153f454fd2752d8217f843db723e533dc578be66e7e39393b2562"), looks := true }, kinds := [], alts := [], laidByText := true, laidKinds := [.data, .data, .data, .data], laidTests := true, laidLooks := .later }
def TermRulesCardSaid : Prop := Claim7.holds Tryd.pinned (.plain (OpenSpec.ofChange termRulesSpec)) termRulesCard

/-- THE SECOND FORM's CARD OF 'pedigreelaw04.TermRules'. -/
def termRulesUptoCard : Claim7 := { stood := { row := termRulesUptoRow, standIns := [], harness := (true, "558cb2d65c6153f454fd2752d8217f843db723e533dc578be66e7e39393b2562"), looks := true }, kinds := [], alts := [], laidByText := true, laidKinds := [.data, .data, .data, .data], laidTests := true, laidLooks := .later }
def TermRulesUptoCardSaid : Prop := Claim7.holds Tryd.pinned (.plain (OpenSpec.upto termRulesSpec)) termRulesUptoCard
end Rows
end Go.Proofs.YtkkpdhlnnjkpeaaDoor
