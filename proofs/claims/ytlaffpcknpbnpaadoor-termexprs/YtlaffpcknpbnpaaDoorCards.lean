/-
  DERIVED. GIVEN WITH THE SEED: THE CARDS: each row of YtlaffpcknpbnpaaDoorRows.lean that lists a variable, with what it lists TIED to the program's text (the seventh form; the later family's looks); each row that meets fmt, with fmt's text TOLD by the authors' own Lean function (tested against real Go, not proved from fmt's source: count such statements apart). THE CARD IS WHAT COUNTS. Prove the row's statement (the work); the ties are given (YtlaffpcknpbnpaaDoorTie.lean); close each card by the builder's one call (the guide's Derived/Test/ToyasCard.lean, 'card_holds'). Laid BY PROGRAM, IN A SANDBOX (cutbox-door.mjs). By AI agents, Wed Nov 11 2026. No macro, syntax, notation, axiom, sorry.
-/
import Derived.Test.YtlaffpcknpbnpaaDoorRows
import GoSem.ClaimSeven
namespace Go.Proofs.YtlaffpcknpbnpaaDoor
namespace Rows

/-- THE TIED CARD OF 'pedigreelaw04.TermExprs'. -/
def termExprsCard : Claim7 := { stood := { row := termExprsRow, standIns := [], harness := (true, "9ebd4461a8b3920c24cae19196116b31488b370436cb15952f2a6af2cad6cfd1"), looks := true }, kinds := [], alts := [], laidByText := true, laidKinds := [.data, .data, .data, .data], laidTests := true, laidLooks := .later }
def TermExprsCardSaid : Prop := Claim7.holds Tryd.pinned (.plain (OpenSpec.ofChange termExprsSpec)) termExprsCard

/-- THE SECOND FORM's CARD OF 'pedigreelaw04.TermExprs'. -/
def termExprsUptoCard : Claim7 := { stood := { row := termExprsUptoRow, standIns := [], harness := (true, "9ebd4461a8b3920c24cae19196116b31488b370436cb15952f2a6af2cad6cfd1"), looks := true }, kinds := [], alts := [], laidByText := true, laidKinds := [.data, .data, .data, .data], laidTests := true, laidLooks := .later }
def TermExprsUptoCardSaid : Prop := Claim7.holds Tryd.pinned (.plain (OpenSpec.upto termExprsSpec)) termExprsUptoCard
end Rows
end Go.Proofs.YtlaffpcknpbnpaaDoor
