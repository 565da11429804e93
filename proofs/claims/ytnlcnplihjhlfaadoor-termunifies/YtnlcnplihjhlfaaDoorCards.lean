/-
  DERIVED. GIVEN WITH THE SEED: THE CARDS: each row of YtnlcnplihjhlfaaDoorRows.lean that lists a variable, with what it lists TIED to the program's text (the seventh form; the later family's looks); each row that meets fmt, with fmt's text TOLD by the authors' own Lean function (tested against real Go, not proved from fmt's source: count such statements apart). THE CARD IS WHAT COUNTS. Prove the row's statement (the work); the ties are given (YtnlcnplihjhlfaaDoorTie.lean); close each card by the builder's one call (the guide's Derived/Test/ToyasCard.lean, 'card_holds'). Laid BY PROGRAM, IN A SANDBOX (cutbox-door.mjs). By AI agents, Wed Nov 11 2026. No macro, syntax, notation, axiom, sorry.
-/
import Derived.Test.YtnlcnplihjhlfaaDoorRows
import GoSem.ClaimSeven
namespace Go.Proofs.YtnlcnplihjhlfaaDoor
namespace Rows

/-- THE TIED CARD OF 'pedigreelaw04.TermUnifies'. -/
def termUnifiesCard : Claim7 := { stood := { row := termUnifiesRow, standIns := [], harness := (true, "0e64dd29deb0d1ff4de55353b0bd618d3cc825b59efd51f5b09c070ed33c2a63"), looks := false }, kinds := [], alts := [], laidByText := true, laidKinds := [.data, .data, .data], laidTests := true, laidLooks := .later }
def TermUnifiesCardSaid : Prop := Claim7.holds Tryd.pinned (.plain (OpenSpec.ofChange termUnifiesSpec)) termUnifiesCard

/-- THE SECOND FORM's CARD OF 'pedigreelaw04.TermUnifies'. -/
def termUnifiesUptoCard : Claim7 := { stood := { row := termUnifiesUptoRow, standIns := [], harness := (true, "0e64dd29deb0d1ff4de55353b0bd618d3cc825b59efd51f5b09c070ed33c2a63"), looks := false }, kinds := [], alts := [], laidByText := true, laidKinds := [.data, .data, .data], laidTests := true, laidLooks := .later }
def TermUnifiesUptoCardSaid : Prop := Claim7.holds Tryd.pinned (.plain (OpenSpec.upto termUnifiesSpec)) termUnifiesUptoCard
end Rows
end Go.Proofs.YtnlcnplihjhlfaaDoor
