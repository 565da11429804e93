/-
  DERIVED. GIVEN WITH THE SEED: THE CARDS: each row of YtnpmhgjbfkgmdaaDoorRows.lean that lists a variable, with what it lists TIED to the program's text (the seventh form; the later family's looks); each row that meets fmt, with fmt's text TOLD by the authors' own Lean function (tested against real Go, not proved from fmt's source: count such statements apart). THE CARD IS WHAT COUNTS. Prove the row's statement (the work); the ties are given (YtnpmhgjbfkgmdaaDoorTie.lean); close each card by the builder's one call (the guide's Derived/Test/ToyasCard.lean, 'card_holds'). Laid BY PROGRAM, IN A SANDBOX (cutbox-door.mjs). By AI agents, Wed Nov 11 2026. No macro, syntax, notation, axiom, sorry.
-/
import Derived.Test.YtnpmhgjbfkgmdaaDoorRows
import GoSem.ClaimSeven
namespace Go.Proofs.YtnpmhgjbfkgmdaaDoor
namespace Rows

/-- THE TIED CARD OF 'pedigreelaw04.TermOne'. -/
def termOneCard : Claim7 := { stood := { row := termOneRow, standIns := [], harness := (true, "49138770df038ee0f1b946a8e1bfdc689742605d86f50ebf6a88f6fbc3d14fc9"), looks := true }, kinds := [], alts := [], laidByText := true, laidKinds := [.data, .data, .data, .data, .data], laidTests := true, laidLooks := .later }
def TermOneCardSaid : Prop := Claim7.holds Tryd.pinned (.plain (OpenSpec.ofChange termOneSpec)) termOneCard

/-- THE SECOND FORM's CARD OF 'pedigreelaw04.TermOne'. -/
def termOneUptoCard : Claim7 := { stood := { row := termOneUptoRow, standIns := [], harness := (true, "49138770df038ee0f1b946a8e1bfdc689742605d86f50ebf6a88f6fbc3d14fc9"), looks := true }, kinds := [], alts := [], laidByText := true, laidKinds := [.data, .data, .data, .data, .data], laidTests := true, laidLooks := .later }
def TermOneUptoCardSaid : Prop := Claim7.holds Tryd.pinned (.plain (OpenSpec.upto termOneSpec)) termOneUptoCard
end Rows
end Go.Proofs.YtnpmhgjbfkgmdaaDoor
