/-
  DERIVED. GIVEN WITH THE SEED: THE CARDS: each row of YteeiiojiipkplaaDoorRows.lean that lists a variable, with what it lists TIED to the program's text (the seventh form; the later family's looks); each row that meets fmt, with fmt's text TOLD by the authors' own Lean function (tested against real Go, not proved from fmt's source: count such statements apart). THE CARD IS WHAT COUNTS. Prove the row's statement (the work); the ties are given (YteeiiojiipkplaaDoorTie.lean); close each card by the builder's one call (the guide's Derived/Test/ToyasCard.lean, 'card_holds'). Laid BY PROGRAM, IN A SANDBOX (cutbox-door.mjs). By AI agents, Wed Nov 11 2026. No macro, syntax, notation, axiom, sorry.
-/
import Derived.Test.YteeiiojiipkplaaDoorRows
import GoSem.ClaimSeven
namespace Go.Proofs.YteeiiojiipkplaaDoor
namespace Rows

/-- THE TIED CARD OF 'pedigreelaw04.TermLiterals'. -/
def termLiteralsCard : Claim7 := { stood := { row := termLiteralsRow, standIns := [], harness := (true, "00c2461ade3f44161c05ce8ee87887f997af98c57335f42d5f0367f2ec91d6db"), looks := true }, kinds := [], alts := [], laidByText := true, laidKinds := [.data, .data, .data, .data], laidTests := true, laidLooks := .later }
def TermLiteralsCardSaid : Prop := Claim7.holds Tryd.pinned (.plain (OpenSpec.ofChange termLiteralsSpec)) termLiteralsCard

/-- THE SECOND FORM's CARD OF 'pedigreelaw04.TermLiterals'. -/
def termLiteralsUptoCard : Claim7 := { stood := { row := termLiteralsUptoRow, standIns := [], harness := (true, "00c2461ade3f44161c05ce8ee87887f997af98c57335f42d5f0367f2ec91d6db"), looks := true }, kinds := [], alts := [], laidByText := true, laidKinds := [.data, .data, .data, .data], laidTests := true, laidLooks := .later }
def TermLiteralsUptoCardSaid : Prop := Claim7.holds Tryd.pinned (.plain (OpenSpec.upto termLiteralsSpec)) termLiteralsUptoCard
end Rows
end Go.Proofs.YteeiiojiipkplaaDoor
