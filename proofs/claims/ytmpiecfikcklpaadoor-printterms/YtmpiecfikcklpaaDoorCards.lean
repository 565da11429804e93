/-
  DERIVED. GIVEN WITH THE SEED: THE CARDS: each row of YtmpiecfikcklpaaDoorRows.lean that lists a variable, with what it lists TIED to the program's text (the seventh form; the later family's looks); each row that meets fmt, with fmt's text TOLD by the authors' own Lean function (tested against real Go, not proved from fmt's source: count such statements apart). THE CARD IS WHAT COUNTS. Prove the row's statement (the work); the ties are given (YtmpiecfikcklpaaDoorTie.lean); close each card by the builder's one call (the guide's Derived/Test/ToyasCard.lean, 'card_holds'). Laid BY PROGRAM, IN A SANDBOX (cutbox-door.mjs). By AI agents, Wed Nov 11 2026. No macro, syntax, notation, axiom, sorry.
-/
import Derived.Test.YtmpiecfikcklpaaDoorRows
import GoSem.ClaimSeven
namespace Go.Proofs.YtmpiecfikcklpaaDoor
namespace Rows

/-- THE TIED CARD OF 'pedigreelaw06.PrintTerms'. -/
def printTermsCard : Claim7 := { stood := { row := printTermsRow, standIns := [], harness := (true, "ad4cad6044eeae52ea988510beaa8e95e714032f82eb9faed77d170825f9a852"), looks := false }, kinds := [], alts := [], laidByText := true, laidKinds := [.data, .data, .data, .data, .data, .data], laidTests := true, laidLooks := .later }
def PrintTermsCardSaid : Prop := Claim7.holds Tryd.pinned (.plain (OpenSpec.ofChange printTermsSpec)) printTermsCard

/-- THE SECOND FORM's CARD OF 'pedigreelaw06.PrintTerms'. -/
def printTermsUptoCard : Claim7 := { stood := { row := printTermsUptoRow, standIns := [], harness := (true, "ad4cad6044eeae52ea988510beaa8e95e714032f82eb9faed77d170825f9a852"), looks := false }, kinds := [], alts := [], laidByText := true, laidKinds := [.data, .data, .data, .data, .data, .data], laidTests := true, laidLooks := .later }
def PrintTermsUptoCardSaid : Prop := Claim7.holds Tryd.pinned (.plain (OpenSpec.upto printTermsSpec)) printTermsUptoCard
end Rows
end Go.Proofs.YtmpiecfikcklpaaDoor
