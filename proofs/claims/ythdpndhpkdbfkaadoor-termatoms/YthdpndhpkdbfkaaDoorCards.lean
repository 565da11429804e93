/-
  DERIVED. GIVEN WITH THE SEED: THE CARDS: each row of YthdpndhpkdbfkaaDoorRows.lean that lists a variable, with what it lists TIED to the program's text (the seventh form; the later family's looks); each row that meets fmt, with fmt's text TOLD by the authors' own Lean function (tested against real Go, not proved from fmt's source: count such statements apart). THE CARD IS WHAT COUNTS. Prove the row's statement (the work); the ties are given (YthdpndhpkdbfkaaDoorTie.lean); close each card by the builder's one call (the guide's Derived/Test/ToyasCard.lean, 'card_holds'). Laid BY PROGRAM, IN A SANDBOX (cutbox-door.mjs). By AI agents, Wed Nov 11 2026. No macro, syntax, notation, axiom, sorry.
-/
import Derived.Test.YthdpndhpkdbfkaaDoorRows
import GoSem.ClaimSeven
namespace Go.Proofs.YthdpndhpkdbfkaaDoor
namespace Rows

/-- THE TIED CARD OF 'pedigreelaw04.TermAtoms'. -/
def termAtomsCard : Claim7 := { stood := { row := termAtomsRow, standIns := [], harness := (true, "7fb943a15d2d312d6bbc5eed5c123629366fba70314ae6f20f5a277b512b7288"), looks := true }, kinds := [], alts := [], laidByText := true, laidKinds := [.data, .data, .data], laidTests := true, laidLooks := .later }
def TermAtomsCardSaid : Prop := Claim7.holds Tryd.pinned (.plain (OpenSpec.ofChange termAtomsSpec)) termAtomsCard

/-- THE SECOND FORM's CARD OF 'pedigreelaw04.TermAtoms'. -/
def termAtomsUptoCard : Claim7 := { stood := { row := termAtomsUptoRow, standIns := [], harness := (true, "7fb943a15d2d312d6bbc5eed5c123629366fba70314ae6f20f5a277b512b7288"), looks := true }, kinds := [], alts := [], laidByText := true, laidKinds := [.data, .data, .data], laidTests := true, laidLooks := .later }
def TermAtomsUptoCardSaid : Prop := Claim7.holds Tryd.pinned (.plain (OpenSpec.upto termAtomsSpec)) termAtomsUptoCard
end Rows
end Go.Proofs.YthdpndhpkdbfkaaDoor
