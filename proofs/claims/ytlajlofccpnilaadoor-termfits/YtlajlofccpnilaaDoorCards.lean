/-
  DERIVED. GIVEN WITH THE SEED: THE CARDS: each row of YtlajlofccpnilaaDoorRows.lean that lists a variable, with what it lists TIED to the program's text (the seventh form; the later family's looks); each row that meets fmt, with fmt's text TOLD by the authors' own Lean function (tested against real Go, not proved from fmt's source: count such statements apart). THE CARD IS WHAT COUNTS. Prove the row's statement (the work); the ties are given (YtlajlofccpnilaaDoorTie.lean); close each card by the builder's one call (the guide's Derived/Test/ToyasCard.lean, 'card_holds'). Laid BY PROGRAM, IN A SANDBOX (cutbox-door.mjs). By AI agents, Wed Nov 11 2026. No macro, syntax, notation, axiom, sorry.
-/
import Derived.Test.YtlajlofccpnilaaDoorRows
import GoSem.ClaimSeven
namespace Go.Proofs.YtlajlofccpnilaaDoor
namespace Rows

/-- THE TIED CARD OF 'pedigreelaw04.TermFits'. -/
def termFitsCard : Claim7 := { stood := { row := termFitsRow, standIns := [], harness := (true, "d391493f2e79dbaf9e3a121aeade5b483ca4fad00c0aa3fcb8be1f2789af5e86"), looks := false }, kinds := [], alts := [], laidByText := true, laidKinds := [.data, .data, .data, .data, .data], laidTests := true, laidLooks := .later }
def TermFitsCardSaid : Prop := Claim7.holds Tryd.pinned (.plain (OpenSpec.ofChange termFitsSpec)) termFitsCard

/-- THE TIED CARD OF 'pedigreelaw04.TermMost'. -/
def termMostCard : Claim7 := { stood := { row := termMostRow, standIns := [], harness := (true, "d391493f2e79dbaf9e3a121aeade5b483ca4fad00c0aa3fcb8be1f2789af5e86"), looks := false }, kinds := [], alts := [], laidByText := true, laidKinds := [.data, .data, .data, .data, .data], laidTests := true, laidLooks := .later }
def TermMostCardSaid : Prop := Claim7.holds Tryd.pinned (.plain (OpenSpec.ofChange termMostSpec)) termMostCard

/-- THE SECOND FORM's CARD OF 'pedigreelaw04.TermFits'. -/
def termFitsUptoCard : Claim7 := { stood := { row := termFitsUptoRow, standIns := [], harness := (true, "d391493f2e79dbaf9e3a121aeade5b483ca4fad00c0aa3fcb8be1f2789af5e86"), looks := false }, kinds := [], alts := [], laidByText := true, laidKinds := [.data, .data, .data, .data, .data], laidTests := true, laidLooks := .later }
def TermFitsUptoCardSaid : Prop := Claim7.holds Tryd.pinned (.plain (OpenSpec.upto termFitsSpec)) termFitsUptoCard

/-- THE SECOND FORM's CARD OF 'pedigreelaw04.TermMost'. -/
def termMostUptoCard : Claim7 := { stood := { row := termMostUptoRow, standIns := [], harness := (true, "d391493f2e79dbaf9e3a121aeade5b483ca4fad00c0aa3fcb8be1f2789af5e86"), looks := false }, kinds := [], alts := [], laidByText := true, laidKinds := [.data, .data, .data, .data, .data], laidTests := true, laidLooks := .later }
def TermMostUptoCardSaid : Prop := Claim7.holds Tryd.pinned (.plain (OpenSpec.upto termMostSpec)) termMostUptoCard
end Rows
end Go.Proofs.YtlajlofccpnilaaDoor
