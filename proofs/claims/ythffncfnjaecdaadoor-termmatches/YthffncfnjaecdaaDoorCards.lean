/-
  DERIVED. GIVEN WITH THE SEED: THE CARDS: each row of YthffncfnjaecdaaDoorRows.lean that lists a variable, with what it lists TIED to the program's text (the seventh form; the later family's looks); each row that meets fmt, with fmt's text TOLD by the authors' own Lean function (tested against real Go, not proved from fmt's source: count such statements apart). THE CARD IS WHAT COUNTS. Prove the row's statement (the work); the ties are given (YthffncfnjaecdaaDoorTie.lean); close each card by the builder's one call (the guide's Derived/Test/ToyasCard.lean, 'card_holds'). Laid BY PROGRAM, IN A SANDBOX (cutbox-door.mjs). By AI agents, Wed Nov 11 2026. No macro, syntax, notation, axiom, sorry.
-/
import Derived.Test.YthffncfnjaecdaaDoorRows
import GoSem.ClaimSeven
namespace Go.Proofs.YthffncfnjaecdaaDoor
namespace Rows

/-- THE TIED CARD OF 'pedigreelaw04.TermMatches'. -/
def termMatchesCard : Claim7 := { stood := { row := termMatchesRow, standIns := [], harness := (true, "8258c34af6ff65cbc7aafa01f68531c9feb980913346087058c86a99bfadc3eb"), looks := false }, kinds := [], alts := [], laidByText := true, laidKinds := [.data, .data, .data], laidTests := true, laidLooks := .later }
def TermMatchesCardSaid : Prop := Claim7.holds Tryd.pinned (.plain (OpenSpec.ofChange termMatchesSpec)) termMatchesCard

/-- THE SECOND FORM's CARD OF 'pedigreelaw04.TermMatches'. -/
def termMatchesUptoCard : Claim7 := { stood := { row := termMatchesUptoRow, standIns := [], harness := (true, "8258c34af6ff65cbc7aafa01f68531c9feb980913346087058c86a99bfadc3eb"), looks := false }, kinds := [], alts := [], laidByText := true, laidKinds := [.data, .data, .data], laidTests := true, laidLooks := .later }
def TermMatchesUptoCardSaid : Prop := Claim7.holds Tryd.pinned (.plain (OpenSpec.upto termMatchesSpec)) termMatchesUptoCard
end Rows
end Go.Proofs.YthffncfnjaecdaaDoor
