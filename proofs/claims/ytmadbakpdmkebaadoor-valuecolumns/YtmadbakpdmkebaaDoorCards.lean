/-
  DERIVED. GIVEN WITH THE SEED: THE CARDS: each row of YtmadbakpdmkebaaDoorRows.lean that lists a variable, with what it lists TIED to the program's text (the seventh form; the later family's looks); each row that meets fmt, with fmt's text TOLD by the authors' own Lean function (tested against real Go, not proved from fmt's source: count such statements apart). THE CARD IS WHAT COUNTS. Prove the row's statement (the work); the ties are given (YtmadbakpdmkebaaDoorTie.lean); close each card by the builder's one call (the guide's Derived/Test/ToyasCard.lean, 'card_holds'). Laid BY PROGRAM, IN A SANDBOX (cutbox-door.mjs). By AI agents, Wed Nov 11 2026. No macro, syntax, notation, axiom, sorry.
-/
import Derived.Test.YtmadbakpdmkebaaDoorRows
import GoSem.ClaimSeven
namespace Go.Proofs.YtmadbakpdmkebaaDoor
namespace Rows

/-- THE TIED CARD OF 'pedigreelaw01.ValueColumns'. -/
def valueColumnsCard : Claim7 := { stood := { row := valueColumnsRow, standIns := [], harness := (true, "4cc66bbcb7b0a2172d05ca61d9583dcfbc8752b158a26541d02bb70d38248382"), looks := false }, kinds := [], alts := [], laidByText := true, laidKinds := [.data, .data, .data, .data], laidTests := true, laidLooks := .later }
def ValueColumnsCardSaid : Prop := Claim7.holds Tryd.pinned (.plain (OpenSpec.ofChange valueColumnsSpec)) valueColumnsCard

/-- THE SECOND FORM's CARD OF 'pedigreelaw01.ValueColumns'. -/
def valueColumnsUptoCard : Claim7 := { stood := { row := valueColumnsUptoRow, standIns := [], harness := (true, "4cc66bbcb7b0a2172d05ca61d9583dcfbc8752b158a26541d02bb70d38248382"), looks := false }, kinds := [], alts := [], laidByText := true, laidKinds := [.data, .data, .data, .data], laidTests := true, laidLooks := .later }
def ValueColumnsUptoCardSaid : Prop := Claim7.holds Tryd.pinned (.plain (OpenSpec.upto valueColumnsSpec)) valueColumnsUptoCard
end Rows
end Go.Proofs.YtmadbakpdmkebaaDoor
