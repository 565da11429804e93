/-
  DERIVED. GIVEN WITH THE SEED: THE CARDS: each row of YteabclfhmapabaaDoorRows.lean that lists a variable, with what it lists TIED to the program's text (the seventh form; the later family's looks); each row that meets fmt, with fmt's text TOLD by the authors' own Lean function (tested against real Go, not proved from fmt's source: count such statements apart). THE CARD IS WHAT COUNTS. Prove the row's statement (the work); the ties are given (YteabclfhmapabaaDoorTie.lean); close each card by the builder's one call (the guide's Derived/Test/ToyasCard.lean, 'card_holds'). Laid BY PROGRAM, IN A SANDBOX (cutbox-door.mjs). By AI agents, Wed Nov 11 2026. No macro, syntax, notation, axiom, sorry.
-/
import Derived.Test.YteabclfhmapabaaDoorRows
import GoSem.ClaimSeven
namespace Go.Proofs.YteabclfhmapabaaDoor
namespace Rows

/-- THE TIED CARD OF 'pedigreelaw12.PlanEager'. -/
def planEagerCard : Claim7 := { stood := { row := planEagerRow, standIns := [], harness := (true, "c88956a9b6c167a90684f9c39d5de5fb701b84d4f243a1562e37dc9b8daae445"), looks := true }, kinds := [], alts := [], laidByText := true, laidKinds := [.data, .data, .data, .data], laidTests := true, laidLooks := .later }
def PlanEagerCardSaid : Prop := Claim7.holds Tryd.pinned (.plain (OpenSpec.ofChange planEagerSpec)) planEagerCard

/-- THE TIED CARD OF 'pedigreelaw12.PlanWider'. -/
def planWiderCard : Claim7 := { stood := { row := planWiderRow, standIns := [], harness := (true, "c88956a9b6c167a90684f9c39d5de5fb701b84d4f243a1562e37dc9b8daae445"), looks := true }, kinds := [], alts := [], laidByText := true, laidKinds := [.data, .data, .data, .data], laidTests := true, laidLooks := .later }
def PlanWiderCardSaid : Prop := Claim7.holds Tryd.pinned (.plain (OpenSpec.ofChange planWiderSpec)) planWiderCard

/-- THE SECOND FORM's CARD OF 'pedigreelaw12.PlanEager'. -/
def planEagerUptoCard : Claim7 := { stood := { row := planEagerUptoRow, standIns := [], harness := (true, "c88956a9b6c167a90684f9c39d5de5fb701b84d4f243a1562e37dc9b8daae445"), looks := true }, kinds := [], alts := [], laidByText := true, laidKinds := [.data, .data, .data, .data], laidTests := true, laidLooks := .later }
def PlanEagerUptoCardSaid : Prop := Claim7.holds Tryd.pinned (.plain (OpenSpec.upto planEagerSpec)) planEagerUptoCard

/-- THE SECOND FORM's CARD OF 'pedigreelaw12.PlanWider'. -/
def planWiderUptoCard : Claim7 := { stood := { row := planWiderUptoRow, standIns := [], harness := (true, "c88956a9b6c167a90684f9c39d5de5fb701b84d4f243a1562e37dc9b8daae445"), looks := true }, kinds := [], alts := [], laidByText := true, laidKinds := [.data, .data, .data, .data], laidTests := true, laidLooks := .later }
def PlanWiderUptoCardSaid : Prop := Claim7.holds Tryd.pinned (.plain (OpenSpec.upto planWiderSpec)) planWiderUptoCard
end Rows
end Go.Proofs.YteabclfhmapabaaDoor
