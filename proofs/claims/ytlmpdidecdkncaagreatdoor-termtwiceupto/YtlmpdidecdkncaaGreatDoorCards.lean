/-
  DERIVED. GIVEN WITH THE SEED: THE CARDS: each row of YtlmpdidecdkncaaGreatDoorRows.lean that lists a variable, with what it lists TIED to the program's text (the seventh form; the later family's looks); each row that meets fmt, with fmt's text TOLD by the authors' own Lean function (tested against real Go, not proved from fmt's source: count such statements apart). THE CARD IS WHAT COUNTS. Prove the row's statement (the work); the ties are given (YtlmpdidecdkncaaGreatDoorTie.lean); close each card by the builder's one call (the guide's Derived/Test/ToyasCard.lean, 'card_holds'). Laid BY PROGRAM, IN A SANDBOX (cutbox-door.mjs). By AI agents, Wed Nov 11 2026. No macro, syntax, notation, axiom, sorry.
-/
import Derived.Test.YtlmpdidecdkncaaGreatDoorRows
import GoSem.ClaimSeven
namespace Go.Proofs.YtlmpdidecdkncaaGreatDoor
namespace Rows

/-- THE TIED CARD OF 'pedigreelaw04.TermCanons'. -/
def termCanonsCard : Claim7 := { stood := { row := termCanonsRow, standIns := [], harness := (true, "7c07074bc0642d6f10042628d4e0000aafc76afc9871263d7e0c27e2d45ff478"), looks := true }, kinds := [], alts := [], laidByText := true, laidKinds := [.data, .data, .data, .data], laidTests := true, laidLooks := .later }
def TermCanonsCardSaid : Prop := Claim7.holds Tryz.pinned (.plain (OpenSpec.ofChange termCanonsSpec)) termCanonsCard

/-- THE TIED CARD OF 'pedigreelaw04.TermTwice'. -/
def termTwiceCard : Claim7 := { stood := { row := termTwiceRow, standIns := [], harness := (true, "7c07074bc0642d6f10042628d4e0000aafc76afc9871263d7e0c27e2d45ff478"), looks := true }, kinds := [], alts := [], laidByText := true, laidKinds := [.data, .data, .data, .data, .data], laidTests := true, laidLooks := .later }
def TermTwiceCardSaid : Prop := Claim7.holds Tryz.pinned (.plain (OpenSpec.ofChange termTwiceSpec)) termTwiceCard

/-- THE TIED CARD OF 'pedigreelaw04.TermAlike'. -/
def termAlikeCard : Claim7 := { stood := { row := termAlikeRow, standIns := [], harness := (true, "7c07074bc0642d6f10042628d4e0000aafc76afc9871263d7e0c27e2d45ff478"), looks := true }, kinds := [], alts := [], laidByText := true, laidKinds := [.data, .data, .data, .data, .data], laidTests := true, laidLooks := .later }
def TermAlikeCardSaid : Prop := Claim7.holds Tryz.pinned (.plain (OpenSpec.ofChange termAlikeSpec)) termAlikeCard

/-- THE SECOND FORM's CARD OF 'pedigreelaw04.TermCanons'. -/
def termCanonsUptoCard : Claim7 := { stood := { row := termCanonsUptoRow, standIns := [], harness := (true, "7c07074bc0642d6f10042628d4e0000aafc76afc9871263d7e0c27e2d45ff478"), looks := true }, kinds := [], alts := [], laidByText := true, laidKinds := [.data, .data, .data, .data], laidTests := true, laidLooks := .later }
def TermCanonsUptoCardSaid : Prop := Claim7.holds Tryz.pinned (.plain (OpenSpec.upto termCanonsSpec)) termCanonsUptoCard

/-- THE SECOND FORM's CARD OF 'pedigreelaw04.TermTwice'. -/
def termTwiceUptoCard : Claim7 := { stood := { row := termTwiceUptoRow, standIns := [], harness := (true, "7c07074bc0642d6f10042628d4e0000aafc76afc9871263d7e0c27e2d45ff478"), looks := true }, kinds := [], alts := [], laidByText := true, laidKinds := [.data, .data, .data, .data, .data], laidTests := true, laidLooks := .later }
def TermTwiceUptoCardSaid : Prop := Claim7.holds Tryz.pinned (.plain (OpenSpec.upto termTwiceSpec)) termTwiceUptoCard

/-- THE SECOND FORM's CARD OF 'pedigreelaw04.TermAlike'. -/
def termAlikeUptoCard : Claim7 := { stood := { row := termAlikeUptoRow, standIns := [], harness := (true, "7c07074bc0642d6f10042628d4e0000aafc76afc9871263d7e0c27e2d45ff478"), looks := true }, kinds := [], alts := [], laidByText := true, laidKinds := [.data, .data, .data, .data, .data], laidTests := true, laidLooks := .later }
def TermAlikeUptoCardSaid : Prop := Claim7.holds Tryz.pinned (.plain (OpenSpec.upto termAlikeSpec)) termAlikeUptoCard
end Rows
end Go.Proofs.YtlmpdidecdkncaaGreatDoor
