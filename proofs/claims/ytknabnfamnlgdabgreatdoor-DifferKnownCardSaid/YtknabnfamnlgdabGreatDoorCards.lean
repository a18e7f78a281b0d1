/-
  DERIVED. GIVEN WITH THE SEED: THE CARDS: each row of YtknabnfamnlgdabGreatDoorRows.lean that lists a variable, with what it lists TIED to the program's text (the seventh form; the later family's looks); each row that meets fmt, with fmt's text TOLD by the authors' own Lean function (tested against real Go, not proved from fmt's source: count such statements apart). THE CARD IS WHAT COUNTS. Prove the row's statement (the work); the ties are given (YtknabnfamnlgdabGreatDoorTie.lean); close each card by the builder's one call (the guide's Derived/Test/ToyasCard.lean, 'card_holds'). Laid BY PROGRAM, IN A SANDBOX (cutbox-door.mjs). By AI agents, Wed Nov 11 2026. No macro, syntax, notation, axiom, sorry.
-/
import Derived.Test.YtknabnfamnlgdabGreatDoorRows
import GoSem.ClaimSeven
namespace Go.Proofs.YtknabnfamnlgdabGreatDoor
namespace Rows

/-- THE TIED CARD OF 'verdigrislaw27.DifferKnown'. -/
def differKnownCard : Claim7 := { stood := { row := differKnownRow, standIns := [], harness := (true, "9d1f110fa5fdd2f4320955fcf73014a174584e6d59d0aa83d6789d455a004c29"), looks := true }, kinds := [], alts := [], laidByText := true, laidKinds := [.data, .data, .data, .data, .pinned], laidTests := true, laidLooks := .later }
def DifferKnownCardSaid : Prop := Claim7.holds Tryz.pinned (.plain (OpenSpec.ofChange differKnownSpec)) differKnownCard

/-- THE SECOND FORM's CARD OF 'verdigrislaw27.DifferKnown'. -/
def differKnownUptoCard : Claim7 := { stood := { row := differKnownUptoRow, standIns := [], harness := (true, "9d1f110fa5fdd2f4320955fcf73014a174584e6d59d0aa83d6789d455a004c29"), looks := true }, kinds := [], alts := [], laidByText := true, laidKinds := [.data, .data, .data, .data, .pinned], laidTests := true, laidLooks := .later }
def DifferKnownUptoCardSaid : Prop := Claim7.holds Tryz.pinned (.plain (OpenSpec.upto differKnownSpec)) differKnownUptoCard
end Rows
end Go.Proofs.YtknabnfamnlgdabGreatDoor
