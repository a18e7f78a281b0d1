/-
  DERIVED. GIVEN WITH THE SEED: THE CARDS: each row of YtknabnfamnlgdaaGreatDoorRows.lean that lists a variable, with what it lists TIED to the program's text (the seventh form; the later family's looks); each row that meets fmt, with fmt's text TOLD by the authors' own Lean function (tested against real Go, not proved from fmt's source: count such statements apart). THE CARD IS WHAT COUNTS. Prove the row's statement (the work); the ties are given (YtknabnfamnlgdaaGreatDoorTie.lean); close each card by the builder's one call (the guide's Derived/Test/ToyasCard.lean, 'card_holds'). Laid BY PROGRAM, IN A SANDBOX (cutbox-door.mjs). By AI agents, Wed Nov 11 2026. No macro, syntax, notation, axiom, sorry.
-/
import Derived.Test.YtknabnfamnlgdaaGreatDoorRows
import GoSem.ClaimSeven
namespace Go.Proofs.YtknabnfamnlgdaaGreatDoor
namespace Rows

/-- THE TIED CARD OF 'verdigrislaw12.ProgramKnown'. -/
def programKnownCard : Claim7 := { stood := { row := programKnownRow, standIns := [], harness := (true, "39cf28c4b270fda68bb874bafa6c48c3bb9ca824e4790add695214e011c9fcdc"), looks := true }, kinds := [], alts := [], laidByText := true, laidKinds := [.data, .data, .data], laidTests := true, laidLooks := .later }
def ProgramKnownCardSaid : Prop := Claim7.holds Tryz.pinned (.plain (OpenSpec.ofChange programKnownSpec)) programKnownCard

/-- THE SECOND FORM's CARD OF 'verdigrislaw12.ProgramKnown'. -/
def programKnownUptoCard : Claim7 := { stood := { row := programKnownUptoRow, standIns := [], harness := (true, "39cf28c4b270fda68bb874bafa6c48c3bb9ca824e4790add695214e011c9fcdc"), looks := true }, kinds := [], alts := [], laidByText := true, laidKinds := [.data, .data, .data], laidTests := true, laidLooks := .later }
def ProgramKnownUptoCardSaid : Prop := Claim7.holds Tryz.pinned (.plain (OpenSpec.upto programKnownSpec)) programKnownUptoCard
end Rows
end Go.Proofs.YtknabnfamnlgdaaGreatDoor
