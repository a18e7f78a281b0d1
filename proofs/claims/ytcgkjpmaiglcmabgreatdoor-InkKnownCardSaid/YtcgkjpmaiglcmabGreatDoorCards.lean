/-
  DERIVED. GIVEN WITH THE SEED: THE CARDS: each row of YtcgkjpmaiglcmabGreatDoorRows.lean that lists a variable, with what it lists TIED to the program's text (the seventh form; the later family's looks); each row that meets fmt, with fmt's text TOLD by the authors' own Lean function (tested against real Go, not proved from fmt's source: count such statements apart). THE CARD IS WHAT COUNTS. Prove the row's statement (the work); the ties are given (YtcgkjpmaiglcmabGreatDoorTie.lean); close each card by the builder's one call (the guide's Derived/Test/ToyasCard.lean, 'card_holds'). Laid BY PROGRAM, IN A SANDBOX (cutbox-door.mjs). By AI agents, Wed Nov 11 2026. No macro, syntax, notation, axiom, sorry.
-/
import Derived.Test.YtcgkjpmaiglcmabGreatDoorRows
import GoSem.ClaimSeven
namespace Go.Proofs.YtcgkjpmaiglcmabGreatDoor
namespace Rows

/-- THE TIED CARD OF 'verdigrislaw39.InkKnown'. -/
def inkKnownCard : Claim7 := { stood := { row := inkKnownRow, standIns := [], harness := (true, "9d7092fe7d4404d69d9d15484ac6238446c5e8472b7d5a610fdeec033c880d84"), looks := true }, kinds := [], alts := [], laidByText := true, laidKinds := [.data, .data, .data], laidTests := true, laidLooks := .later }
def InkKnownCardSaid : Prop := Claim7.holds Tryz.pinned (.plain (OpenSpec.ofChange inkKnownSpec)) inkKnownCard

/-- THE SECOND FORM's CARD OF 'verdigrislaw39.InkKnown'. -/
def inkKnownUptoCard : Claim7 := { stood := { row := inkKnownUptoRow, standIns := [], harness := (true, "9d7092fe7d4404d69d9d15484ac6238446c5e8472b7d5a610fdeec033c880d84"), looks := true }, kinds := [], alts := [], laidByText := true, laidKinds := [.data, .data, .data], laidTests := true, laidLooks := .later }
def InkKnownUptoCardSaid : Prop := Claim7.holds Tryz.pinned (.plain (OpenSpec.upto inkKnownSpec)) inkKnownUptoCard
end Rows
end Go.Proofs.YtcgkjpmaiglcmabGreatDoor
