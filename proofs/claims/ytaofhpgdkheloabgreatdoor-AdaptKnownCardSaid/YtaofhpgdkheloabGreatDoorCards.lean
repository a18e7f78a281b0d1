/-
  DERIVED. GIVEN WITH THE SEED: THE CARDS: each row of YtaofhpgdkheloabGreatDoorRows.lean that lists a variable, with what it lists TIED to the program's text (the seventh form; the later family's looks); each row that meets fmt, with fmt's text TOLD by the authors' own Lean function (tested against real Go, not proved from fmt's source: count such statements apart). THE CARD IS WHAT COUNTS. Prove the row's statement (the work); the ties are given (YtaofhpgdkheloabGreatDoorTie.lean); close each card by the builder's one call (the guide's Derived/Test/ToyasCard.lean, 'card_holds'). Laid BY PROGRAM, IN A SANDBOX (cutbox-door.mjs). By AI agents, Wed Nov 11 2026. No macro, syntax, notation, axiom, sorry.
-/
import Derived.Test.YtaofhpgdkheloabGreatDoorRows
import GoSem.ClaimSeven
namespace Go.Proofs.YtaofhpgdkheloabGreatDoor
namespace Rows

/-- THE TIED CARD OF 'verdigrislaw25.AdaptKnown'. -/
def adaptKnownCard : Claim7 := { stood := { row := adaptKnownRow, standIns := [], harness := (true, "bc6a974884cfac67e3a333c2a2f3f97db2843d3778ee44df42232fb8338e8e2e"), looks := true }, kinds := [], alts := [], laidByText := true, laidKinds := [.data, .data, .data, .data], laidTests := true, laidLooks := .later }
def AdaptKnownCardSaid : Prop := Claim7.holds Tryz.pinned (.plain (OpenSpec.ofChange adaptKnownSpec)) adaptKnownCard

/-- THE SECOND FORM's CARD OF 'verdigrislaw25.AdaptKnown'. -/
def adaptKnownUptoCard : Claim7 := { stood := { row := adaptKnownUptoRow, standIns := [], harness := (true, "bc6a974884cfac67e3a333c2a2f3f97db2843d3778ee44df42232fb8338e8e2e"), looks := true }, kinds := [], alts := [], laidByText := true, laidKinds := [.data, .data, .data, .data], laidTests := true, laidLooks := .later }
def AdaptKnownUptoCardSaid : Prop := Claim7.holds Tryz.pinned (.plain (OpenSpec.upto adaptKnownSpec)) adaptKnownUptoCard
end Rows
end Go.Proofs.YtaofhpgdkheloabGreatDoor
