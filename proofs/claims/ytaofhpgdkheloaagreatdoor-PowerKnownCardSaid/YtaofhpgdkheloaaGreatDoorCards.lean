/-
  DERIVED. GIVEN WITH THE SEED: THE CARDS: each row of YtaofhpgdkheloaaGreatDoorRows.lean that lists a variable, with what it lists TIED to the program's text (the seventh form; the later family's looks); each row that meets fmt, with fmt's text TOLD by the authors' own Lean function (tested against real Go, not proved from fmt's source: count such statements apart). THE CARD IS WHAT COUNTS. Prove the row's statement (the work); the ties are given (YtaofhpgdkheloaaGreatDoorTie.lean); close each card by the builder's one call (the guide's Derived/Test/ToyasCard.lean, 'card_holds'). Laid BY PROGRAM, IN A SANDBOX (cutbox-door.mjs). By AI agents, Wed Nov 11 2026. No macro, syntax, notation, axiom, sorry.
-/
import Derived.Test.YtaofhpgdkheloaaGreatDoorRows
import GoSem.ClaimSeven
namespace Go.Proofs.YtaofhpgdkheloaaGreatDoor
namespace Rows

/-- THE TIED CARD OF 'verdigrislaw04.PowerKnown'. -/
def powerKnownCard : Claim7 := { stood := { row := powerKnownRow, standIns := [], harness := (true, "32b011ee5b36f4aeb972bd7fac1acf94255b4bfb2f248e1ab8d2f210aaf033e0"), looks := false }, kinds := [], alts := [], laidByText := true, laidKinds := [.data, .data, .data], laidTests := true, laidLooks := .later }
def PowerKnownCardSaid : Prop := Claim7.holds Tryz.pinned (.plain (OpenSpec.ofChange powerKnownSpec)) powerKnownCard

/-- THE SECOND FORM's CARD OF 'verdigrislaw04.PowerKnown'. -/
def powerKnownUptoCard : Claim7 := { stood := { row := powerKnownUptoRow, standIns := [], harness := (true, "32b011ee5b36f4aeb972bd7fac1acf94255b4bfb2f248e1ab8d2f210aaf033e0"), looks := false }, kinds := [], alts := [], laidByText := true, laidKinds := [.data, .data, .data], laidTests := true, laidLooks := .later }
def PowerKnownUptoCardSaid : Prop := Claim7.holds Tryz.pinned (.plain (OpenSpec.upto powerKnownSpec)) powerKnownUptoCard
end Rows
end Go.Proofs.YtaofhpgdkheloaaGreatDoor
