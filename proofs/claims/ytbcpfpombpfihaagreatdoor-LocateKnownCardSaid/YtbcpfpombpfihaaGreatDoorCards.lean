/-
  DERIVED. GIVEN WITH THE SEED: THE CARDS: each row of YtbcpfpombpfihaaGreatDoorRows.lean that lists a variable, with what it lists TIED to the program's text (the seventh form; the later family's looks); each row that meets fmt, with fmt's text TOLD by the authors' own Lean function (tested against real Go, not proved from fmt's source: count such statements apart). THE CARD IS WHAT COUNTS. Prove the row's statement (the work); the ties are given (YtbcpfpombpfihaaGreatDoorTie.lean); close each card by the builder's one call (the guide's Derived/Test/ToyasCard.lean, 'card_holds'). Laid BY PROGRAM, IN A SANDBOX (cutbox-door.mjs). By AI agents, Wed Nov 11 2026. No macro, syntax, notation, axiom, sorry.
-/
import Derived.Test.YtbcpfpombpfihaaGreatDoorRows
import GoSem.ClaimSeven
namespace Go.Proofs.YtbcpfpombpfihaaGreatDoor
namespace Rows

/-- THE TIED CARD OF 'verdigrislaw22.LocateKnown'. -/
def locateKnownCard : Claim7 := { stood := { row := locateKnownRow, standIns := [], harness := (true, "a95183fd05b526d9104401cc23c492a4d869bca138279d1cfda927514c68e02c"), looks := true }, kinds := [], alts := [], laidByText := true, laidKinds := [.data, .data, .data], laidTests := true, laidLooks := .later }
def LocateKnownCardSaid : Prop := Claim7.holds Tryz.pinned (.plain (OpenSpec.ofChange locateKnownSpec)) locateKnownCard

/-- THE SECOND FORM's CARD OF 'verdigrislaw22.LocateKnown'. -/
def locateKnownUptoCard : Claim7 := { stood := { row := locateKnownUptoRow, standIns := [], harness := (true, "a95183fd05b526d9104401cc23c492a4d869bca138279d1cfda927514c68e02c"), looks := true }, kinds := [], alts := [], laidByText := true, laidKinds := [.data, .data, .data], laidTests := true, laidLooks := .later }
def LocateKnownUptoCardSaid : Prop := Claim7.holds Tryz.pinned (.plain (OpenSpec.upto locateKnownSpec)) locateKnownUptoCard
end Rows
end Go.Proofs.YtbcpfpombpfihaaGreatDoor
