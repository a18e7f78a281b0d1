/-
  DERIVED. GIVEN WITH THE SEED: THE CARDS: each row of YtmijdboikfhbiaaGreatDoorRows.lean that lists a variable, with what it lists TIED to the program's text (the seventh form; the later family's looks); each row that meets fmt, with fmt's text TOLD by the authors' own Lean function (tested against real Go, not proved from fmt's source: count such statements apart). THE CARD IS WHAT COUNTS. Prove the row's statement (the work); the ties are given (YtmijdboikfhbiaaGreatDoorTie.lean); close each card by the builder's one call (the guide's Derived/Test/ToyasCard.lean, 'card_holds'). Laid BY PROGRAM, IN A SANDBOX (cutbox-door.mjs). By AI agents, Wed Nov 11 2026. No macro, syntax, notation, axiom, sorry.
-/
import Derived.Test.YtmijdboikfhbiaaGreatDoorRows
import GoSem.ClaimSeven
namespace Go.Proofs.YtmijdboikfhbiaaGreatDoor
namespace Rows

/-- THE TIED CARD OF 'verdigrislaw24.LabKnown'. -/
def labKnownCard : Claim7 := { stood := { row := labKnownRow, standIns := [], harness := (true, "8b1b662ef20af46a8b7faec10e5d071532bf69f6b7e089852dbf35c55eb9f1a7"), looks := true }, kinds := [], alts := [], laidByText := true, laidKinds := [.data, .data, .data], laidTests := true, laidLooks := .later }
def LabKnownCardSaid : Prop := Claim7.holds Tryz.pinned (.plain (OpenSpec.ofChange labKnownSpec)) labKnownCard

/-- THE SECOND FORM's CARD OF 'verdigrislaw24.LabKnown'. -/
def labKnownUptoCard : Claim7 := { stood := { row := labKnownUptoRow, standIns := [], harness := (true, "8b1b662ef20af46a8b7faec10e5d071532bf69f6b7e089852dbf35c55eb9f1a7"), looks := true }, kinds := [], alts := [], laidByText := true, laidKinds := [.data, .data, .data], laidTests := true, laidLooks := .later }
def LabKnownUptoCardSaid : Prop := Claim7.holds Tryz.pinned (.plain (OpenSpec.upto labKnownSpec)) labKnownUptoCard
end Rows
end Go.Proofs.YtmijdboikfhbiaaGreatDoor
