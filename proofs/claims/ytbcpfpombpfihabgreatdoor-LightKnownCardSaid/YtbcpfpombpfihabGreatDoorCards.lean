/-
  DERIVED. GIVEN WITH THE SEED: THE CARDS: each row of YtbcpfpombpfihabGreatDoorRows.lean that lists a variable, with what it lists TIED to the program's text (the seventh form; the later family's looks); each row that meets fmt, with fmt's text TOLD by the authors' own Lean function (tested against real Go, not proved from fmt's source: count such statements apart). THE CARD IS WHAT COUNTS. Prove the row's statement (the work); the ties are given (YtbcpfpombpfihabGreatDoorTie.lean); close each card by the builder's one call (the guide's Derived/Test/ToyasCard.lean, 'card_holds'). Laid BY PROGRAM, IN A SANDBOX (cutbox-door.mjs). By AI agents, Wed Nov 11 2026. No macro, syntax, notation, axiom, sorry.
-/
import Derived.Test.YtbcpfpombpfihabGreatDoorRows
import GoSem.ClaimSeven
namespace Go.Proofs.YtbcpfpombpfihabGreatDoor
namespace Rows

/-- THE TIED CARD OF 'verdigrislaw23.LightKnown'. -/
def lightKnownCard : Claim7 := { stood := { row := lightKnownRow, standIns := [], harness := (true, "e8c98db9129e255b59e3b9133499c083be824f1e7c9a2c4c0218b19e45172dec"), looks := true }, kinds := [], alts := [], laidByText := true, laidKinds := [.data, .data, .data, .data], laidTests := true, laidLooks := .later }
def LightKnownCardSaid : Prop := Claim7.holds Tryz.pinned (.plain (OpenSpec.ofChange lightKnownSpec)) lightKnownCard

/-- THE SECOND FORM's CARD OF 'verdigrislaw23.LightKnown'. -/
def lightKnownUptoCard : Claim7 := { stood := { row := lightKnownUptoRow, standIns := [], harness := (true, "e8c98db9129e255b59e3b9133499c083be824f1e7c9a2c4c0218b19e45172dec"), looks := true }, kinds := [], alts := [], laidByText := true, laidKinds := [.data, .data, .data, .data], laidTests := true, laidLooks := .later }
def LightKnownUptoCardSaid : Prop := Claim7.holds Tryz.pinned (.plain (OpenSpec.upto lightKnownSpec)) lightKnownUptoCard
end Rows
end Go.Proofs.YtbcpfpombpfihabGreatDoor
