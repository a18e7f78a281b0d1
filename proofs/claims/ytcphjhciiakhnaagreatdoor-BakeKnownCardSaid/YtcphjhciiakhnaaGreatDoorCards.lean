/-
  DERIVED. GIVEN WITH THE SEED: THE CARDS: each row of YtcphjhciiakhnaaGreatDoorRows.lean that lists a variable, with what it lists TIED to the program's text (the seventh form; the later family's looks); each row that meets fmt, with fmt's text TOLD by the authors' own Lean function (tested against real Go, not proved from fmt's source: count such statements apart). THE CARD IS WHAT COUNTS. Prove the row's statement (the work); the ties are given (YtcphjhciiakhnaaGreatDoorTie.lean); close each card by the builder's one call (the guide's Derived/Test/ToyasCard.lean, 'card_holds'). Laid BY PROGRAM, IN A SANDBOX (cutbox-door.mjs). By AI agents, Wed Nov 11 2026. No macro, syntax, notation, axiom, sorry.
-/
import Derived.Test.YtcphjhciiakhnaaGreatDoorRows
import GoSem.ClaimSeven
namespace Go.Proofs.YtcphjhciiakhnaaGreatDoor
namespace Rows

/-- THE TIED CARD OF 'verdigrislaw20.BakeKnown'. -/
def bakeKnownCard : Claim7 := { stood := { row := bakeKnownRow, standIns := [], harness := (true, "aabec3da6e73942d99f0f1129fd096dfaa14217287b5a5780b04d093682b0d11"), looks := true }, kinds := [], alts := [], laidByText := true, laidKinds := [.data, .data, .data], laidTests := true, laidLooks := .later }
def BakeKnownCardSaid : Prop := Claim7.holds Tryz.pinned (.plain (OpenSpec.ofChange bakeKnownSpec)) bakeKnownCard

/-- THE SECOND FORM's CARD OF 'verdigrislaw20.BakeKnown'. -/
def bakeKnownUptoCard : Claim7 := { stood := { row := bakeKnownUptoRow, standIns := [], harness := (true, "aabec3da6e73942d99f0f1129fd096dfaa14217287b5a5780b04d093682b0d11"), looks := true }, kinds := [], alts := [], laidByText := true, laidKinds := [.data, .data, .data], laidTests := true, laidLooks := .later }
def BakeKnownUptoCardSaid : Prop := Claim7.holds Tryz.pinned (.plain (OpenSpec.upto bakeKnownSpec)) bakeKnownUptoCard
end Rows
end Go.Proofs.YtcphjhciiakhnaaGreatDoor
