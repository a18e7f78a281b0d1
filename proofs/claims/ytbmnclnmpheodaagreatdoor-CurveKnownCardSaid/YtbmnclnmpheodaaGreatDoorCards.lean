/-
  DERIVED. GIVEN WITH THE SEED: THE CARDS: each row of YtbmnclnmpheodaaGreatDoorRows.lean that lists a variable, with what it lists TIED to the program's text (the seventh form; the later family's looks); each row that meets fmt, with fmt's text TOLD by the authors' own Lean function (tested against real Go, not proved from fmt's source: count such statements apart). THE CARD IS WHAT COUNTS. Prove the row's statement (the work); the ties are given (YtbmnclnmpheodaaGreatDoorTie.lean); close each card by the builder's one call (the guide's Derived/Test/ToyasCard.lean, 'card_holds'). Laid BY PROGRAM, IN A SANDBOX (cutbox-door.mjs). By AI agents, Wed Nov 11 2026. No macro, syntax, notation, axiom, sorry.
-/
import Derived.Test.YtbmnclnmpheodaaGreatDoorRows
import GoSem.ClaimSeven
namespace Go.Proofs.YtbmnclnmpheodaaGreatDoor
namespace Rows

/-- THE TIED CARD OF 'verdigrislaw09.CurveKnown'. -/
def curveKnownCard : Claim7 := { stood := { row := curveKnownRow, standIns := [], harness := (true, "1affc24aeb6fbd5dc4065ef3d98909d5ead52f9d8b63fa74d878127cf28c0a3d"), looks := true }, kinds := [], alts := [], laidByText := true, laidKinds := [.data, .data, .data], laidTests := true, laidLooks := .later }
def CurveKnownCardSaid : Prop := Claim7.holds Tryz.pinned (.plain (OpenSpec.ofChange curveKnownSpec)) curveKnownCard

/-- THE SECOND FORM's CARD OF 'verdigrislaw09.CurveKnown'. -/
def curveKnownUptoCard : Claim7 := { stood := { row := curveKnownUptoRow, standIns := [], harness := (true, "1affc24aeb6fbd5dc4065ef3d98909d5ead52f9d8b63fa74d878127cf28c0a3d"), looks := true }, kinds := [], alts := [], laidByText := true, laidKinds := [.data, .data, .data], laidTests := true, laidLooks := .later }
def CurveKnownUptoCardSaid : Prop := Claim7.holds Tryz.pinned (.plain (OpenSpec.upto curveKnownSpec)) curveKnownUptoCard
end Rows
end Go.Proofs.YtbmnclnmpheodaaGreatDoor
