/-
  DERIVED. GIVEN WITH THE SEED: THE CARDS: each row of YtccjmmdppjialaaGreatDoorRows.lean that lists a variable, with what it lists TIED to the program's text (the seventh form; the later family's looks); each row that meets fmt, with fmt's text TOLD by the authors' own Lean function (tested against real Go, not proved from fmt's source: count such statements apart). THE CARD IS WHAT COUNTS. Prove the row's statement (the work); the ties are given (YtccjmmdppjialaaGreatDoorTie.lean); close each card by the builder's one call (the guide's Derived/Test/ToyasCard.lean, 'card_holds'). Laid BY PROGRAM, IN A SANDBOX (cutbox-door.mjs). By AI agents, Wed Nov 11 2026. No macro, syntax, notation, axiom, sorry.
-/
import Derived.Test.YtccjmmdppjialaaGreatDoorRows
import GoSem.ClaimSeven
namespace Go.Proofs.YtccjmmdppjialaaGreatDoor
namespace Rows

/-- THE TIED CARD OF 'verdigrislaw34.CrossDraws'. -/
def crossDrawsCard : Claim7 := { stood := { row := crossDrawsRow, standIns := [], harness := (true, "96fef17b29dee9aca9c4e8a4d0631668123268b47d9c23d70a842231a6cee09c"), looks := true }, kinds := [], alts := [], laidByText := true, laidKinds := [.data, .data, .data], laidTests := true, laidLooks := .later }
def CrossDrawsCardSaid : Prop := Claim7.holds Tryz.pinned (.plain (OpenSpec.ofChange crossDrawsSpec)) crossDrawsCard

/-- THE TIED CARD OF 'verdigrislaw34.CrossSizes'. -/
def crossSizesCard : Claim7 := { stood := { row := crossSizesRow, standIns := [], harness := (true, "96fef17b29dee9aca9c4e8a4d0631668123268b47d9c23d70a842231a6cee09c"), looks := true }, kinds := [], alts := [], laidByText := true, laidKinds := [.data, .data, .data], laidTests := true, laidLooks := .later }
def CrossSizesCardSaid : Prop := Claim7.holds Tryz.pinned (.plain (OpenSpec.ofChange crossSizesSpec)) crossSizesCard

/-- THE TIED CARD OF 'verdigrislaw34.CrossGoes'. -/
def crossGoesCard : Claim7 := { stood := { row := crossGoesRow, standIns := [], harness := (true, "96fef17b29dee9aca9c4e8a4d0631668123268b47d9c23d70a842231a6cee09c"), looks := true }, kinds := [], alts := [], laidByText := true, laidKinds := [.data, .data, .data], laidTests := true, laidLooks := .later }
def CrossGoesCardSaid : Prop := Claim7.holds Tryz.pinned (.plain (OpenSpec.ofChange crossGoesSpec)) crossGoesCard

/-- THE SECOND FORM's CARD OF 'verdigrislaw34.CrossDraws'. -/
def crossDrawsUptoCard : Claim7 := { stood := { row := crossDrawsUptoRow, standIns := [], harness := (true, "96fef17b29dee9aca9c4e8a4d0631668123268b47d9c23d70a842231a6cee09c"), looks := true }, kinds := [], alts := [], laidByText := true, laidKinds := [.data, .data, .data], laidTests := true, laidLooks := .later }
def CrossDrawsUptoCardSaid : Prop := Claim7.holds Tryz.pinned (.plain (OpenSpec.upto crossDrawsSpec)) crossDrawsUptoCard

/-- THE SECOND FORM's CARD OF 'verdigrislaw34.CrossSizes'. -/
def crossSizesUptoCard : Claim7 := { stood := { row := crossSizesUptoRow, standIns := [], harness := (true, "96fef17b29dee9aca9c4e8a4d0631668123268b47d9c23d70a842231a6cee09c"), looks := true }, kinds := [], alts := [], laidByText := true, laidKinds := [.data, .data, .data], laidTests := true, laidLooks := .later }
def CrossSizesUptoCardSaid : Prop := Claim7.holds Tryz.pinned (.plain (OpenSpec.upto crossSizesSpec)) crossSizesUptoCard

/-- THE SECOND FORM's CARD OF 'verdigrislaw34.CrossGoes'. -/
def crossGoesUptoCard : Claim7 := { stood := { row := crossGoesUptoRow, standIns := [], harness := (true, "96fef17b29dee9aca9c4e8a4d0631668123268b47d9c23d70a842231a6cee09c"), looks := true }, kinds := [], alts := [], laidByText := true, laidKinds := [.data, .data, .data], laidTests := true, laidLooks := .later }
def CrossGoesUptoCardSaid : Prop := Claim7.holds Tryz.pinned (.plain (OpenSpec.upto crossGoesSpec)) crossGoesUptoCard
end Rows
end Go.Proofs.YtccjmmdppjialaaGreatDoor
