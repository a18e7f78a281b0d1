/-
  DERIVED. GIVEN WITH THE SEED: THE CARDS: each row of YthdilefgacgbdaaGreatDoorRows.lean that lists a variable, with what it lists TIED to the program's text (the seventh form; the later family's looks); each row that meets fmt, with fmt's text TOLD by the authors' own Lean function (tested against real Go, not proved from fmt's source: count such statements apart). THE CARD IS WHAT COUNTS. Prove the row's statement (the work); the ties are given (YthdilefgacgbdaaGreatDoorTie.lean); close each card by the builder's one call (the guide's Derived/Test/ToyasCard.lean, 'card_holds'). Laid BY PROGRAM, IN A SANDBOX (cutbox-door.mjs). By AI agents, Wed Nov 11 2026. No macro, syntax, notation, axiom, sorry.
-/
import Derived.Test.YthdilefgacgbdaaGreatDoorRows
import GoSem.ClaimSeven
namespace Go.Proofs.YthdilefgacgbdaaGreatDoor
namespace Rows

/-- THE TIED CARD OF 'verdigrislaw39.InkCuts'. -/
def inkCutsCard : Claim7 := { stood := { row := inkCutsRow, standIns := [], harness := (true, "1577fe346c3349abaaec290e3e755aab3c182066ac1822b5d1b1bd1acd88a16b"), looks := true }, kinds := [], alts := [], laidByText := true, laidKinds := [.data, .data, .data], laidTests := true, laidLooks := .later }
def InkCutsCardSaid : Prop := Claim7.holds Tryz.pinned (.plain (OpenSpec.ofChange inkCutsSpec)) inkCutsCard

/-- THE TIED CARD OF 'verdigrislaw39.InkKeeps'. -/
def inkKeepsCard : Claim7 := { stood := { row := inkKeepsRow, standIns := [], harness := (true, "1577fe346c3349abaaec290e3e755aab3c182066ac1822b5d1b1bd1acd88a16b"), looks := true }, kinds := [], alts := [], laidByText := true, laidKinds := [.data, .data, .data], laidTests := true, laidLooks := .later }
def InkKeepsCardSaid : Prop := Claim7.holds Tryz.pinned (.plain (OpenSpec.ofChange inkKeepsSpec)) inkKeepsCard

/-- THE TIED CARD OF 'verdigrislaw39.InkOrders'. -/
def inkOrdersCard : Claim7 := { stood := { row := inkOrdersRow, standIns := [], harness := (true, "1577fe346c3349abaaec290e3e755aab3c182066ac1822b5d1b1bd1acd88a16b"), looks := true }, kinds := [], alts := [], laidByText := true, laidKinds := [.data, .data, .data], laidTests := true, laidLooks := .later }
def InkOrdersCardSaid : Prop := Claim7.holds Tryz.pinned (.plain (OpenSpec.ofChange inkOrdersSpec)) inkOrdersCard

/-- THE SECOND FORM's CARD OF 'verdigrislaw39.InkCuts'. -/
def inkCutsUptoCard : Claim7 := { stood := { row := inkCutsUptoRow, standIns := [], harness := (true, "1577fe346c3349abaaec290e3e755aab3c182066ac1822b5d1b1bd1acd88a16b"), looks := true }, kinds := [], alts := [], laidByText := true, laidKinds := [.data, .data, .data], laidTests := true, laidLooks := .later }
def InkCutsUptoCardSaid : Prop := Claim7.holds Tryz.pinned (.plain (OpenSpec.upto inkCutsSpec)) inkCutsUptoCard

/-- THE SECOND FORM's CARD OF 'verdigrislaw39.InkKeeps'. -/
def inkKeepsUptoCard : Claim7 := { stood := { row := inkKeepsUptoRow, standIns := [], harness := (true, "1577fe346c3349abaaec290e3e755aab3c182066ac1822b5d1b1bd1acd88a16b"), looks := true }, kinds := [], alts := [], laidByText := true, laidKinds := [.data, .data, .data], laidTests := true, laidLooks := .later }
def InkKeepsUptoCardSaid : Prop := Claim7.holds Tryz.pinned (.plain (OpenSpec.upto inkKeepsSpec)) inkKeepsUptoCard

/-- THE SECOND FORM's CARD OF 'verdigrislaw39.InkOrders'. -/
def inkOrdersUptoCard : Claim7 := { stood := { row := inkOrdersUptoRow, standIns := [], harness := (true, "1577fe346c3349abaaec290e3e755aab3c182066ac1822b5d1b1bd1acd88a16b"), looks := true }, kinds := [], alts := [], laidByText := true, laidKinds := [.data, .data, .data], laidTests := true, laidLooks := .later }
def InkOrdersUptoCardSaid : Prop := Claim7.holds Tryz.pinned (.plain (OpenSpec.upto inkOrdersSpec)) inkOrdersUptoCard
end Rows
end Go.Proofs.YthdilefgacgbdaaGreatDoor
