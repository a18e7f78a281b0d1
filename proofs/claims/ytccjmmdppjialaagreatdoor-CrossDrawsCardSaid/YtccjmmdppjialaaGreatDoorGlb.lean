/- The listed tables lie where they lay, behind whatever leaves what was there. -/
import Derived.Test.YtccjmmdppjialaaGreatDoorEvM
import Derived.Test.YtccjmmdppjialaaGreatDoorUt
namespace Go.Proofs.YtccjmmdppjialaaGreatDoor
open Go.RowKit
namespace Ev
theorem GL.below {G : List (Nat × List Value)} {w w' : World} (h : GL G w) (hb : Bl w w') : GL G w' := fun i cs hl => by
  obtain ⟨t, cc, h1, h2⟩ := h i cs hl
  exact ⟨t, cc, by rw [Below.block hb _ (Array.getElem?_eq_some_iff.1 h1).1]; exact h1, h2⟩
end Ev
end Go.Proofs.YtccjmmdppjialaaGreatDoor
