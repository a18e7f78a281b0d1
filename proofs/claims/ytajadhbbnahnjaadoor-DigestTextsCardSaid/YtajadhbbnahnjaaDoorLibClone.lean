/- strings.Clone's body, at closed strings, as an entry of the table of known calls: by the shelf's contract. -/
import Derived.Test.YtajadhbbnahnjaaDoorShelf
import Derived.Test.YtajadhbbnahnjaaDoorEvM
namespace Go.Proofs.YtajadhbbnahnjaaDoor
open Go.RowKit
namespace Ev
theorem lib_internal_stringslite_Clone {G : List (Nat × List Value)} (l : List Nat) (h : l.length ≤ 281474976710656) : Known Tryd.prog G (33, [.string ⟨⟨l.map UInt8.ofNat⟩⟩], .string ⟨⟨l.map UInt8.ofNat⟩⟩) :=
  ⟨rfl, rfl, fun w _ => Tryd.stringslite_Clone ⟨⟨l.map UInt8.ofNat⟩⟩ w (by show (List.toArray _).size ≤ _; simpa using h)⟩
end Ev
end Go.Proofs.YtajadhbbnahnjaaDoor
