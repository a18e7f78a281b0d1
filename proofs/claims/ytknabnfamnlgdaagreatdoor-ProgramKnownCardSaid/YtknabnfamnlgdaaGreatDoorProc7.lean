/- ProgramKnown: a part of the lists holds: each call run by the kernel, by those before it. -/
import Derived.Test.YtknabnfamnlgdaaGreatDoorProd2
namespace Go.Proofs.YtknabnfamnlgdaaGreatDoor
open Go.RowKit
namespace Ev
set_option maxHeartbeats 4000000
set_option maxRecDepth 1000000 in
theorem c37 : chkS Tryz.prog G0 5 1000 T36 L37 = true := by kernel_rfl
set_option maxRecDepth 1000000 in
theorem c38 : chkS Tryz.prog G0 5 1000 T37 L38 = true := by kernel_rfl
end Ev
end Go.Proofs.YtknabnfamnlgdaaGreatDoor
