/- AlgebraKnown: a part of the lists holds: each call run by the kernel, by those before it. -/
import Derived.Test.YtdlmadcdnaobfabGreatDoorAlgd3
namespace Go.Proofs.YtdlmadcdnaobfabGreatDoor
open Go.RowKit
namespace Ev
set_option maxHeartbeats 4000000
set_option maxRecDepth 1000000 in
theorem c49 : chkS Tryz.prog G0 5 1000 T48 L49 = true := by kernel_rfl
set_option maxRecDepth 1000000 in
theorem c50 : chkS Tryz.prog G0 5 1000 T49 L50 = true := by kernel_rfl
end Ev
end Go.Proofs.YtdlmadcdnaobfabGreatDoor
