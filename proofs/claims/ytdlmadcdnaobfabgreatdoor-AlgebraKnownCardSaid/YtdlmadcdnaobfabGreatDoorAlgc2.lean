/- AlgebraKnown: a part of the lists holds: each call run by the kernel, by those before it. -/
import Derived.Test.YtdlmadcdnaobfabGreatDoorAlgd3
namespace Go.Proofs.YtdlmadcdnaobfabGreatDoor
open Go.RowKit
namespace Ev
set_option maxHeartbeats 4000000
set_option maxRecDepth 1000000 in
theorem c5 : chkS Tryz.prog G0 5 1000 T4 L5 = true := by kernel_rfl
set_option maxRecDepth 1000000 in
theorem c6 : chkS Tryz.prog G0 5 1000 T5 L6 = true := by kernel_rfl
set_option maxRecDepth 1000000 in
theorem c7 : chkS Tryz.prog G0 5 1000 T6 L7 = true := by kernel_rfl
set_option maxRecDepth 1000000 in
theorem c8 : chkS Tryz.prog G0 5 1000 T7 L8 = true := by kernel_rfl
end Ev
end Go.Proofs.YtdlmadcdnaobfabGreatDoor
