/- AlgebraKnown: a part of the lists holds: each call run by the kernel, by those before it. -/
import Derived.Test.YtdlmadcdnaobfabGreatDoorAlgd3
namespace Go.Proofs.YtdlmadcdnaobfabGreatDoor
open Go.RowKit
namespace Ev
set_option maxHeartbeats 4000000
set_option maxRecDepth 1000000 in
theorem c13 : chkS Tryz.prog G0 5 1000 T12 L13 = true := by kernel_rfl
set_option maxRecDepth 1000000 in
theorem c14 : chkS Tryz.prog G0 5 1000 T13 L14 = true := by kernel_rfl
set_option maxRecDepth 1000000 in
theorem c15 : chkS Tryz.prog G0 5 1000 T14 L15 = true := by kernel_rfl
set_option maxRecDepth 1000000 in
theorem c16 : chkS Tryz.prog G0 5 1000 T15 L16 = true := by kernel_rfl
end Ev
end Go.Proofs.YtdlmadcdnaobfabGreatDoor
