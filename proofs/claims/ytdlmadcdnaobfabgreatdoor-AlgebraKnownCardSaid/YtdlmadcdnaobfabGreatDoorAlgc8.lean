/- AlgebraKnown: a part of the lists holds: each call run by the kernel, by those before it. -/
import Derived.Test.YtdlmadcdnaobfabGreatDoorAlgd3
namespace Go.Proofs.YtdlmadcdnaobfabGreatDoor
open Go.RowKit
namespace Ev
set_option maxHeartbeats 4000000
set_option maxRecDepth 1000000 in
theorem c29 : chkS Tryz.prog G0 5 1000 T28 L29 = true := by kernel_rfl
set_option maxRecDepth 1000000 in
theorem c30 : chkS Tryz.prog G0 5 1000 T29 L30 = true := by kernel_rfl
set_option maxRecDepth 1000000 in
theorem c31 : chkS Tryz.prog G0 5 1000 T30 L31 = true := by kernel_rfl
set_option maxRecDepth 1000000 in
theorem c32 : chkS Tryz.prog G0 5 1000 T31 L32 = true := by kernel_rfl
end Ev
end Go.Proofs.YtdlmadcdnaobfabGreatDoor
