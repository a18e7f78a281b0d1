/- LightKnown: a part of the lists holds: each call run by the kernel, by those before it. -/
import Derived.Test.YtbcpfpombpfihabGreatDoorLigd1
namespace Go.Proofs.YtbcpfpombpfihabGreatDoor
open Go.RowKit
namespace Ev
set_option maxHeartbeats 4000000
set_option maxRecDepth 1000000 in
theorem c7 : chkS Tryz.prog G0 6 1000 T6 L7 = true := by kernel_rfl
set_option maxRecDepth 1000000 in
theorem c8 : chkS Tryz.prog G0 6 1000 T7 L8 = true := by kernel_rfl
set_option maxRecDepth 1000000 in
theorem c9 : chkS Tryz.prog G0 6 1000 T8 L9 = true := by kernel_rfl
end Ev
end Go.Proofs.YtbcpfpombpfihabGreatDoor
