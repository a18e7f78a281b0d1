/- LightKnown: a part of the lists holds: each call run by the kernel, by those before it. -/
import Derived.Test.YtbcpfpombpfihabGreatDoorLigd1
namespace Go.Proofs.YtbcpfpombpfihabGreatDoor
open Go.RowKit
namespace Ev
set_option maxHeartbeats 4000000
set_option maxRecDepth 1000000 in
theorem c16 : chkS Tryz.prog G0 6 1000 T15 L16 = true := by kernel_rfl
set_option maxRecDepth 1000000 in
theorem c17 : chkS Tryz.prog G0 6 1000 T16 L17 = true := by kernel_rfl
set_option maxRecDepth 1000000 in
theorem c18 : chkS Tryz.prog G0 6 1000 T17 L18 = true := by kernel_rfl
end Ev
end Go.Proofs.YtbcpfpombpfihabGreatDoor
