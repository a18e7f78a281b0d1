/- LightKnown: a part of the lists holds: each call run by the kernel, by those before it. -/
import Derived.Test.YtbcpfpombpfihabGreatDoorLigd1
namespace Go.Proofs.YtbcpfpombpfihabGreatDoor
open Go.RowKit
namespace Ev
set_option maxHeartbeats 4000000
set_option maxRecDepth 1000000 in
theorem c28 : chkS Tryz.prog G0 6 1000 T27 L28 = true := by kernel_rfl
set_option maxRecDepth 1000000 in
theorem c29 : chkS Tryz.prog G0 6 1000 T28 L29 = true := by kernel_rfl
set_option maxRecDepth 1000000 in
theorem c30 : chkS Tryz.prog G0 6 1000 T29 L30 = true := by kernel_rfl
end Ev
end Go.Proofs.YtbcpfpombpfihabGreatDoor
