/- LightKnown: a part of the lists holds: each call run by the kernel, by those before it. -/
import Derived.Test.YtbcpfpombpfihabGreatDoorLigd1
namespace Go.Proofs.YtbcpfpombpfihabGreatDoor
open Go.RowKit
namespace Ev
set_option maxHeartbeats 4000000
set_option maxRecDepth 1000000 in
theorem c79 : chkS Tryz.prog G0 6 1000 T78 L79 = true := by kernel_rfl
set_option maxRecDepth 1000000 in
theorem c80 : chkS Tryz.prog G0 6 1000 T79 L80 = true := by kernel_rfl
set_option maxRecDepth 1000000 in
theorem c81 : chkS Tryz.prog G0 6 1000 T80 L81 = true := by kernel_rfl
end Ev
end Go.Proofs.YtbcpfpombpfihabGreatDoor
