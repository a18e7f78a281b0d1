/- LightKnown: a part of the lists holds: each call run by the kernel, by those before it. -/
import Derived.Test.YtbcpfpombpfihabGreatDoorLigd1
namespace Go.Proofs.YtbcpfpombpfihabGreatDoor
open Go.RowKit
namespace Ev
set_option maxHeartbeats 4000000
set_option maxRecDepth 1000000 in
theorem c73 : chkS Tryz.prog G0 6 1000 T72 L73 = true := by kernel_rfl
set_option maxRecDepth 1000000 in
theorem c74 : chkS Tryz.prog G0 6 1000 T73 L74 = true := by kernel_rfl
set_option maxRecDepth 1000000 in
theorem c75 : chkS Tryz.prog G0 6 1000 T74 L75 = true := by kernel_rfl
end Ev
end Go.Proofs.YtbcpfpombpfihabGreatDoor
