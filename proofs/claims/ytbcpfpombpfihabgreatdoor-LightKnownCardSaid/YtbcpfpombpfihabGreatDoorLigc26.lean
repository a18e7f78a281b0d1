/- LightKnown: a part of the lists holds: each call run by the kernel, by those before it. -/
import Derived.Test.YtbcpfpombpfihabGreatDoorLigd1
namespace Go.Proofs.YtbcpfpombpfihabGreatDoor
open Go.RowKit
namespace Ev
set_option maxHeartbeats 4000000
set_option maxRecDepth 1000000 in
theorem c76 : chkS Tryz.prog G0 6 1000 T75 L76 = true := by kernel_rfl
set_option maxRecDepth 1000000 in
theorem c77 : chkS Tryz.prog G0 6 1000 T76 L77 = true := by kernel_rfl
set_option maxRecDepth 1000000 in
theorem c78 : chkS Tryz.prog G0 6 1000 T77 L78 = true := by kernel_rfl
end Ev
end Go.Proofs.YtbcpfpombpfihabGreatDoor
