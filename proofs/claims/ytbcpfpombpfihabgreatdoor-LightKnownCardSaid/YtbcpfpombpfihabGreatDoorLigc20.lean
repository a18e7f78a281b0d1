/- LightKnown: a part of the lists holds: each call run by the kernel, by those before it. -/
import Derived.Test.YtbcpfpombpfihabGreatDoorLigd1
namespace Go.Proofs.YtbcpfpombpfihabGreatDoor
open Go.RowKit
namespace Ev
set_option maxHeartbeats 4000000
set_option maxRecDepth 1000000 in
theorem c58 : chkS Tryz.prog G0 6 1000 T57 L58 = true := by kernel_rfl
set_option maxRecDepth 1000000 in
theorem c59 : chkS Tryz.prog G0 6 1000 T58 L59 = true := by kernel_rfl
set_option maxRecDepth 1000000 in
theorem c60 : chkS Tryz.prog G0 6 1000 T59 L60 = true := by kernel_rfl
end Ev
end Go.Proofs.YtbcpfpombpfihabGreatDoor
