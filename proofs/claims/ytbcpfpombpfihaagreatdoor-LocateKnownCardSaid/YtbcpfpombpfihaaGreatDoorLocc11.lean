/- LocateKnown: a part of the lists holds: each call run by the kernel, by those before it. -/
import Derived.Test.YtbcpfpombpfihaaGreatDoorLocd1
namespace Go.Proofs.YtbcpfpombpfihaaGreatDoor
open Go.RowKit
namespace Ev
set_option maxHeartbeats 4000000
set_option maxRecDepth 1000000 in
theorem c11 : chkS Tryz.prog G0 5 1000 T10 L11 = true := by kernel_rfl
end Ev
end Go.Proofs.YtbcpfpombpfihaaGreatDoor
