/- works: a part of the lists holds: each call run by the kernel, by those before it. -/
import Derived.Test.YthdilefgacgbdaaGreatDoorInWd1
namespace Go.Proofs.YthdilefgacgbdaaGreatDoor
open Go.RowKit
namespace Ev
set_option maxHeartbeats 4000000
set_option maxRecDepth 1000000 in
theorem c2 : chkS Tryz.prog G0 5 1000 T1 L2 = true := by kernel_rfl
end Ev
end Go.Proofs.YthdilefgacgbdaaGreatDoor
