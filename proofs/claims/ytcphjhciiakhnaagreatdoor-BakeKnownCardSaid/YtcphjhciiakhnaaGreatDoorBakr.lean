/- BakeKnown: the call itself, run by the kernel, by the known calls. -/
import Derived.Test.YtcphjhciiakhnaaGreatDoorBakd4
namespace Go.Proofs.YtcphjhciiakhnaaGreatDoor
open Go.RowKit
namespace Ev
set_option maxHeartbeats 4000000
set_option maxRecDepth 1000000 in
theorem runs : runA Tryz.prog G0 5 T65 1000 3 [] = some (.bool true) := by kernel_rfl
end Ev
end Go.Proofs.YtcphjhciiakhnaaGreatDoor
