/- LightKnown: the call itself, run by the kernel, by the known calls. -/
import Derived.Test.YtbcpfpombpfihabGreatDoorLigd1
namespace Go.Proofs.YtbcpfpombpfihabGreatDoor
open Go.RowKit
namespace Ev
set_option maxHeartbeats 4000000
set_option maxRecDepth 1000000 in
theorem runs : runA Tryz.prog G0 6 T81 1000 3 [] = some (.bool true) := by kernel_rfl
end Ev
end Go.Proofs.YtbcpfpombpfihabGreatDoor
