/- works: the call itself, run by the kernel, by the known calls. -/
import Derived.Test.YtajadhbbnahnjaaDoorDiWd1
namespace Go.Proofs.YtajadhbbnahnjaaDoor
open Go.RowKit
namespace Ev
set_option maxHeartbeats 4000000
set_option maxRecDepth 1000000 in
theorem runs : runA Tryd.prog G0 2 T9 1000 5 [] = some (.bool true) := by kernel_rfl
end Ev
end Go.Proofs.YtajadhbbnahnjaaDoor
