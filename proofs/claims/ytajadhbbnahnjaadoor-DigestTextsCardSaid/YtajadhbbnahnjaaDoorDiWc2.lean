/- works: a part of the lists holds: each call run by the kernel, by those before it. -/
import Derived.Test.YtajadhbbnahnjaaDoorDiWd1
namespace Go.Proofs.YtajadhbbnahnjaaDoor
open Go.RowKit
namespace Ev
set_option maxHeartbeats 4000000
set_option maxRecDepth 1000000 in
theorem c9 : chkS Tryd.prog G0 2 1000 T8 L9 = true := by kernel_rfl
end Ev
end Go.Proofs.YtajadhbbnahnjaaDoor
