/- GridKnown: a part of the lists holds: each call run by the kernel, by those before it. -/
import Derived.Test.YtbmnclnmpheodabGrid2
namespace Go.Proofs.Ytbmnclnmpheodab
open Go.RowKit
namespace Ev
set_option maxHeartbeats 4000000
set_option maxRecDepth 1000000 in
theorem c1 : chkS Try.prog G0 0 1000 T0 L1 = true := by kernel_rfl
set_option maxRecDepth 1000000 in
theorem c2 : chkS Try.prog G0 0 1000 T1 L2 = true := by kernel_rfl
set_option maxRecDepth 1000000 in
theorem c3 : chkS Try.prog G0 0 1000 T2 L3 = true := by kernel_rfl
set_option maxRecDepth 1000000 in
theorem c4 : chkS Try.prog G0 0 1000 T3 L4 = true := by kernel_rfl
end Ev
end Go.Proofs.Ytbmnclnmpheodab
