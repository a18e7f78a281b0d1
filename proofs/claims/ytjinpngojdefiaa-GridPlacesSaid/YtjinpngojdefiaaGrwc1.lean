/- wakes: a part of the lists holds: each call run by the kernel, by those before it. -/
import Derived.Test.YtjinpngojdefiaaGrwd1
namespace Go.Proofs.Ytjinpngojdefiaa
open Go.RowKit
namespace Ev
set_option maxHeartbeats 4000000
set_option maxRecDepth 1000000 in
theorem c1 : chkS Try.prog G0 0 1000 T0 L1 = true := by kernel_rfl
end Ev
end Go.Proofs.Ytjinpngojdefiaa
