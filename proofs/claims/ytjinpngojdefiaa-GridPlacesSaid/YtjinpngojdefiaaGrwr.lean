/- wakes: the call itself, run by the kernel, by the known calls. -/
import Derived.Test.YtjinpngojdefiaaGrwd1
namespace Go.Proofs.Ytjinpngojdefiaa
open Go.RowKit
namespace Ev
set_option maxHeartbeats 4000000
set_option maxRecDepth 1000000 in
theorem runs : runA Try.prog G0 0 T2 1000 10 [] = some (.bool true) := by kernel_rfl
end Ev
end Go.Proofs.Ytjinpngojdefiaa
