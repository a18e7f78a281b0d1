/- PowerKnown: a part of the lists holds: each call run by the kernel, by those before it. -/
import Derived.Test.YtaofhpgdkheloaaGreatDoorPowd4
namespace Go.Proofs.YtaofhpgdkheloaaGreatDoor
open Go.RowKit
namespace Ev
set_option maxHeartbeats 4000000
set_option maxRecDepth 1000000 in
theorem c289 : chkS Tryz.prog G0 5 1000 T288 L289 = true := by kernel_rfl
set_option maxRecDepth 1000000 in
theorem c290 : chkS Tryz.prog G0 5 1000 T289 L290 = true := by kernel_rfl
set_option maxRecDepth 1000000 in
theorem c291 : chkS Tryz.prog G0 5 1000 T290 L291 = true := by kernel_rfl
set_option maxRecDepth 1000000 in
theorem c292 : chkS Tryz.prog G0 5 1000 T291 L292 = true := by kernel_rfl
end Ev
end Go.Proofs.YtaofhpgdkheloaaGreatDoor
