/- PowerKnown: a part of the lists holds: each call run by the kernel, by those before it. -/
import Derived.Test.YtaofhpgdkheloaaGreatDoorPowd4
namespace Go.Proofs.YtaofhpgdkheloaaGreatDoor
open Go.RowKit
namespace Ev
set_option maxHeartbeats 4000000
set_option maxRecDepth 1000000 in
theorem c265 : chkS Tryz.prog G0 5 1000 T264 L265 = true := by kernel_rfl
set_option maxRecDepth 1000000 in
theorem c266 : chkS Tryz.prog G0 5 1000 T265 L266 = true := by kernel_rfl
set_option maxRecDepth 1000000 in
theorem c267 : chkS Tryz.prog G0 5 1000 T266 L267 = true := by kernel_rfl
set_option maxRecDepth 1000000 in
theorem c268 : chkS Tryz.prog G0 5 1000 T267 L268 = true := by kernel_rfl
set_option maxRecDepth 1000000 in
theorem c269 : chkS Tryz.prog G0 5 1000 T268 L269 = true := by kernel_rfl
set_option maxRecDepth 1000000 in
theorem c270 : chkS Tryz.prog G0 5 1000 T269 L270 = true := by kernel_rfl
set_option maxRecDepth 1000000 in
theorem c271 : chkS Tryz.prog G0 5 1000 T270 L271 = true := by kernel_rfl
set_option maxRecDepth 1000000 in
theorem c272 : chkS Tryz.prog G0 5 1000 T271 L272 = true := by kernel_rfl
end Ev
end Go.Proofs.YtaofhpgdkheloaaGreatDoor
