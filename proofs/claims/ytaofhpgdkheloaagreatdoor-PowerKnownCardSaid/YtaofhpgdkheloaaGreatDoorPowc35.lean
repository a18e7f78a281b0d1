/- PowerKnown: a part of the lists holds: each call run by the kernel, by those before it. -/
import Derived.Test.YtaofhpgdkheloaaGreatDoorPowd4
namespace Go.Proofs.YtaofhpgdkheloaaGreatDoor
open Go.RowKit
namespace Ev
set_option maxHeartbeats 4000000
set_option maxRecDepth 1000000 in
theorem c273 : chkS Tryz.prog G0 5 1000 T272 L273 = true := by kernel_rfl
set_option maxRecDepth 1000000 in
theorem c274 : chkS Tryz.prog G0 5 1000 T273 L274 = true := by kernel_rfl
set_option maxRecDepth 1000000 in
theorem c275 : chkS Tryz.prog G0 5 1000 T274 L275 = true := by kernel_rfl
set_option maxRecDepth 1000000 in
theorem c276 : chkS Tryz.prog G0 5 1000 T275 L276 = true := by kernel_rfl
set_option maxRecDepth 1000000 in
theorem c277 : chkS Tryz.prog G0 5 1000 T276 L277 = true := by kernel_rfl
set_option maxRecDepth 1000000 in
theorem c278 : chkS Tryz.prog G0 5 1000 T277 L278 = true := by kernel_rfl
set_option maxRecDepth 1000000 in
theorem c279 : chkS Tryz.prog G0 5 1000 T278 L279 = true := by kernel_rfl
set_option maxRecDepth 1000000 in
theorem c280 : chkS Tryz.prog G0 5 1000 T279 L280 = true := by kernel_rfl
end Ev
end Go.Proofs.YtaofhpgdkheloaaGreatDoor
