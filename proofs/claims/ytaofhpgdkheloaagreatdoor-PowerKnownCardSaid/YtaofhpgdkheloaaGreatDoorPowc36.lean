/- PowerKnown: a part of the lists holds: each call run by the kernel, by those before it. -/
import Derived.Test.YtaofhpgdkheloaaGreatDoorPowd4
namespace Go.Proofs.YtaofhpgdkheloaaGreatDoor
open Go.RowKit
namespace Ev
set_option maxHeartbeats 4000000
set_option maxRecDepth 1000000 in
theorem c281 : chkS Tryz.prog G0 5 1000 T280 L281 = true := by kernel_rfl
set_option maxRecDepth 1000000 in
theorem c282 : chkS Tryz.prog G0 5 1000 T281 L282 = true := by kernel_rfl
set_option maxRecDepth 1000000 in
theorem c283 : chkS Tryz.prog G0 5 1000 T282 L283 = true := by kernel_rfl
set_option maxRecDepth 1000000 in
theorem c284 : chkS Tryz.prog G0 5 1000 T283 L284 = true := by kernel_rfl
set_option maxRecDepth 1000000 in
theorem c285 : chkS Tryz.prog G0 5 1000 T284 L285 = true := by kernel_rfl
set_option maxRecDepth 1000000 in
theorem c286 : chkS Tryz.prog G0 5 1000 T285 L286 = true := by kernel_rfl
set_option maxRecDepth 1000000 in
theorem c287 : chkS Tryz.prog G0 5 1000 T286 L287 = true := by kernel_rfl
set_option maxRecDepth 1000000 in
theorem c288 : chkS Tryz.prog G0 5 1000 T287 L288 = true := by kernel_rfl
end Ev
end Go.Proofs.YtaofhpgdkheloaaGreatDoor
