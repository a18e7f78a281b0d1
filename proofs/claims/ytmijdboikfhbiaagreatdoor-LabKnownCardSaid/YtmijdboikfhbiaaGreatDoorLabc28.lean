/- LabKnown: a part of the lists holds: each call run by the kernel, by those before it. -/
import Derived.Test.YtmijdboikfhbiaaGreatDoorLabd2
namespace Go.Proofs.YtmijdboikfhbiaaGreatDoor
open Go.RowKit
namespace Ev
set_option maxHeartbeats 4000000
set_option maxRecDepth 1000000 in
theorem c109 : chkS Tryz.prog G0 5 1000 T108 L109 = true := by kernel_rfl
set_option maxRecDepth 1000000 in
theorem c110 : chkS Tryz.prog G0 5 1000 T109 L110 = true := by kernel_rfl
set_option maxRecDepth 1000000 in
theorem c111 : chkS Tryz.prog G0 5 1000 T110 L111 = true := by kernel_rfl
set_option maxRecDepth 1000000 in
theorem c112 : chkS Tryz.prog G0 5 1000 T111 L112 = true := by kernel_rfl
end Ev
end Go.Proofs.YtmijdboikfhbiaaGreatDoor
