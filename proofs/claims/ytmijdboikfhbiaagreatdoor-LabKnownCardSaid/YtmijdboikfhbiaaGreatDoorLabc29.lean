/- LabKnown: a part of the lists holds: each call run by the kernel, by those before it. -/
import Derived.Test.YtmijdboikfhbiaaGreatDoorLabd2
namespace Go.Proofs.YtmijdboikfhbiaaGreatDoor
open Go.RowKit
namespace Ev
set_option maxHeartbeats 4000000
set_option maxRecDepth 1000000 in
theorem c113 : chkS Tryz.prog G0 5 1000 T112 L113 = true := by kernel_rfl
set_option maxRecDepth 1000000 in
theorem c114 : chkS Tryz.prog G0 5 1000 T113 L114 = true := by kernel_rfl
set_option maxRecDepth 1000000 in
theorem c115 : chkS Tryz.prog G0 5 1000 T114 L115 = true := by kernel_rfl
set_option maxRecDepth 1000000 in
theorem c116 : chkS Tryz.prog G0 5 1000 T115 L116 = true := by kernel_rfl
end Ev
end Go.Proofs.YtmijdboikfhbiaaGreatDoor
