/- LabKnown: a part of the lists holds: each call run by the kernel, by those before it. -/
import Derived.Test.YtmijdboikfhbiaaGreatDoorLabd2
namespace Go.Proofs.YtmijdboikfhbiaaGreatDoor
open Go.RowKit
namespace Ev
set_option maxHeartbeats 4000000
set_option maxRecDepth 1000000 in
theorem c93 : chkS Tryz.prog G0 5 1000 T92 L93 = true := by kernel_rfl
set_option maxRecDepth 1000000 in
theorem c94 : chkS Tryz.prog G0 5 1000 T93 L94 = true := by kernel_rfl
set_option maxRecDepth 1000000 in
theorem c95 : chkS Tryz.prog G0 5 1000 T94 L95 = true := by kernel_rfl
set_option maxRecDepth 1000000 in
theorem c96 : chkS Tryz.prog G0 5 1000 T95 L96 = true := by kernel_rfl
end Ev
end Go.Proofs.YtmijdboikfhbiaaGreatDoor
