/- PowerKnown: a part of the lists holds: each call run by the kernel, by those before it. -/
import Derived.Test.YtaofhpgdkheloaaGreatDoorPowd4
namespace Go.Proofs.YtaofhpgdkheloaaGreatDoor
open Go.RowKit
namespace Ev
set_option maxHeartbeats 4000000
set_option maxRecDepth 1000000 in
theorem c257 : chkS Tryz.prog G0 5 1000 T256 L257 = true := by kernel_rfl
set_option maxRecDepth 1000000 in
theorem c258 : chkS Tryz.prog G0 5 1000 T257 L258 = true := by kernel_rfl
set_option maxRecDepth 1000000 in
theorem c259 : chkS Tryz.prog G0 5 1000 T258 L259 = true := by kernel_rfl
set_option maxRecDepth 1000000 in
theorem c260 : chkS Tryz.prog G0 5 1000 T259 L260 = true := by kernel_rfl
set_option maxRecDepth 1000000 in
theorem c261 : chkS Tryz.prog G0 5 1000 T260 L261 = true := by kernel_rfl
set_option maxRecDepth 1000000 in
theorem c262 : chkS Tryz.prog G0 5 1000 T261 L262 = true := by kernel_rfl
set_option maxRecDepth 1000000 in
theorem c263 : chkS Tryz.prog G0 5 1000 T262 L263 = true := by kernel_rfl
set_option maxRecDepth 1000000 in
theorem c264 : chkS Tryz.prog G0 5 1000 T263 L264 = true := by kernel_rfl
end Ev
end Go.Proofs.YtaofhpgdkheloaaGreatDoor
