/- BakeKnown: a part of the lists holds: each call run by the kernel, by those before it. -/
import Derived.Test.YtcphjhciiakhnaaGreatDoorBakd4
namespace Go.Proofs.YtcphjhciiakhnaaGreatDoor
open Go.RowKit
namespace Ev
set_option maxHeartbeats 4000000
set_option maxRecDepth 1000000 in
theorem c7 : chkS Tryz.prog G0 5 1000 T6 L7 = true := by kernel_rfl
set_option maxRecDepth 1000000 in
theorem c8 : chkS Tryz.prog G0 5 1000 T7 L8 = true := by kernel_rfl
set_option maxRecDepth 1000000 in
theorem c9 : chkS Tryz.prog G0 5 1000 T8 L9 = true := by kernel_rfl
set_option maxRecDepth 1000000 in
theorem c10 : chkS Tryz.prog G0 5 1000 T9 L10 = true := by kernel_rfl
set_option maxRecDepth 1000000 in
theorem c11 : chkS Tryz.prog G0 5 1000 T10 L11 = true := by kernel_rfl
set_option maxRecDepth 1000000 in
theorem c12 : chkS Tryz.prog G0 5 1000 T11 L12 = true := by kernel_rfl
end Ev
end Go.Proofs.YtcphjhciiakhnaaGreatDoor
