/- BakeKnown: a part of the lists holds: each call run by the kernel, by those before it. -/
import Derived.Test.YtcphjhciiakhnaaGreatDoorBakd4
namespace Go.Proofs.YtcphjhciiakhnaaGreatDoor
open Go.RowKit
namespace Ev
set_option maxHeartbeats 4000000
set_option maxRecDepth 1000000 in
theorem c1 : chkS Tryz.prog G0 5 1000 T0 L1 = true := by kernel_rfl
set_option maxRecDepth 1000000 in
theorem c2 : chkS Tryz.prog G0 5 1000 T1 L2 = true := by kernel_rfl
set_option maxRecDepth 1000000 in
theorem c3 : chkS Tryz.prog G0 5 1000 T2 L3 = true := by kernel_rfl
set_option maxRecDepth 1000000 in
theorem c4 : chkS Tryz.prog G0 5 1000 T3 L4 = true := by kernel_rfl
set_option maxRecDepth 1000000 in
theorem c5 : chkS Tryz.prog G0 5 1000 T4 L5 = true := by kernel_rfl
set_option maxRecDepth 1000000 in
theorem c6 : chkS Tryz.prog G0 5 1000 T5 L6 = true := by kernel_rfl
end Ev
end Go.Proofs.YtcphjhciiakhnaaGreatDoor
