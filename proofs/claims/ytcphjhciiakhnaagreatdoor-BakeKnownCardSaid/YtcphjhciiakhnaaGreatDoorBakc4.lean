/- BakeKnown: a part of the lists holds: each call run by the kernel, by those before it. -/
import Derived.Test.YtcphjhciiakhnaaGreatDoorBakd4
namespace Go.Proofs.YtcphjhciiakhnaaGreatDoor
open Go.RowKit
namespace Ev
set_option maxHeartbeats 4000000
set_option maxRecDepth 1000000 in
theorem c19 : chkS Tryz.prog G0 5 1000 T18 L19 = true := by kernel_rfl
set_option maxRecDepth 1000000 in
theorem c20 : chkS Tryz.prog G0 5 1000 T19 L20 = true := by kernel_rfl
set_option maxRecDepth 1000000 in
theorem c21 : chkS Tryz.prog G0 5 1000 T20 L21 = true := by kernel_rfl
set_option maxRecDepth 1000000 in
theorem c22 : chkS Tryz.prog G0 5 1000 T21 L22 = true := by kernel_rfl
set_option maxRecDepth 1000000 in
theorem c23 : chkS Tryz.prog G0 5 1000 T22 L23 = true := by kernel_rfl
set_option maxRecDepth 1000000 in
theorem c24 : chkS Tryz.prog G0 5 1000 T23 L24 = true := by kernel_rfl
end Ev
end Go.Proofs.YtcphjhciiakhnaaGreatDoor
