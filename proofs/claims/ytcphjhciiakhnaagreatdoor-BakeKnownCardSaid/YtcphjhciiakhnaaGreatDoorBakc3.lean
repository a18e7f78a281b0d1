/- BakeKnown: a part of the lists holds: each call run by the kernel, by those before it. -/
import Derived.Test.YtcphjhciiakhnaaGreatDoorBakd4
namespace Go.Proofs.YtcphjhciiakhnaaGreatDoor
open Go.RowKit
namespace Ev
set_option maxHeartbeats 4000000
set_option maxRecDepth 1000000 in
theorem c13 : chkS Tryz.prog G0 5 1000 T12 L13 = true := by kernel_rfl
set_option maxRecDepth 1000000 in
theorem c14 : chkS Tryz.prog G0 5 1000 T13 L14 = true := by kernel_rfl
set_option maxRecDepth 1000000 in
theorem c15 : chkS Tryz.prog G0 5 1000 T14 L15 = true := by kernel_rfl
set_option maxRecDepth 1000000 in
theorem c16 : chkS Tryz.prog G0 5 1000 T15 L16 = true := by kernel_rfl
set_option maxRecDepth 1000000 in
theorem c17 : chkS Tryz.prog G0 5 1000 T16 L17 = true := by kernel_rfl
set_option maxRecDepth 1000000 in
theorem c18 : chkS Tryz.prog G0 5 1000 T17 L18 = true := by kernel_rfl
end Ev
end Go.Proofs.YtcphjhciiakhnaaGreatDoor
