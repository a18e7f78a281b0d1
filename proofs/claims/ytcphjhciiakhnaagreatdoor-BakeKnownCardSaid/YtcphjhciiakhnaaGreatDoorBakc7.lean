/- BakeKnown: a part of the lists holds: each call run by the kernel, by those before it. -/
import Derived.Test.YtcphjhciiakhnaaGreatDoorBakd4
namespace Go.Proofs.YtcphjhciiakhnaaGreatDoor
open Go.RowKit
namespace Ev
set_option maxHeartbeats 4000000
set_option maxRecDepth 1000000 in
theorem c37 : chkS Tryz.prog G0 5 1000 T36 L37 = true := by kernel_rfl
set_option maxRecDepth 1000000 in
theorem c38 : chkS Tryz.prog G0 5 1000 T37 L38 = true := by kernel_rfl
set_option maxRecDepth 1000000 in
theorem c39 : chkS Tryz.prog G0 5 1000 T38 L39 = true := by kernel_rfl
set_option maxRecDepth 1000000 in
theorem c40 : chkS Tryz.prog G0 5 1000 T39 L40 = true := by kernel_rfl
set_option maxRecDepth 1000000 in
theorem c41 : chkS Tryz.prog G0 5 1000 T40 L41 = true := by kernel_rfl
set_option maxRecDepth 1000000 in
theorem c42 : chkS Tryz.prog G0 5 1000 T41 L42 = true := by kernel_rfl
end Ev
end Go.Proofs.YtcphjhciiakhnaaGreatDoor
