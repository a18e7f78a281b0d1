/- BakeKnown: a part of the lists holds: each call run by the kernel, by those before it. -/
import Derived.Test.YtcphjhciiakhnaaGreatDoorBakd4
namespace Go.Proofs.YtcphjhciiakhnaaGreatDoor
open Go.RowKit
namespace Ev
set_option maxHeartbeats 4000000
set_option maxRecDepth 1000000 in
theorem c25 : chkS Tryz.prog G0 5 1000 T24 L25 = true := by kernel_rfl
set_option maxRecDepth 1000000 in
theorem c26 : chkS Tryz.prog G0 5 1000 T25 L26 = true := by kernel_rfl
set_option maxRecDepth 1000000 in
theorem c27 : chkS Tryz.prog G0 5 1000 T26 L27 = true := by kernel_rfl
set_option maxRecDepth 1000000 in
theorem c28 : chkS Tryz.prog G0 5 1000 T27 L28 = true := by kernel_rfl
set_option maxRecDepth 1000000 in
theorem c29 : chkS Tryz.prog G0 5 1000 T28 L29 = true := by kernel_rfl
set_option maxRecDepth 1000000 in
theorem c30 : chkS Tryz.prog G0 5 1000 T29 L30 = true := by kernel_rfl
end Ev
end Go.Proofs.YtcphjhciiakhnaaGreatDoor
