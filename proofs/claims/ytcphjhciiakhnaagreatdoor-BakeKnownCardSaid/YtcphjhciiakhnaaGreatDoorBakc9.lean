/- BakeKnown: a part of the lists holds: each call run by the kernel, by those before it. -/
import Derived.Test.YtcphjhciiakhnaaGreatDoorBakd4
namespace Go.Proofs.YtcphjhciiakhnaaGreatDoor
open Go.RowKit
namespace Ev
set_option maxHeartbeats 4000000
set_option maxRecDepth 1000000 in
theorem c49 : chkS Tryz.prog G0 5 1000 T48 L49 = true := by kernel_rfl
set_option maxRecDepth 1000000 in
theorem c50 : chkS Tryz.prog G0 5 1000 T49 L50 = true := by kernel_rfl
set_option maxRecDepth 1000000 in
theorem c51 : chkS Tryz.prog G0 5 1000 T50 L51 = true := by kernel_rfl
set_option maxRecDepth 1000000 in
theorem c52 : chkS Tryz.prog G0 5 1000 T51 L52 = true := by kernel_rfl
set_option maxRecDepth 1000000 in
theorem c53 : chkS Tryz.prog G0 5 1000 T52 L53 = true := by kernel_rfl
set_option maxRecDepth 1000000 in
theorem c54 : chkS Tryz.prog G0 5 1000 T53 L54 = true := by kernel_rfl
end Ev
end Go.Proofs.YtcphjhciiakhnaaGreatDoor
