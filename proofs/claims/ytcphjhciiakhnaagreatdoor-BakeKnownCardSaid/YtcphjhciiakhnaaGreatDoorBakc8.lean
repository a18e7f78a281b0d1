/- BakeKnown: a part of the lists holds: each call run by the kernel, by those before it. -/
import Derived.Test.YtcphjhciiakhnaaGreatDoorBakd4
namespace Go.Proofs.YtcphjhciiakhnaaGreatDoor
open Go.RowKit
namespace Ev
set_option maxHeartbeats 4000000
set_option maxRecDepth 1000000 in
theorem c43 : chkS Tryz.prog G0 5 1000 T42 L43 = true := by kernel_rfl
set_option maxRecDepth 1000000 in
theorem c44 : chkS Tryz.prog G0 5 1000 T43 L44 = true := by kernel_rfl
set_option maxRecDepth 1000000 in
theorem c45 : chkS Tryz.prog G0 5 1000 T44 L45 = true := by kernel_rfl
set_option maxRecDepth 1000000 in
theorem c46 : chkS Tryz.prog G0 5 1000 T45 L46 = true := by kernel_rfl
set_option maxRecDepth 1000000 in
theorem c47 : chkS Tryz.prog G0 5 1000 T46 L47 = true := by kernel_rfl
set_option maxRecDepth 1000000 in
theorem c48 : chkS Tryz.prog G0 5 1000 T47 L48 = true := by kernel_rfl
end Ev
end Go.Proofs.YtcphjhciiakhnaaGreatDoor
