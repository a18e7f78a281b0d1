/- BakeKnown: a part of the lists holds: each call run by the kernel, by those before it. -/
import Derived.Test.YtcphjhciiakhnaaGreatDoorBakd4
namespace Go.Proofs.YtcphjhciiakhnaaGreatDoor
open Go.RowKit
namespace Ev
set_option maxHeartbeats 4000000
set_option maxRecDepth 1000000 in
theorem c31 : chkS Tryz.prog G0 5 1000 T30 L31 = true := by kernel_rfl
set_option maxRecDepth 1000000 in
theorem c32 : chkS Tryz.prog G0 5 1000 T31 L32 = true := by kernel_rfl
set_option maxRecDepth 1000000 in
theorem c33 : chkS Tryz.prog G0 5 1000 T32 L33 = true := by kernel_rfl
set_option maxRecDepth 1000000 in
theorem c34 : chkS Tryz.prog G0 5 1000 T33 L34 = true := by kernel_rfl
set_option maxRecDepth 1000000 in
theorem c35 : chkS Tryz.prog G0 5 1000 T34 L35 = true := by kernel_rfl
set_option maxRecDepth 1000000 in
theorem c36 : chkS Tryz.prog G0 5 1000 T35 L36 = true := by kernel_rfl
end Ev
end Go.Proofs.YtcphjhciiakhnaaGreatDoor
