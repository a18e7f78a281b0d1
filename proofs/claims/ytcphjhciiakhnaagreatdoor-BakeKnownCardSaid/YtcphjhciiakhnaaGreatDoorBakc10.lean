/- BakeKnown: a part of the lists holds: each call run by the kernel, by those before it. -/
import Derived.Test.YtcphjhciiakhnaaGreatDoorBakd4
namespace Go.Proofs.YtcphjhciiakhnaaGreatDoor
open Go.RowKit
namespace Ev
set_option maxHeartbeats 4000000
set_option maxRecDepth 1000000 in
theorem c55 : chkS Tryz.prog G0 5 1000 T54 L55 = true := by kernel_rfl
set_option maxRecDepth 1000000 in
theorem c56 : chkS Tryz.prog G0 5 1000 T55 L56 = true := by kernel_rfl
set_option maxRecDepth 1000000 in
theorem c57 : chkS Tryz.prog G0 5 1000 T56 L57 = true := by kernel_rfl
set_option maxRecDepth 1000000 in
theorem c58 : chkS Tryz.prog G0 5 1000 T57 L58 = true := by kernel_rfl
set_option maxRecDepth 1000000 in
theorem c59 : chkS Tryz.prog G0 5 1000 T58 L59 = true := by kernel_rfl
set_option maxRecDepth 1000000 in
theorem c60 : chkS Tryz.prog G0 5 1000 T59 L60 = true := by kernel_rfl
end Ev
end Go.Proofs.YtcphjhciiakhnaaGreatDoor
