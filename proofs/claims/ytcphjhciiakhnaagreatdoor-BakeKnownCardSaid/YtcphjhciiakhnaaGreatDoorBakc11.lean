/- BakeKnown: a part of the lists holds: each call run by the kernel, by those before it. -/
import Derived.Test.YtcphjhciiakhnaaGreatDoorBakd4
namespace Go.Proofs.YtcphjhciiakhnaaGreatDoor
open Go.RowKit
namespace Ev
set_option maxHeartbeats 4000000
set_option maxRecDepth 1000000 in
theorem c61 : chkS Tryz.prog G0 5 1000 T60 L61 = true := by kernel_rfl
set_option maxRecDepth 1000000 in
theorem c62 : chkS Tryz.prog G0 5 1000 T61 L62 = true := by kernel_rfl
set_option maxRecDepth 1000000 in
theorem c63 : chkS Tryz.prog G0 5 1000 T62 L63 = true := by kernel_rfl
set_option maxRecDepth 1000000 in
theorem c64 : chkS Tryz.prog G0 5 1000 T63 L64 = true := by kernel_rfl
set_option maxRecDepth 1000000 in
theorem c65 : chkS Tryz.prog G0 5 1000 T64 L65 = true := by kernel_rfl
end Ev
end Go.Proofs.YtcphjhciiakhnaaGreatDoor
