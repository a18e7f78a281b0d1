/- DifferKnown: a part of the lists holds: each call run by the kernel, by those before it. -/
import Derived.Test.YtknabnfamnlgdabGreatDoorDifd4
namespace Go.Proofs.YtknabnfamnlgdabGreatDoor
open Go.RowKit
namespace Ev
set_option maxHeartbeats 4000000
set_option maxRecDepth 1000000 in
theorem c121 : chkS Tryz.prog G0 8 1000 T120 L121 = true := by kernel_rfl
set_option maxRecDepth 1000000 in
theorem c122 : chkS Tryz.prog G0 8 1000 T121 L122 = true := by kernel_rfl
set_option maxRecDepth 1000000 in
theorem c123 : chkS Tryz.prog G0 8 1000 T122 L123 = true := by kernel_rfl
set_option maxRecDepth 1000000 in
theorem c124 : chkS Tryz.prog G0 8 1000 T123 L124 = true := by kernel_rfl
set_option maxRecDepth 1000000 in
theorem c125 : chkS Tryz.prog G0 8 1000 T124 L125 = true := by kernel_rfl
set_option maxRecDepth 1000000 in
theorem c126 : chkS Tryz.prog G0 8 1000 T125 L126 = true := by kernel_rfl
set_option maxRecDepth 1000000 in
theorem c127 : chkS Tryz.prog G0 8 1000 T126 L127 = true := by kernel_rfl
set_option maxRecDepth 1000000 in
theorem c128 : chkS Tryz.prog G0 8 1000 T127 L128 = true := by kernel_rfl
end Ev
end Go.Proofs.YtknabnfamnlgdabGreatDoor
