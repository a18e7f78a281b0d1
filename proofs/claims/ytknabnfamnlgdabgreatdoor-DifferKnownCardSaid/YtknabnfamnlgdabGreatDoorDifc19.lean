/- DifferKnown: a part of the lists holds: each call run by the kernel, by those before it. -/
import Derived.Test.YtknabnfamnlgdabGreatDoorDifd4
namespace Go.Proofs.YtknabnfamnlgdabGreatDoor
open Go.RowKit
namespace Ev
set_option maxHeartbeats 4000000
set_option maxRecDepth 1000000 in
theorem c145 : chkS Tryz.prog G0 8 1000 T144 L145 = true := by kernel_rfl
set_option maxRecDepth 1000000 in
theorem c146 : chkS Tryz.prog G0 8 1000 T145 L146 = true := by kernel_rfl
set_option maxRecDepth 1000000 in
theorem c147 : chkS Tryz.prog G0 8 1000 T146 L147 = true := by kernel_rfl
set_option maxRecDepth 1000000 in
theorem c148 : chkS Tryz.prog G0 8 1000 T147 L148 = true := by kernel_rfl
set_option maxRecDepth 1000000 in
theorem c149 : chkS Tryz.prog G0 8 1000 T148 L149 = true := by kernel_rfl
set_option maxRecDepth 1000000 in
theorem c150 : chkS Tryz.prog G0 8 1000 T149 L150 = true := by kernel_rfl
set_option maxRecDepth 1000000 in
theorem c151 : chkS Tryz.prog G0 8 1000 T150 L151 = true := by kernel_rfl
set_option maxRecDepth 1000000 in
theorem c152 : chkS Tryz.prog G0 8 1000 T151 L152 = true := by kernel_rfl
end Ev
end Go.Proofs.YtknabnfamnlgdabGreatDoor
