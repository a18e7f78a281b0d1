/- DifferKnown: a part of the lists holds: each call run by the kernel, by those before it. -/
import Derived.Test.YtknabnfamnlgdabGreatDoorDifd4
namespace Go.Proofs.YtknabnfamnlgdabGreatDoor
open Go.RowKit
namespace Ev
set_option maxHeartbeats 4000000
set_option maxRecDepth 1000000 in
theorem c153 : chkS Tryz.prog G0 8 1000 T152 L153 = true := by kernel_rfl
set_option maxRecDepth 1000000 in
theorem c154 : chkS Tryz.prog G0 8 1000 T153 L154 = true := by kernel_rfl
set_option maxRecDepth 1000000 in
theorem c155 : chkS Tryz.prog G0 8 1000 T154 L155 = true := by kernel_rfl
set_option maxRecDepth 1000000 in
theorem c156 : chkS Tryz.prog G0 8 1000 T155 L156 = true := by kernel_rfl
set_option maxRecDepth 1000000 in
theorem c157 : chkS Tryz.prog G0 8 1000 T156 L157 = true := by kernel_rfl
set_option maxRecDepth 1000000 in
theorem c158 : chkS Tryz.prog G0 8 1000 T157 L158 = true := by kernel_rfl
set_option maxRecDepth 1000000 in
theorem c159 : chkS Tryz.prog G0 8 1000 T158 L159 = true := by kernel_rfl
set_option maxRecDepth 1000000 in
theorem c160 : chkS Tryz.prog G0 8 1000 T159 L160 = true := by kernel_rfl
end Ev
end Go.Proofs.YtknabnfamnlgdabGreatDoor
