/- DifferKnown: a part of the lists holds: each call run by the kernel, by those before it. -/
import Derived.Test.YtknabnfamnlgdabGreatDoorDifd4
namespace Go.Proofs.YtknabnfamnlgdabGreatDoor
open Go.RowKit
namespace Ev
set_option maxHeartbeats 4000000
set_option maxRecDepth 1000000 in
theorem c257 : chkS Tryz.prog G0 8 1000 T256 L257 = true := by kernel_rfl
set_option maxRecDepth 1000000 in
theorem c258 : chkS Tryz.prog G0 8 1000 T257 L258 = true := by kernel_rfl
set_option maxRecDepth 1000000 in
theorem c259 : chkS Tryz.prog G0 8 1000 T258 L259 = true := by kernel_rfl
set_option maxRecDepth 1000000 in
theorem c260 : chkS Tryz.prog G0 8 1000 T259 L260 = true := by kernel_rfl
set_option maxRecDepth 1000000 in
theorem c261 : chkS Tryz.prog G0 8 1000 T260 L261 = true := by kernel_rfl
set_option maxRecDepth 1000000 in
theorem c262 : chkS Tryz.prog G0 8 1000 T261 L262 = true := by kernel_rfl
end Ev
end Go.Proofs.YtknabnfamnlgdabGreatDoor
