/- DifferKnown: a part of the lists holds: each call run by the kernel, by those before it. -/
import Derived.Test.YtknabnfamnlgdabGreatDoorDifd4
namespace Go.Proofs.YtknabnfamnlgdabGreatDoor
open Go.RowKit
namespace Ev
set_option maxHeartbeats 4000000
set_option maxRecDepth 1000000 in
theorem c129 : chkS Tryz.prog G0 8 1000 T128 L129 = true := by kernel_rfl
set_option maxRecDepth 1000000 in
theorem c130 : chkS Tryz.prog G0 8 1000 T129 L130 = true := by kernel_rfl
set_option maxRecDepth 1000000 in
theorem c131 : chkS Tryz.prog G0 8 1000 T130 L131 = true := by kernel_rfl
set_option maxRecDepth 1000000 in
theorem c132 : chkS Tryz.prog G0 8 1000 T131 L132 = true := by kernel_rfl
set_option maxRecDepth 1000000 in
theorem c133 : chkS Tryz.prog G0 8 1000 T132 L133 = true := by kernel_rfl
set_option maxRecDepth 1000000 in
theorem c134 : chkS Tryz.prog G0 8 1000 T133 L134 = true := by kernel_rfl
set_option maxRecDepth 1000000 in
theorem c135 : chkS Tryz.prog G0 8 1000 T134 L135 = true := by kernel_rfl
set_option maxRecDepth 1000000 in
theorem c136 : chkS Tryz.prog G0 8 1000 T135 L136 = true := by kernel_rfl
end Ev
end Go.Proofs.YtknabnfamnlgdabGreatDoor
