/- DifferKnown: a part of the lists holds: each call run by the kernel, by those before it. -/
import Derived.Test.YtknabnfamnlgdabGreatDoorDifd4
namespace Go.Proofs.YtknabnfamnlgdabGreatDoor
open Go.RowKit
namespace Ev
set_option maxHeartbeats 4000000
set_option maxRecDepth 1000000 in
theorem c201 : chkS Tryz.prog G0 8 1000 T200 L201 = true := by kernel_rfl
set_option maxRecDepth 1000000 in
theorem c202 : chkS Tryz.prog G0 8 1000 T201 L202 = true := by kernel_rfl
set_option maxRecDepth 1000000 in
theorem c203 : chkS Tryz.prog G0 8 1000 T202 L203 = true := by kernel_rfl
set_option maxRecDepth 1000000 in
theorem c204 : chkS Tryz.prog G0 8 1000 T203 L204 = true := by kernel_rfl
set_option maxRecDepth 1000000 in
theorem c205 : chkS Tryz.prog G0 8 1000 T204 L205 = true := by kernel_rfl
set_option maxRecDepth 1000000 in
theorem c206 : chkS Tryz.prog G0 8 1000 T205 L206 = true := by kernel_rfl
set_option maxRecDepth 1000000 in
theorem c207 : chkS Tryz.prog G0 8 1000 T206 L207 = true := by kernel_rfl
set_option maxRecDepth 1000000 in
theorem c208 : chkS Tryz.prog G0 8 1000 T207 L208 = true := by kernel_rfl
end Ev
end Go.Proofs.YtknabnfamnlgdabGreatDoor
