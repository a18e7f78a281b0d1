/- DifferKnown: a part of the lists holds: each call run by the kernel, by those before it. -/
import Derived.Test.YtknabnfamnlgdabGreatDoorDifd4
namespace Go.Proofs.YtknabnfamnlgdabGreatDoor
open Go.RowKit
namespace Ev
set_option maxHeartbeats 4000000
set_option maxRecDepth 1000000 in
theorem c241 : chkS Tryz.prog G0 8 1000 T240 L241 = true := by kernel_rfl
set_option maxRecDepth 1000000 in
theorem c242 : chkS Tryz.prog G0 8 1000 T241 L242 = true := by kernel_rfl
set_option maxRecDepth 1000000 in
theorem c243 : chkS Tryz.prog G0 8 1000 T242 L243 = true := by kernel_rfl
set_option maxRecDepth 1000000 in
theorem c244 : chkS Tryz.prog G0 8 1000 T243 L244 = true := by kernel_rfl
set_option maxRecDepth 1000000 in
theorem c245 : chkS Tryz.prog G0 8 1000 T244 L245 = true := by kernel_rfl
set_option maxRecDepth 1000000 in
theorem c246 : chkS Tryz.prog G0 8 1000 T245 L246 = true := by kernel_rfl
set_option maxRecDepth 1000000 in
theorem c247 : chkS Tryz.prog G0 8 1000 T246 L247 = true := by kernel_rfl
set_option maxRecDepth 1000000 in
theorem c248 : chkS Tryz.prog G0 8 1000 T247 L248 = true := by kernel_rfl
end Ev
end Go.Proofs.YtknabnfamnlgdabGreatDoor
