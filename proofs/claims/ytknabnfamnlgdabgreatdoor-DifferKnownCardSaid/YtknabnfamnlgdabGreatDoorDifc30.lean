/- DifferKnown: a part of the lists holds: each call run by the kernel, by those before it. -/
import Derived.Test.YtknabnfamnlgdabGreatDoorDifd4
namespace Go.Proofs.YtknabnfamnlgdabGreatDoor
open Go.RowKit
namespace Ev
set_option maxHeartbeats 4000000
set_option maxRecDepth 1000000 in
theorem c233 : chkS Tryz.prog G0 8 1000 T232 L233 = true := by kernel_rfl
set_option maxRecDepth 1000000 in
theorem c234 : chkS Tryz.prog G0 8 1000 T233 L234 = true := by kernel_rfl
set_option maxRecDepth 1000000 in
theorem c235 : chkS Tryz.prog G0 8 1000 T234 L235 = true := by kernel_rfl
set_option maxRecDepth 1000000 in
theorem c236 : chkS Tryz.prog G0 8 1000 T235 L236 = true := by kernel_rfl
set_option maxRecDepth 1000000 in
theorem c237 : chkS Tryz.prog G0 8 1000 T236 L237 = true := by kernel_rfl
set_option maxRecDepth 1000000 in
theorem c238 : chkS Tryz.prog G0 8 1000 T237 L238 = true := by kernel_rfl
set_option maxRecDepth 1000000 in
theorem c239 : chkS Tryz.prog G0 8 1000 T238 L239 = true := by kernel_rfl
set_option maxRecDepth 1000000 in
theorem c240 : chkS Tryz.prog G0 8 1000 T239 L240 = true := by kernel_rfl
end Ev
end Go.Proofs.YtknabnfamnlgdabGreatDoor
