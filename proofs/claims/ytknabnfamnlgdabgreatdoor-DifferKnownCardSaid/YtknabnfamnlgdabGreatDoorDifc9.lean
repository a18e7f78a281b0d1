/- DifferKnown: a part of the lists holds: each call run by the kernel, by those before it. -/
import Derived.Test.YtknabnfamnlgdabGreatDoorDifd4
namespace Go.Proofs.YtknabnfamnlgdabGreatDoor
open Go.RowKit
namespace Ev
set_option maxHeartbeats 4000000
set_option maxRecDepth 1000000 in
theorem c65 : chkS Tryz.prog G0 8 1000 T64 L65 = true := by kernel_rfl
set_option maxRecDepth 1000000 in
theorem c66 : chkS Tryz.prog G0 8 1000 T65 L66 = true := by kernel_rfl
set_option maxRecDepth 1000000 in
theorem c67 : chkS Tryz.prog G0 8 1000 T66 L67 = true := by kernel_rfl
set_option maxRecDepth 1000000 in
theorem c68 : chkS Tryz.prog G0 8 1000 T67 L68 = true := by kernel_rfl
set_option maxRecDepth 1000000 in
theorem c69 : chkS Tryz.prog G0 8 1000 T68 L69 = true := by kernel_rfl
set_option maxRecDepth 1000000 in
theorem c70 : chkS Tryz.prog G0 8 1000 T69 L70 = true := by kernel_rfl
set_option maxRecDepth 1000000 in
theorem c71 : chkS Tryz.prog G0 8 1000 T70 L71 = true := by kernel_rfl
set_option maxRecDepth 1000000 in
theorem c72 : chkS Tryz.prog G0 8 1000 T71 L72 = true := by kernel_rfl
end Ev
end Go.Proofs.YtknabnfamnlgdabGreatDoor
