/- DifferKnown: a part of the lists holds: each call run by the kernel, by those before it. -/
import Derived.Test.YtknabnfamnlgdabGreatDoorDifd4
namespace Go.Proofs.YtknabnfamnlgdabGreatDoor
open Go.RowKit
namespace Ev
set_option maxHeartbeats 4000000
set_option maxRecDepth 1000000 in
theorem c105 : chkS Tryz.prog G0 8 1000 T104 L105 = true := by kernel_rfl
set_option maxRecDepth 1000000 in
theorem c106 : chkS Tryz.prog G0 8 1000 T105 L106 = true := by kernel_rfl
set_option maxRecDepth 1000000 in
theorem c107 : chkS Tryz.prog G0 8 1000 T106 L107 = true := by kernel_rfl
set_option maxRecDepth 1000000 in
theorem c108 : chkS Tryz.prog G0 8 1000 T107 L108 = true := by kernel_rfl
set_option maxRecDepth 1000000 in
theorem c109 : chkS Tryz.prog G0 8 1000 T108 L109 = true := by kernel_rfl
set_option maxRecDepth 1000000 in
theorem c110 : chkS Tryz.prog G0 8 1000 T109 L110 = true := by kernel_rfl
set_option maxRecDepth 1000000 in
theorem c111 : chkS Tryz.prog G0 8 1000 T110 L111 = true := by kernel_rfl
set_option maxRecDepth 1000000 in
theorem c112 : chkS Tryz.prog G0 8 1000 T111 L112 = true := by kernel_rfl
end Ev
end Go.Proofs.YtknabnfamnlgdabGreatDoor
