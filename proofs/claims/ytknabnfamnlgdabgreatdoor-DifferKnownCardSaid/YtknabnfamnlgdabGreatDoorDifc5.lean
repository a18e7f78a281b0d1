/- DifferKnown: a part of the lists holds: each call run by the kernel, by those before it. -/
import Derived.Test.YtknabnfamnlgdabGreatDoorDifd4
namespace Go.Proofs.YtknabnfamnlgdabGreatDoor
open Go.RowKit
namespace Ev
set_option maxHeartbeats 4000000
set_option maxRecDepth 1000000 in
theorem c33 : chkS Tryz.prog G0 8 1000 T32 L33 = true := by kernel_rfl
set_option maxRecDepth 1000000 in
theorem c34 : chkS Tryz.prog G0 8 1000 T33 L34 = true := by kernel_rfl
set_option maxRecDepth 1000000 in
theorem c35 : chkS Tryz.prog G0 8 1000 T34 L35 = true := by kernel_rfl
set_option maxRecDepth 1000000 in
theorem c36 : chkS Tryz.prog G0 8 1000 T35 L36 = true := by kernel_rfl
set_option maxRecDepth 1000000 in
theorem c37 : chkS Tryz.prog G0 8 1000 T36 L37 = true := by kernel_rfl
set_option maxRecDepth 1000000 in
theorem c38 : chkS Tryz.prog G0 8 1000 T37 L38 = true := by kernel_rfl
set_option maxRecDepth 1000000 in
theorem c39 : chkS Tryz.prog G0 8 1000 T38 L39 = true := by kernel_rfl
set_option maxRecDepth 1000000 in
theorem c40 : chkS Tryz.prog G0 8 1000 T39 L40 = true := by kernel_rfl
end Ev
end Go.Proofs.YtknabnfamnlgdabGreatDoor
