/- DifferKnown: a part of the lists holds: each call run by the kernel, by those before it. -/
import Derived.Test.YtknabnfamnlgdabGreatDoorDifd4
namespace Go.Proofs.YtknabnfamnlgdabGreatDoor
open Go.RowKit
namespace Ev
set_option maxHeartbeats 4000000
set_option maxRecDepth 1000000 in
theorem c113 : chkS Tryz.prog G0 8 1000 T112 L113 = true := by kernel_rfl
set_option maxRecDepth 1000000 in
theorem c114 : chkS Tryz.prog G0 8 1000 T113 L114 = true := by kernel_rfl
set_option maxRecDepth 1000000 in
theorem c115 : chkS Tryz.prog G0 8 1000 T114 L115 = true := by kernel_rfl
set_option maxRecDepth 1000000 in
theorem c116 : chkS Tryz.prog G0 8 1000 T115 L116 = true := by kernel_rfl
set_option maxRecDepth 1000000 in
theorem c117 : chkS Tryz.prog G0 8 1000 T116 L117 = true := by kernel_rfl
set_option maxRecDepth 1000000 in
theorem c118 : chkS Tryz.prog G0 8 1000 T117 L118 = true := by kernel_rfl
set_option maxRecDepth 1000000 in
theorem c119 : chkS Tryz.prog G0 8 1000 T118 L119 = true := by kernel_rfl
set_option maxRecDepth 1000000 in
theorem c120 : chkS Tryz.prog G0 8 1000 T119 L120 = true := by kernel_rfl
end Ev
end Go.Proofs.YtknabnfamnlgdabGreatDoor
