/- DifferKnown: a part of the lists holds: each call run by the kernel, by those before it. -/
import Derived.Test.YtknabnfamnlgdabGreatDoorDifd4
namespace Go.Proofs.YtknabnfamnlgdabGreatDoor
open Go.RowKit
namespace Ev
set_option maxHeartbeats 4000000
set_option maxRecDepth 1000000 in
theorem c81 : chkS Tryz.prog G0 8 1000 T80 L81 = true := by kernel_rfl
set_option maxRecDepth 1000000 in
theorem c82 : chkS Tryz.prog G0 8 1000 T81 L82 = true := by kernel_rfl
set_option maxRecDepth 1000000 in
theorem c83 : chkS Tryz.prog G0 8 1000 T82 L83 = true := by kernel_rfl
set_option maxRecDepth 1000000 in
theorem c84 : chkS Tryz.prog G0 8 1000 T83 L84 = true := by kernel_rfl
set_option maxRecDepth 1000000 in
theorem c85 : chkS Tryz.prog G0 8 1000 T84 L85 = true := by kernel_rfl
set_option maxRecDepth 1000000 in
theorem c86 : chkS Tryz.prog G0 8 1000 T85 L86 = true := by kernel_rfl
set_option maxRecDepth 1000000 in
theorem c87 : chkS Tryz.prog G0 8 1000 T86 L87 = true := by kernel_rfl
set_option maxRecDepth 1000000 in
theorem c88 : chkS Tryz.prog G0 8 1000 T87 L88 = true := by kernel_rfl
end Ev
end Go.Proofs.YtknabnfamnlgdabGreatDoor
