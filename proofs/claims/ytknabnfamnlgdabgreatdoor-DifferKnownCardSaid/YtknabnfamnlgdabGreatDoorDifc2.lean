/- DifferKnown: a part of the lists holds: each call run by the kernel, by those before it. -/
import Derived.Test.YtknabnfamnlgdabGreatDoorDifd4
namespace Go.Proofs.YtknabnfamnlgdabGreatDoor
open Go.RowKit
namespace Ev
set_option maxHeartbeats 4000000
set_option maxRecDepth 1000000 in
theorem c9 : chkS Tryz.prog G0 8 1000 T8 L9 = true := by kernel_rfl
set_option maxRecDepth 1000000 in
theorem c10 : chkS Tryz.prog G0 8 1000 T9 L10 = true := by kernel_rfl
set_option maxRecDepth 1000000 in
theorem c11 : chkS Tryz.prog G0 8 1000 T10 L11 = true := by kernel_rfl
set_option maxRecDepth 1000000 in
theorem c12 : chkS Tryz.prog G0 8 1000 T11 L12 = true := by kernel_rfl
set_option maxRecDepth 1000000 in
theorem c13 : chkS Tryz.prog G0 8 1000 T12 L13 = true := by kernel_rfl
set_option maxRecDepth 1000000 in
theorem c14 : chkS Tryz.prog G0 8 1000 T13 L14 = true := by kernel_rfl
set_option maxRecDepth 1000000 in
theorem c15 : chkS Tryz.prog G0 8 1000 T14 L15 = true := by kernel_rfl
set_option maxRecDepth 1000000 in
theorem c16 : chkS Tryz.prog G0 8 1000 T15 L16 = true := by kernel_rfl
end Ev
end Go.Proofs.YtknabnfamnlgdabGreatDoor
