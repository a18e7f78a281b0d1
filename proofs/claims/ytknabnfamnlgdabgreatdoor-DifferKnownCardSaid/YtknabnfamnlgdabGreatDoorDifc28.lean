/- DifferKnown: a part of the lists holds: each call run by the kernel, by those before it. -/
import Derived.Test.YtknabnfamnlgdabGreatDoorDifd4
namespace Go.Proofs.YtknabnfamnlgdabGreatDoor
open Go.RowKit
namespace Ev
set_option maxHeartbeats 4000000
set_option maxRecDepth 1000000 in
theorem c217 : chkS Tryz.prog G0 8 1000 T216 L217 = true := by kernel_rfl
set_option maxRecDepth 1000000 in
theorem c218 : chkS Tryz.prog G0 8 1000 T217 L218 = true := by kernel_rfl
set_option maxRecDepth 1000000 in
theorem c219 : chkS Tryz.prog G0 8 1000 T218 L219 = true := by kernel_rfl
set_option maxRecDepth 1000000 in
theorem c220 : chkS Tryz.prog G0 8 1000 T219 L220 = true := by kernel_rfl
set_option maxRecDepth 1000000 in
theorem c221 : chkS Tryz.prog G0 8 1000 T220 L221 = true := by kernel_rfl
set_option maxRecDepth 1000000 in
theorem c222 : chkS Tryz.prog G0 8 1000 T221 L222 = true := by kernel_rfl
set_option maxRecDepth 1000000 in
theorem c223 : chkS Tryz.prog G0 8 1000 T222 L223 = true := by kernel_rfl
set_option maxRecDepth 1000000 in
theorem c224 : chkS Tryz.prog G0 8 1000 T223 L224 = true := by kernel_rfl
end Ev
end Go.Proofs.YtknabnfamnlgdabGreatDoor
