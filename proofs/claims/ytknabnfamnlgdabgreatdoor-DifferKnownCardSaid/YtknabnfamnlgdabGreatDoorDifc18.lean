/- DifferKnown: a part of the lists holds: each call run by the kernel, by those before it. -/
import Derived.Test.YtknabnfamnlgdabGreatDoorDifd4
namespace Go.Proofs.YtknabnfamnlgdabGreatDoor
open Go.RowKit
namespace Ev
set_option maxHeartbeats 4000000
set_option maxRecDepth 1000000 in
theorem c137 : chkS Tryz.prog G0 8 1000 T136 L137 = true := by kernel_rfl
set_option maxRecDepth 1000000 in
theorem c138 : chkS Tryz.prog G0 8 1000 T137 L138 = true := by kernel_rfl
set_option maxRecDepth 1000000 in
theorem c139 : chkS Tryz.prog G0 8 1000 T138 L139 = true := by kernel_rfl
set_option maxRecDepth 1000000 in
theorem c140 : chkS Tryz.prog G0 8 1000 T139 L140 = true := by kernel_rfl
set_option maxRecDepth 1000000 in
theorem c141 : chkS Tryz.prog G0 8 1000 T140 L141 = true := by kernel_rfl
set_option maxRecDepth 1000000 in
theorem c142 : chkS Tryz.prog G0 8 1000 T141 L142 = true := by kernel_rfl
set_option maxRecDepth 1000000 in
theorem c143 : chkS Tryz.prog G0 8 1000 T142 L143 = true := by kernel_rfl
set_option maxRecDepth 1000000 in
theorem c144 : chkS Tryz.prog G0 8 1000 T143 L144 = true := by kernel_rfl
end Ev
end Go.Proofs.YtknabnfamnlgdabGreatDoor
