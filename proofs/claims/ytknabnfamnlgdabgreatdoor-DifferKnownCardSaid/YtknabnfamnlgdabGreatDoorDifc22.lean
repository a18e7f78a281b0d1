/- DifferKnown: a part of the lists holds: each call run by the kernel, by those before it. -/
import Derived.Test.YtknabnfamnlgdabGreatDoorDifd4
namespace Go.Proofs.YtknabnfamnlgdabGreatDoor
open Go.RowKit
namespace Ev
set_option maxHeartbeats 4000000
set_option maxRecDepth 1000000 in
theorem c169 : chkS Tryz.prog G0 8 1000 T168 L169 = true := by kernel_rfl
set_option maxRecDepth 1000000 in
theorem c170 : chkS Tryz.prog G0 8 1000 T169 L170 = true := by kernel_rfl
set_option maxRecDepth 1000000 in
theorem c171 : chkS Tryz.prog G0 8 1000 T170 L171 = true := by kernel_rfl
set_option maxRecDepth 1000000 in
theorem c172 : chkS Tryz.prog G0 8 1000 T171 L172 = true := by kernel_rfl
set_option maxRecDepth 1000000 in
theorem c173 : chkS Tryz.prog G0 8 1000 T172 L173 = true := by kernel_rfl
set_option maxRecDepth 1000000 in
theorem c174 : chkS Tryz.prog G0 8 1000 T173 L174 = true := by kernel_rfl
set_option maxRecDepth 1000000 in
theorem c175 : chkS Tryz.prog G0 8 1000 T174 L175 = true := by kernel_rfl
set_option maxRecDepth 1000000 in
theorem c176 : chkS Tryz.prog G0 8 1000 T175 L176 = true := by kernel_rfl
end Ev
end Go.Proofs.YtknabnfamnlgdabGreatDoor
