/- DifferKnown: a part of the lists holds: each call run by the kernel, by those before it. -/
import Derived.Test.YtknabnfamnlgdabGreatDoorDifd4
namespace Go.Proofs.YtknabnfamnlgdabGreatDoor
open Go.RowKit
namespace Ev
set_option maxHeartbeats 4000000
set_option maxRecDepth 1000000 in
theorem c97 : chkS Tryz.prog G0 8 1000 T96 L97 = true := by kernel_rfl
set_option maxRecDepth 1000000 in
theorem c98 : chkS Tryz.prog G0 8 1000 T97 L98 = true := by kernel_rfl
set_option maxRecDepth 1000000 in
theorem c99 : chkS Tryz.prog G0 8 1000 T98 L99 = true := by kernel_rfl
set_option maxRecDepth 1000000 in
theorem c100 : chkS Tryz.prog G0 8 1000 T99 L100 = true := by kernel_rfl
set_option maxRecDepth 1000000 in
theorem c101 : chkS Tryz.prog G0 8 1000 T100 L101 = true := by kernel_rfl
set_option maxRecDepth 1000000 in
theorem c102 : chkS Tryz.prog G0 8 1000 T101 L102 = true := by kernel_rfl
set_option maxRecDepth 1000000 in
theorem c103 : chkS Tryz.prog G0 8 1000 T102 L103 = true := by kernel_rfl
set_option maxRecDepth 1000000 in
theorem c104 : chkS Tryz.prog G0 8 1000 T103 L104 = true := by kernel_rfl
end Ev
end Go.Proofs.YtknabnfamnlgdabGreatDoor
