/- DifferKnown: a part of the lists holds: each call run by the kernel, by those before it. -/
import Derived.Test.YtknabnfamnlgdabGreatDoorDifd4
namespace Go.Proofs.YtknabnfamnlgdabGreatDoor
open Go.RowKit
namespace Ev
set_option maxHeartbeats 4000000
set_option maxRecDepth 1000000 in
theorem c185 : chkS Tryz.prog G0 8 1000 T184 L185 = true := by kernel_rfl
set_option maxRecDepth 1000000 in
theorem c186 : chkS Tryz.prog G0 8 1000 T185 L186 = true := by kernel_rfl
set_option maxRecDepth 1000000 in
theorem c187 : chkS Tryz.prog G0 8 1000 T186 L187 = true := by kernel_rfl
set_option maxRecDepth 1000000 in
theorem c188 : chkS Tryz.prog G0 8 1000 T187 L188 = true := by kernel_rfl
set_option maxRecDepth 1000000 in
theorem c189 : chkS Tryz.prog G0 8 1000 T188 L189 = true := by kernel_rfl
set_option maxRecDepth 1000000 in
theorem c190 : chkS Tryz.prog G0 8 1000 T189 L190 = true := by kernel_rfl
set_option maxRecDepth 1000000 in
theorem c191 : chkS Tryz.prog G0 8 1000 T190 L191 = true := by kernel_rfl
set_option maxRecDepth 1000000 in
theorem c192 : chkS Tryz.prog G0 8 1000 T191 L192 = true := by kernel_rfl
end Ev
end Go.Proofs.YtknabnfamnlgdabGreatDoor
