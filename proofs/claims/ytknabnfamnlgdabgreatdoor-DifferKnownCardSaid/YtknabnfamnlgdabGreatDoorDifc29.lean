/- DifferKnown: a part of the lists holds: each call run by the kernel, by those before it. -/
import Derived.Test.YtknabnfamnlgdabGreatDoorDifd4
namespace Go.Proofs.YtknabnfamnlgdabGreatDoor
open Go.RowKit
namespace Ev
set_option maxHeartbeats 4000000
set_option maxRecDepth 1000000 in
theorem c225 : chkS Tryz.prog G0 8 1000 T224 L225 = true := by kernel_rfl
set_option maxRecDepth 1000000 in
theorem c226 : chkS Tryz.prog G0 8 1000 T225 L226 = true := by kernel_rfl
set_option maxRecDepth 1000000 in
theorem c227 : chkS Tryz.prog G0 8 1000 T226 L227 = true := by kernel_rfl
set_option maxRecDepth 1000000 in
theorem c228 : chkS Tryz.prog G0 8 1000 T227 L228 = true := by kernel_rfl
set_option maxRecDepth 1000000 in
theorem c229 : chkS Tryz.prog G0 8 1000 T228 L229 = true := by kernel_rfl
set_option maxRecDepth 1000000 in
theorem c230 : chkS Tryz.prog G0 8 1000 T229 L230 = true := by kernel_rfl
set_option maxRecDepth 1000000 in
theorem c231 : chkS Tryz.prog G0 8 1000 T230 L231 = true := by kernel_rfl
set_option maxRecDepth 1000000 in
theorem c232 : chkS Tryz.prog G0 8 1000 T231 L232 = true := by kernel_rfl
end Ev
end Go.Proofs.YtknabnfamnlgdabGreatDoor
