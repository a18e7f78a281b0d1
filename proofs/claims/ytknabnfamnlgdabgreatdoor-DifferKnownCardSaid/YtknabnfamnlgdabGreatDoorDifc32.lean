/- DifferKnown: a part of the lists holds: each call run by the kernel, by those before it. -/
import Derived.Test.YtknabnfamnlgdabGreatDoorDifd4
namespace Go.Proofs.YtknabnfamnlgdabGreatDoor
open Go.RowKit
namespace Ev
set_option maxHeartbeats 4000000
set_option maxRecDepth 1000000 in
theorem c249 : chkS Tryz.prog G0 8 1000 T248 L249 = true := by kernel_rfl
set_option maxRecDepth 1000000 in
theorem c250 : chkS Tryz.prog G0 8 1000 T249 L250 = true := by kernel_rfl
set_option maxRecDepth 1000000 in
theorem c251 : chkS Tryz.prog G0 8 1000 T250 L251 = true := by kernel_rfl
set_option maxRecDepth 1000000 in
theorem c252 : chkS Tryz.prog G0 8 1000 T251 L252 = true := by kernel_rfl
set_option maxRecDepth 1000000 in
theorem c253 : chkS Tryz.prog G0 8 1000 T252 L253 = true := by kernel_rfl
set_option maxRecDepth 1000000 in
theorem c254 : chkS Tryz.prog G0 8 1000 T253 L254 = true := by kernel_rfl
set_option maxRecDepth 1000000 in
theorem c255 : chkS Tryz.prog G0 8 1000 T254 L255 = true := by kernel_rfl
set_option maxRecDepth 1000000 in
theorem c256 : chkS Tryz.prog G0 8 1000 T255 L256 = true := by kernel_rfl
end Ev
end Go.Proofs.YtknabnfamnlgdabGreatDoor
