/- DifferKnown: a part of the lists holds: each call run by the kernel, by those before it. -/
import Derived.Test.YtknabnfamnlgdabGreatDoorDifd4
namespace Go.Proofs.YtknabnfamnlgdabGreatDoor
open Go.RowKit
namespace Ev
set_option maxHeartbeats 4000000
set_option maxRecDepth 1000000 in
theorem c193 : chkS Tryz.prog G0 8 1000 T192 L193 = true := by kernel_rfl
set_option maxRecDepth 1000000 in
theorem c194 : chkS Tryz.prog G0 8 1000 T193 L194 = true := by kernel_rfl
set_option maxRecDepth 1000000 in
theorem c195 : chkS Tryz.prog G0 8 1000 T194 L195 = true := by kernel_rfl
set_option maxRecDepth 1000000 in
theorem c196 : chkS Tryz.prog G0 8 1000 T195 L196 = true := by kernel_rfl
set_option maxRecDepth 1000000 in
theorem c197 : chkS Tryz.prog G0 8 1000 T196 L197 = true := by kernel_rfl
set_option maxRecDepth 1000000 in
theorem c198 : chkS Tryz.prog G0 8 1000 T197 L198 = true := by kernel_rfl
set_option maxRecDepth 1000000 in
theorem c199 : chkS Tryz.prog G0 8 1000 T198 L199 = true := by kernel_rfl
set_option maxRecDepth 1000000 in
theorem c200 : chkS Tryz.prog G0 8 1000 T199 L200 = true := by kernel_rfl
end Ev
end Go.Proofs.YtknabnfamnlgdabGreatDoor
