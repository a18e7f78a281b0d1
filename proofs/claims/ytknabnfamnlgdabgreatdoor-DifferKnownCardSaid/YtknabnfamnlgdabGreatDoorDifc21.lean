/- DifferKnown: a part of the lists holds: each call run by the kernel, by those before it. -/
import Derived.Test.YtknabnfamnlgdabGreatDoorDifd4
namespace Go.Proofs.YtknabnfamnlgdabGreatDoor
open Go.RowKit
namespace Ev
set_option maxHeartbeats 4000000
set_option maxRecDepth 1000000 in
theorem c161 : chkS Tryz.prog G0 8 1000 T160 L161 = true := by kernel_rfl
set_option maxRecDepth 1000000 in
theorem c162 : chkS Tryz.prog G0 8 1000 T161 L162 = true := by kernel_rfl
set_option maxRecDepth 1000000 in
theorem c163 : chkS Tryz.prog G0 8 1000 T162 L163 = true := by kernel_rfl
set_option maxRecDepth 1000000 in
theorem c164 : chkS Tryz.prog G0 8 1000 T163 L164 = true := by kernel_rfl
set_option maxRecDepth 1000000 in
theorem c165 : chkS Tryz.prog G0 8 1000 T164 L165 = true := by kernel_rfl
set_option maxRecDepth 1000000 in
theorem c166 : chkS Tryz.prog G0 8 1000 T165 L166 = true := by kernel_rfl
set_option maxRecDepth 1000000 in
theorem c167 : chkS Tryz.prog G0 8 1000 T166 L167 = true := by kernel_rfl
set_option maxRecDepth 1000000 in
theorem c168 : chkS Tryz.prog G0 8 1000 T167 L168 = true := by kernel_rfl
end Ev
end Go.Proofs.YtknabnfamnlgdabGreatDoor
