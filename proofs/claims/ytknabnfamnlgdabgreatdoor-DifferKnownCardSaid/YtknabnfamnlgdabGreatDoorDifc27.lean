/- DifferKnown: a part of the lists holds: each call run by the kernel, by those before it. -/
import Derived.Test.YtknabnfamnlgdabGreatDoorDifd4
namespace Go.Proofs.YtknabnfamnlgdabGreatDoor
open Go.RowKit
namespace Ev
set_option maxHeartbeats 4000000
set_option maxRecDepth 1000000 in
theorem c209 : chkS Tryz.prog G0 8 1000 T208 L209 = true := by kernel_rfl
set_option maxRecDepth 1000000 in
theorem c210 : chkS Tryz.prog G0 8 1000 T209 L210 = true := by kernel_rfl
set_option maxRecDepth 1000000 in
theorem c211 : chkS Tryz.prog G0 8 1000 T210 L211 = true := by kernel_rfl
set_option maxRecDepth 1000000 in
theorem c212 : chkS Tryz.prog G0 8 1000 T211 L212 = true := by kernel_rfl
set_option maxRecDepth 1000000 in
theorem c213 : chkS Tryz.prog G0 8 1000 T212 L213 = true := by kernel_rfl
set_option maxRecDepth 1000000 in
theorem c214 : chkS Tryz.prog G0 8 1000 T213 L214 = true := by kernel_rfl
set_option maxRecDepth 1000000 in
theorem c215 : chkS Tryz.prog G0 8 1000 T214 L215 = true := by kernel_rfl
set_option maxRecDepth 1000000 in
theorem c216 : chkS Tryz.prog G0 8 1000 T215 L216 = true := by kernel_rfl
end Ev
end Go.Proofs.YtknabnfamnlgdabGreatDoor
