/- DifferKnown: a part of the lists holds: each call run by the kernel, by those before it. -/
import Derived.Test.YtknabnfamnlgdabGreatDoorDifd4
namespace Go.Proofs.YtknabnfamnlgdabGreatDoor
open Go.RowKit
namespace Ev
set_option maxHeartbeats 4000000
set_option maxRecDepth 1000000 in
theorem c89 : chkS Tryz.prog G0 8 1000 T88 L89 = true := by kernel_rfl
set_option maxRecDepth 1000000 in
theorem c90 : chkS Tryz.prog G0 8 1000 T89 L90 = true := by kernel_rfl
set_option maxRecDepth 1000000 in
theorem c91 : chkS Tryz.prog G0 8 1000 T90 L91 = true := by kernel_rfl
set_option maxRecDepth 1000000 in
theorem c92 : chkS Tryz.prog G0 8 1000 T91 L92 = true := by kernel_rfl
set_option maxRecDepth 1000000 in
theorem c93 : chkS Tryz.prog G0 8 1000 T92 L93 = true := by kernel_rfl
set_option maxRecDepth 1000000 in
theorem c94 : chkS Tryz.prog G0 8 1000 T93 L94 = true := by kernel_rfl
set_option maxRecDepth 1000000 in
theorem c95 : chkS Tryz.prog G0 8 1000 T94 L95 = true := by kernel_rfl
set_option maxRecDepth 1000000 in
theorem c96 : chkS Tryz.prog G0 8 1000 T95 L96 = true := by kernel_rfl
end Ev
end Go.Proofs.YtknabnfamnlgdabGreatDoor
