/- DifferKnown: a part of the lists holds: each call run by the kernel, by those before it. -/
import Derived.Test.YtknabnfamnlgdabGreatDoorDifd4
namespace Go.Proofs.YtknabnfamnlgdabGreatDoor
open Go.RowKit
namespace Ev
set_option maxHeartbeats 4000000
set_option maxRecDepth 1000000 in
theorem c73 : chkS Tryz.prog G0 8 1000 T72 L73 = true := by kernel_rfl
set_option maxRecDepth 1000000 in
theorem c74 : chkS Tryz.prog G0 8 1000 T73 L74 = true := by kernel_rfl
set_option maxRecDepth 1000000 in
theorem c75 : chkS Tryz.prog G0 8 1000 T74 L75 = true := by kernel_rfl
set_option maxRecDepth 1000000 in
theorem c76 : chkS Tryz.prog G0 8 1000 T75 L76 = true := by kernel_rfl
set_option maxRecDepth 1000000 in
theorem c77 : chkS Tryz.prog G0 8 1000 T76 L77 = true := by kernel_rfl
set_option maxRecDepth 1000000 in
theorem c78 : chkS Tryz.prog G0 8 1000 T77 L78 = true := by kernel_rfl
set_option maxRecDepth 1000000 in
theorem c79 : chkS Tryz.prog G0 8 1000 T78 L79 = true := by kernel_rfl
set_option maxRecDepth 1000000 in
theorem c80 : chkS Tryz.prog G0 8 1000 T79 L80 = true := by kernel_rfl
end Ev
end Go.Proofs.YtknabnfamnlgdabGreatDoor
