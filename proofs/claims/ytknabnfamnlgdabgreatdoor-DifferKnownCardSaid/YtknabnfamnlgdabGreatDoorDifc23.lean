/- DifferKnown: a part of the lists holds: each call run by the kernel, by those before it. -/
import Derived.Test.YtknabnfamnlgdabGreatDoorDifd4
namespace Go.Proofs.YtknabnfamnlgdabGreatDoor
open Go.RowKit
namespace Ev
set_option maxHeartbeats 4000000
set_option maxRecDepth 1000000 in
theorem c177 : chkS Tryz.prog G0 8 1000 T176 L177 = true := by kernel_rfl
set_option maxRecDepth 1000000 in
theorem c178 : chkS Tryz.prog G0 8 1000 T177 L178 = true := by kernel_rfl
set_option maxRecDepth 1000000 in
theorem c179 : chkS Tryz.prog G0 8 1000 T178 L179 = true := by kernel_rfl
set_option maxRecDepth 1000000 in
theorem c180 : chkS Tryz.prog G0 8 1000 T179 L180 = true := by kernel_rfl
set_option maxRecDepth 1000000 in
theorem c181 : chkS Tryz.prog G0 8 1000 T180 L181 = true := by kernel_rfl
set_option maxRecDepth 1000000 in
theorem c182 : chkS Tryz.prog G0 8 1000 T181 L182 = true := by kernel_rfl
set_option maxRecDepth 1000000 in
theorem c183 : chkS Tryz.prog G0 8 1000 T182 L183 = true := by kernel_rfl
set_option maxRecDepth 1000000 in
theorem c184 : chkS Tryz.prog G0 8 1000 T183 L184 = true := by kernel_rfl
end Ev
end Go.Proofs.YtknabnfamnlgdabGreatDoor
