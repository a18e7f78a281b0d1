/- BakeKnown: the call answers true in every world that has the tables, and leaves what was there. -/
import Derived.Test.YtcphjhciiakhnaaGreatDoorBakc1
import Derived.Test.YtcphjhciiakhnaaGreatDoorBakc2
import Derived.Test.YtcphjhciiakhnaaGreatDoorBakc3
import Derived.Test.YtcphjhciiakhnaaGreatDoorBakc4
import Derived.Test.YtcphjhciiakhnaaGreatDoorBakc5
import Derived.Test.YtcphjhciiakhnaaGreatDoorBakc6
import Derived.Test.YtcphjhciiakhnaaGreatDoorBakc7
import Derived.Test.YtcphjhciiakhnaaGreatDoorBakc8
import Derived.Test.YtcphjhciiakhnaaGreatDoorBakc9
import Derived.Test.YtcphjhciiakhnaaGreatDoorBakc10
import Derived.Test.YtcphjhciiakhnaaGreatDoorBakc11
import Derived.Test.YtcphjhciiakhnaaGreatDoorBakr
namespace Go.Proofs.YtcphjhciiakhnaaGreatDoor
open Go.RowKit
namespace Ev
set_option maxHeartbeats 4000000
theorem routines_all : (Tryz.prog.funcs.toList.all fun fn => !(fn.name == "runtime.NumGoroutine")) = true := by kernel_rfl
theorem routines : noRoutines Tryz.prog := fun f fn h => by
  have h1 := List.all_eq_true.1 routines_all fn (by rw [← Array.getElem?_toList] at h; exact List.mem_of_getElem? h)
  simpa using h1
theorem mixed : Tryz.prog.follows .mixedOrders = true := by kernel_rfl
theorem tables : glOk 5 G0 = true := by kernel_rfl
theorem t0 : TOk Tryz.prog G0 T0 := tok_nil _ _
theorem t1 : TOk Tryz.prog G0 T1 := chkS_tok routines tables mixed t0 c1
theorem t2 : TOk Tryz.prog G0 T2 := chkS_tok routines tables mixed t1 c2
theorem t3 : TOk Tryz.prog G0 T3 := chkS_tok routines tables mixed t2 c3
theorem t4 : TOk Tryz.prog G0 T4 := chkS_tok routines tables mixed t3 c4
theorem t5 : TOk Tryz.prog G0 T5 := chkS_tok routines tables mixed t4 c5
theorem t6 : TOk Tryz.prog G0 T6 := chkS_tok routines tables mixed t5 c6
theorem t7 : TOk Tryz.prog G0 T7 := chkS_tok routines tables mixed t6 c7
theorem t8 : TOk Tryz.prog G0 T8 := chkS_tok routines tables mixed t7 c8
theorem t9 : TOk Tryz.prog G0 T9 := chkS_tok routines tables mixed t8 c9
theorem t10 : TOk Tryz.prog G0 T10 := chkS_tok routines tables mixed t9 c10
theorem t11 : TOk Tryz.prog G0 T11 := chkS_tok routines tables mixed t10 c11
theorem t12 : TOk Tryz.prog G0 T12 := chkS_tok routines tables mixed t11 c12
theorem t13 : TOk Tryz.prog G0 T13 := chkS_tok routines tables mixed t12 c13
theorem t14 : TOk Tryz.prog G0 T14 := chkS_tok routines tables mixed t13 c14
theorem t15 : TOk Tryz.prog G0 T15 := chkS_tok routines tables mixed t14 c15
theorem t16 : TOk Tryz.prog G0 T16 := chkS_tok routines tables mixed t15 c16
theorem t17 : TOk Tryz.prog G0 T17 := chkS_tok routines tables mixed t16 c17
theorem t18 : TOk Tryz.prog G0 T18 := chkS_tok routines tables mixed t17 c18
theorem t19 : TOk Tryz.prog G0 T19 := chkS_tok routines tables mixed t18 c19
theorem t20 : TOk Tryz.prog G0 T20 := chkS_tok routines tables mixed t19 c20
theorem t21 : TOk Tryz.prog G0 T21 := chkS_tok routines tables mixed t20 c21
theorem t22 : TOk Tryz.prog G0 T22 := chkS_tok routines tables mixed t21 c22
theorem t23 : TOk Tryz.prog G0 T23 := chkS_tok routines tables mixed t22 c23
theorem t24 : TOk Tryz.prog G0 T24 := chkS_tok routines tables mixed t23 c24
theorem t25 : TOk Tryz.prog G0 T25 := chkS_tok routines tables mixed t24 c25
theorem t26 : TOk Tryz.prog G0 T26 := chkS_tok routines tables mixed t25 c26
theorem t27 : TOk Tryz.prog G0 T27 := chkS_tok routines tables mixed t26 c27
theorem t28 : TOk Tryz.prog G0 T28 := chkS_tok routines tables mixed t27 c28
theorem t29 : TOk Tryz.prog G0 T29 := chkS_tok routines tables mixed t28 c29
theorem t30 : TOk Tryz.prog G0 T30 := chkS_tok routines tables mixed t29 c30
theorem t31 : TOk Tryz.prog G0 T31 := chkS_tok routines tables mixed t30 c31
theorem t32 : TOk Tryz.prog G0 T32 := chkS_tok routines tables mixed t31 c32
theorem t33 : TOk Tryz.prog G0 T33 := chkS_tok routines tables mixed t32 c33
theorem t34 : TOk Tryz.prog G0 T34 := chkS_tok routines tables mixed t33 c34
theorem t35 : TOk Tryz.prog G0 T35 := chkS_tok routines tables mixed t34 c35
theorem t36 : TOk Tryz.prog G0 T36 := chkS_tok routines tables mixed t35 c36
theorem t37 : TOk Tryz.prog G0 T37 := chkS_tok routines tables mixed t36 c37
theorem t38 : TOk Tryz.prog G0 T38 := chkS_tok routines tables mixed t37 c38
theorem t39 : TOk Tryz.prog G0 T39 := chkS_tok routines tables mixed t38 c39
theorem t40 : TOk Tryz.prog G0 T40 := chkS_tok routines tables mixed t39 c40
theorem t41 : TOk Tryz.prog G0 T41 := chkS_tok routines tables mixed t40 c41
theorem t42 : TOk Tryz.prog G0 T42 := chkS_tok routines tables mixed t41 c42
theorem t43 : TOk Tryz.prog G0 T43 := chkS_tok routines tables mixed t42 c43
theorem t44 : TOk Tryz.prog G0 T44 := chkS_tok routines tables mixed t43 c44
theorem t45 : TOk Tryz.prog G0 T45 := chkS_tok routines tables mixed t44 c45
theorem t46 : TOk Tryz.prog G0 T46 := chkS_tok routines tables mixed t45 c46
theorem t47 : TOk Tryz.prog G0 T47 := chkS_tok routines tables mixed t46 c47
theorem t48 : TOk Tryz.prog G0 T48 := chkS_tok routines tables mixed t47 c48
theorem t49 : TOk Tryz.prog G0 T49 := chkS_tok routines tables mixed t48 c49
theorem t50 : TOk Tryz.prog G0 T50 := chkS_tok routines tables mixed t49 c50
theorem t51 : TOk Tryz.prog G0 T51 := chkS_tok routines tables mixed t50 c51
theorem t52 : TOk Tryz.prog G0 T52 := chkS_tok routines tables mixed t51 c52
theorem t53 : TOk Tryz.prog G0 T53 := chkS_tok routines tables mixed t52 c53
theorem t54 : TOk Tryz.prog G0 T54 := chkS_tok routines tables mixed t53 c54
theorem t55 : TOk Tryz.prog G0 T55 := chkS_tok routines tables mixed t54 c55
theorem t56 : TOk Tryz.prog G0 T56 := chkS_tok routines tables mixed t55 c56
theorem t57 : TOk Tryz.prog G0 T57 := chkS_tok routines tables mixed t56 c57
theorem t58 : TOk Tryz.prog G0 T58 := chkS_tok routines tables mixed t57 c58
theorem t59 : TOk Tryz.prog G0 T59 := chkS_tok routines tables mixed t58 c59
theorem t60 : TOk Tryz.prog G0 T60 := chkS_tok routines tables mixed t59 c60
theorem t61 : TOk Tryz.prog G0 T61 := chkS_tok routines tables mixed t60 c61
theorem t62 : TOk Tryz.prog G0 T62 := chkS_tok routines tables mixed t61 c62
theorem t63 : TOk Tryz.prog G0 T63 := chkS_tok routines tables mixed t62 c63
theorem t64 : TOk Tryz.prog G0 T64 := chkS_tok routines tables mixed t63 c64
theorem t65 : TOk Tryz.prog G0 T65 := chkS_tok routines tables mixed t64 c65
theorem known (w : World) (h : GL G0 w) : Calls Tryz.prog 3 #[] w fun e w' => e = .returned (.bool true) ∧ Below w.heap.size w w' := runA_sound routines tables t65 mixed runs rfl rfl w h
end Ev
end Go.Proofs.YtcphjhciiakhnaaGreatDoor
