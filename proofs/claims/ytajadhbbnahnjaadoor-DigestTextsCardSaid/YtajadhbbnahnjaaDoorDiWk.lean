/- works: the call answers true in every world that has the tables, and leaves what was there. -/
import Derived.Test.YtajadhbbnahnjaaDoorDiWc1
import Derived.Test.YtajadhbbnahnjaaDoorDiWc2
import Derived.Test.YtajadhbbnahnjaaDoorDiWr
import Derived.Test.YtajadhbbnahnjaaDoorLibClone
namespace Go.Proofs.YtajadhbbnahnjaaDoor
open Go.RowKit
namespace Ev
set_option maxHeartbeats 4000000
theorem routines_all : (Tryd.prog.funcs.toList.all fun fn => !(fn.name == "runtime.NumGoroutine")) = true := by kernel_rfl
theorem routines : noRoutines Tryd.prog := fun f fn h => by
  have h1 := List.all_eq_true.1 routines_all fn (by rw [← Array.getElem?_toList] at h; exact List.mem_of_getElem? h)
  simpa using h1
theorem mixed : Tryd.prog.follows .mixedOrders = true := by kernel_rfl
theorem tables : glOk 2 G0 = true := by kernel_rfl
theorem t0 : TOk Tryd.prog G0 T0 := tok_k (lib_internal_stringslite_Clone [97, 98] (by decide)) (tok_k (lib_internal_stringslite_Clone [109, 101, 115, 115, 97, 103, 101, 32, 100, 105, 103, 101, 115, 116] (by decide)) (tok_k (lib_internal_stringslite_Clone [97, 98, 99] (by decide)) (tok_k (lib_internal_stringslite_Clone [97] (by decide)) (tok_k (lib_internal_stringslite_Clone [] (by decide)) (tok_nil _ _)))))
theorem t1 : TOk Tryd.prog G0 T1 := chkS_tok routines tables mixed t0 c1
theorem t2 : TOk Tryd.prog G0 T2 := chkS_tok routines tables mixed t1 c2
theorem t3 : TOk Tryd.prog G0 T3 := chkS_tok routines tables mixed t2 c3
theorem t4 : TOk Tryd.prog G0 T4 := chkS_tok routines tables mixed t3 c4
theorem t5 : TOk Tryd.prog G0 T5 := chkS_tok routines tables mixed t4 c5
theorem t6 : TOk Tryd.prog G0 T6 := chkS_tok routines tables mixed t5 c6
theorem t7 : TOk Tryd.prog G0 T7 := chkS_tok routines tables mixed t6 c7
theorem t8 : TOk Tryd.prog G0 T8 := chkS_tok routines tables mixed t7 c8
theorem t9 : TOk Tryd.prog G0 T9 := chkS_tok routines tables mixed t8 c9
theorem known (w : World) (h : GL G0 w) : Calls Tryd.prog 5 #[] w fun e w' => e = .returned (.bool true) ∧ Below w.heap.size w w' := runA_sound routines tables t9 mixed runs rfl rfl w h
end Ev
end Go.Proofs.YtajadhbbnahnjaaDoor
