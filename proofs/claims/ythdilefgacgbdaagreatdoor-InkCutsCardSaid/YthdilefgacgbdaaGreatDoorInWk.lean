/- works: the call answers true in every world that has the tables, and leaves what was there. -/
import Derived.Test.YthdilefgacgbdaaGreatDoorInWc1
import Derived.Test.YthdilefgacgbdaaGreatDoorInWc2
import Derived.Test.YthdilefgacgbdaaGreatDoorInWc3
import Derived.Test.YthdilefgacgbdaaGreatDoorInWr
namespace Go.Proofs.YthdilefgacgbdaaGreatDoor
open Go.RowKit
namespace Ev
set_option maxHeartbeats 4000000
theorem routines_all : (Tryz.prog.funcs.toList.all fun fn => !(fn.name == "runtime.NumGoroutine")) = true := by kernel_rfl
theorem routines : noRoutines Tryz.prog := fun f fn h => by
  have h1 := List.all_eq_true.1 routines_all fn (by rw [← Array.getElem?_toList] at h; exact List.mem_of_getElem? h)
  simpa using h1
theorem mixed : Tryz.prog.follows .mixedOrders = true := by kernel_rfl
theorem tables : glOk 5 G0 = true := by kernel_rfl
theorem t0 : TOk Tryz.prog G0 T0 := tok_nil _ _
theorem t1 : TOk Tryz.prog G0 T1 := chkS_tok routines tables mixed t0 c1
theorem t2 : TOk Tryz.prog G0 T2 := chkS_tok routines tables mixed t1 c2
theorem t3 : TOk Tryz.prog G0 T3 := chkS_tok routines tables mixed t2 c3
theorem known (w : World) (h : GL G0 w) : Calls Tryz.prog 6 #[] w fun e w' => e = .returned (.bool true) ∧ Below w.heap.size w w' := runA_sound routines tables t3 mixed runs rfl rfl w h
end Ev
end Go.Proofs.YthdilefgacgbdaaGreatDoor
