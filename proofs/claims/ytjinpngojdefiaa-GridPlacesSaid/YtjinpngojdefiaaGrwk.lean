/- wakes: the call answers true in every world that has the tables, and leaves what was there. -/
import Derived.Test.YtjinpngojdefiaaGrwc1
import Derived.Test.YtjinpngojdefiaaGrwc2
import Derived.Test.YtjinpngojdefiaaGrwr
namespace Go.Proofs.Ytjinpngojdefiaa
open Go.RowKit
namespace Ev
set_option maxHeartbeats 4000000
theorem routines_all : (Try.prog.funcs.toList.all fun fn => !(fn.name == "runtime.NumGoroutine")) = true := by kernel_rfl
theorem routines : noRoutines Try.prog := fun f fn h => by
  have h1 := List.all_eq_true.1 routines_all fn (by rw [← Array.getElem?_toList] at h; exact List.mem_of_getElem? h)
  simpa using h1
theorem mixed : Try.prog.follows .mixedOrders = true := by kernel_rfl
theorem tables : glOk 0 G0 = true := by kernel_rfl
theorem t0 : TOk Try.prog G0 T0 := tok_nil _ _
theorem t1 : TOk Try.prog G0 T1 := chkS_tok routines tables mixed t0 c1
theorem t2 : TOk Try.prog G0 T2 := chkS_tok routines tables mixed t1 c2
theorem known (w : World) (h : GL G0 w) : Calls Try.prog 10 #[] w fun e w' => e = .returned (.bool true) ∧ Below w.heap.size w w' := runA_sound routines tables t2 mixed runs rfl rfl w h
end Ev
end Go.Proofs.Ytjinpngojdefiaa
