/- InkKnown: more of the closed calls that it makes. -/
import Derived.Test.YtcgkjpmaiglcmabGreatDoorInk6
namespace Go.Proofs.YtcgkjpmaiglcmabGreatDoor
open Go.RowKit
namespace Ev
def L25 : Tab := [(21, [(.agg ⟨[(.int .i64 (.ofNat 2)), (.int .i64 (.ofNat 1)), (.int .i64 (.ofNat 6)), (.int .i64 (.ofNat 1))]⟩), (.int .i64 (.ofNat 40000))], (.agg ⟨[(.int .i64 (.ofNat 2)), (.int .i64 (.ofNat 1)), (.int .i64 (.ofNat 6)), (.int .i64 (.ofNat 1))]⟩)),
  (20, [(.int .i64 (.ofNat 0)), (.int .i64 (.ofNat 40000)), (.func (.func 21) ⟨[(.agg ⟨[(.int .i64 (.ofNat 2)), (.int .i64 (.ofNat 1)), (.int .i64 (.ofNat 6)), (.int .i64 (.ofNat 1))]⟩)]⟩ ⟨[]⟩)], (.tuple ⟨[(.agg ⟨[(.int .i64 (.ofNat 2)), (.int .i64 (.ofNat 1)), (.int .i64 (.ofNat 6)), (.int .i64 (.ofNat 1))]⟩), (.int .i64 (.ofNat 0))]⟩)),
  (16, [(.agg ⟨[(.int .i64 (.ofNat 0)), (.int .i64 (.ofNat 0)), (.int .i64 (.ofNat 0)), (.int .i64 (.ofNat 10001))]⟩), (.int .i64 (.ofNat 10000))], (.bool false)),
  (12, [(.agg ⟨[(.int .i64 (.ofNat 0)), (.int .i64 (.ofNat 0)), (.int .i64 (.ofNat 0)), (.int .i64 (.ofNat 10001))]⟩), (.int .i64 (.ofNat 5))], (.tuple ⟨[(.agg ⟨[(.int .i64 (.ofNat 0)), (.int .i64 (.ofNat 0)), (.int .i64 (.ofNat 0)), (.int .i64 (.ofNat 0))]⟩), (.int .i64 (.ofNat 2))]⟩)),
  (16, [(.agg ⟨[(.int .i64 (.ofNat 0)), (.int .i64 (.ofNat 0)), (.int .i64 (.ofNat 0)), (.int .i64 (.ofNat 10000))]⟩), (.int .i64 (.ofNat 10000))], (.bool true)),
  (12, [(.agg ⟨[(.int .i64 (.ofNat 0)), (.int .i64 (.ofNat 0)), (.int .i64 (.ofNat 0)), (.int .i64 (.ofNat 10000))]⟩), (.int .i64 (.ofNat 40001))], (.tuple ⟨[(.agg ⟨[(.int .i64 (.ofNat 0)), (.int .i64 (.ofNat 0)), (.int .i64 (.ofNat 0)), (.int .i64 (.ofNat 0))]⟩), (.int .i64 (.ofNat 390))]⟩)),
  (16, [(.agg ⟨[(.int .i64 (.ofNat 10000)), (.int .i64 (.ofNat 0)), (.int .i64 (.ofNat 0)), (.int .i64 (.ofNat 10000))]⟩), (.int .i64 (.ofNat 10000))], (.bool true)),
  (21, [(.agg ⟨[(.int .i64 (.ofNat 10000)), (.int .i64 (.ofNat 0)), (.int .i64 (.ofNat 0)), (.int .i64 (.ofNat 10000))]⟩), (.int .i64 (.ofNat 10000))], (.agg ⟨[(.int .i64 (.ofNat 0)), (.int .i64 (.ofNat 0)), (.int .i64 (.ofNat 0)), (.int .i64 (.ofNat 10000))]⟩)),
  (20, [(.int .i64 (.ofNat 0)), (.int .i64 (.ofNat 10000)), (.func (.func 21) ⟨[(.agg ⟨[(.int .i64 (.ofNat 10000)), (.int .i64 (.ofNat 0)), (.int .i64 (.ofNat 0)), (.int .i64 (.ofNat 10000))]⟩)]⟩ ⟨[]⟩)], (.tuple ⟨[(.agg ⟨[(.int .i64 (.ofNat 0)), (.int .i64 (.ofNat 0)), (.int .i64 (.ofNat 0)), (.int .i64 (.ofNat 10000))]⟩), (.int .i64 (.ofNat 0))]⟩)),
  (12, [(.agg ⟨[(.int .i64 (.ofNat 10000)), (.int .i64 (.ofNat 0)), (.int .i64 (.ofNat 0)), (.int .i64 (.ofNat 10000))]⟩), (.int .i64 (.ofNat 10000))], (.tuple ⟨[(.agg ⟨[(.int .i64 (.ofNat 0)), (.int .i64 (.ofNat 0)), (.int .i64 (.ofNat 0)), (.int .i64 (.ofNat 10000))]⟩), (.int .i64 (.ofNat 0))]⟩))]
set_option maxRecDepth 1000000 in
theorem c25 : chkS Tryz.prog G0 5 1000 T24 L25 = true := by kernel_rfl
def T25 : Tab := pushT T24 L25
theorem t25 : TOk Tryz.prog G0 T25 := chkS_tok routines tables mixed t24 c25
set_option maxRecDepth 1000000 in
theorem runs : runA Tryz.prog G0 5 T25 1000 3 [] = some (.bool true) := by kernel_rfl
theorem known (w : World) (h : GL G0 w) : Calls Tryz.prog 3 #[] w fun e w' => e = .returned (.bool true) ∧ Below w.heap.size w w' := runA_sound routines tables t25 mixed runs rfl rfl w h
end Ev
end Go.Proofs.YtcgkjpmaiglcmabGreatDoor
