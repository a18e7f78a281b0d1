/- InkKnown: more of the closed calls that it makes. -/
import Derived.Test.YtcgkjpmaiglcmabGreatDoorInk1
namespace Go.Proofs.YtcgkjpmaiglcmabGreatDoor
namespace Ev
def L5 : Tab := [(80, [(.int .i64 (.ofNat 1)), (.int .i64 (.ofNat 20000))], (.tuple ⟨[(.int .i64 (.ofNat 20000)), (.bool true)]⟩)),
  (48, [(.agg ⟨[(.int .i64 (.ofNat 1)), (.int .i64 (.ofNat 2))]⟩), (.int .i64 (.ofNat 10000))], (.tuple ⟨[(.int .i64 (.ofNat 5000)), (.bool true)]⟩)),
  (33, [(.agg ⟨[(S [49]), (S [50])]⟩), (.int .i64 (.ofNat 10000))], (.tuple ⟨[(.int .i64 (.ofNat 5000)), (.int .i64 (.ofNat 0))]⟩)),
  (26, [(.agg ⟨[(.int .i64 (.ofNat 1)), (.slice none 0 0), (.slice none 0 0)]⟩), (.int .i64 (.ofNat 5000))], (.tuple ⟨[(.int .i64 (.ofNat 5000)), (.int .i64 (.ofNat 0))]⟩))]
set_option maxRecDepth 1000000 in
theorem c5 : chkS Tryz.prog G0 5 1000 T4 L5 = true := by kernel_rfl
def T5 : Tab := pushT T4 L5
theorem t5 : TOk Tryz.prog G0 T5 := chkS_tok routines tables mixed t4 c5
def L6 : Tab := [(21, [(.agg ⟨[(.int .i64 (.ofNat 0)), (.int .i64 (.ofNat 1000)), (.int .i64 (.ofNat 2000)), (.int .i64 (.ofNat 5000))]⟩), (.int .i64 (.ofNat 10000))], (.agg ⟨[(.int .i64 (.ofNat 0)), (.int .i64 (.ofNat 1000)), (.int .i64 (.ofNat 2000)), (.int .i64 (.ofNat 5000))]⟩)),
  (20, [(.int .i64 (.ofNat 0)), (.int .i64 (.ofNat 10000)), (.func (.func 21) ⟨[(.agg ⟨[(.int .i64 (.ofNat 0)), (.int .i64 (.ofNat 1000)), (.int .i64 (.ofNat 2000)), (.int .i64 (.ofNat 5000))]⟩)]⟩ ⟨[]⟩)], (.tuple ⟨[(.agg ⟨[(.int .i64 (.ofNat 0)), (.int .i64 (.ofNat 1000)), (.int .i64 (.ofNat 2000)), (.int .i64 (.ofNat 5000))]⟩), (.int .i64 (.ofNat 0))]⟩)),
  (11, [(.agg ⟨[(.int .i64 (.ofNat 5000)), (.int .i64 (.ofNat 6000)), (.int .i64 (.ofNat 7000))]⟩), (.agg ⟨[(.int .i64 (.ofNat 1)), (.slice none 0 0), (.slice none 0 0), (.int .i64 (.ofNat 10000))]⟩)], (.tuple ⟨[(.agg ⟨[(.int .i64 (.ofNat 0)), (.int .i64 (.ofNat 1000)), (.int .i64 (.ofNat 2000)), (.int .i64 (.ofNat 5000))]⟩), (.int .i64 (.ofNat 0))]⟩))]
set_option maxRecDepth 1000000 in
theorem c6 : chkS Tryz.prog G0 5 1000 T5 L6 = true := by kernel_rfl
def T6 : Tab := pushT T5 L6
theorem t6 : TOk Tryz.prog G0 T6 := chkS_tok routines tables mixed t5 c6
def L7 : Tab := [(16, [(.agg ⟨[(.int .i64 (.ofNat 9000)), (.int .i64 (.ofNat 9000)), (.int .i64 (.ofNat 9000)), (.int .i64 (.ofNat 0))]⟩), (.int .i64 (.ofNat 10000))], (.bool true)),
  (54, [(.int .u64 (.ofNat 9000)), (.int .u64 (.ofNat 10000))], (.int .u64 (.ofNat 1000))),
  (56, [(.agg ⟨[(.int .i64 (.ofNat 9)), (.int .i64 (.ofNat 10))]⟩)], (.agg ⟨[(S [57]), (S [49, 48])]⟩)),
  (35, [(.int .i64 (.ofNat 9000)), (.int .i64 (.ofNat 10000))], (.tuple ⟨[(.agg ⟨[(S [57]), (S [49, 48])]⟩), (.bool true)]⟩)),
  (31, [(.int .i64 (.ofNat 9000)), (.int .i64 (.ofNat 10000))], (.tuple ⟨[(.agg ⟨[(S [57]), (S [49, 48])]⟩), (.int .i64 (.ofNat 0))]⟩)),
  (79, [(S [49, 48])], (.tuple ⟨[(.int .i64 (.ofNat 10)), (.bool true)]⟩)),
  (54, [(.int .u64 (.ofNat 9)), (.int .u64 (.ofNat 10))], (.int .u64 (.ofNat 1))),
  (47, [(.agg ⟨[(S [57]), (S [49, 48])]⟩)], (.tuple ⟨[(.agg ⟨[(.int .i64 (.ofNat 9)), (.int .i64 (.ofNat 10))]⟩), (.bool true)]⟩)),
  (46, [(.agg ⟨[(S [57]), (S [49, 48])]⟩)], (.int .i64 (.ofNat 0))),
  (117, [(.agg ⟨[(.int .i64 (.ofNat 9)), (.int .i64 (.ofNat 10))]⟩), (.agg ⟨[(.int .i64 (.ofNat 0)), (.int .i64 (.ofNat 1))]⟩)], (.tuple ⟨[(.int .i64 (.ofNat 1)), (.bool true)]⟩)),
  (116, [(.agg ⟨[(S [57]), (S [49, 48])]⟩), (.agg ⟨[(S [48]), (S [49])]⟩), (.func (.func 117) ⟨[]⟩ ⟨[]⟩), (.func (.func 118) ⟨[]⟩ ⟨[]⟩)], (.tuple ⟨[(.int .i64 (.ofNat 1)), (.int .i64 (.ofNat 0))]⟩)),
  (76, [(.agg ⟨[(S [57]), (S [49, 48])]⟩), (.agg ⟨[(S [48]), (S [49])]⟩)], (.tuple ⟨[(.int .i64 (.ofNat 1)), (.int .i64 (.ofNat 0))]⟩)),
  (115, [(.agg ⟨[(S [57]), (S [49, 48])]⟩), (.agg ⟨[(S [48]), (S [49])]⟩), (.int .i64 (.ofNat 1))], (.tuple ⟨[(.agg ⟨[(S [57]), (S [49, 48])]⟩), (.int .i64 (.ofNat 0))]⟩))]
set_option maxRecDepth 1000000 in
theorem c7 : chkS Tryz.prog G0 5 1000 T6 L7 = true := by kernel_rfl
def T7 : Tab := pushT T6 L7
theorem t7 : TOk Tryz.prog G0 T7 := chkS_tok routines tables mixed t6 c7
def L8 : Tab := [(71, [(.agg ⟨[(S [57]), (S [49, 48])]⟩), (.agg ⟨[(S [48]), (S [49])]⟩)], (.tuple ⟨[(.agg ⟨[(S [57]), (S [49, 48])]⟩), (.int .i64 (.ofNat 0))]⟩)),
  (117, [(.agg ⟨[(.int .i64 (.ofNat 9)), (.int .i64 (.ofNat 10))]⟩), (.agg ⟨[(.int .i64 (.ofNat 1)), (.int .i64 (.ofNat 1))]⟩)], (.tuple ⟨[(.int .i64 (.negSucc 0)), (.bool true)]⟩)),
  (116, [(.agg ⟨[(S [57]), (S [49, 48])]⟩), (.agg ⟨[(S [49]), (S [49])]⟩), (.func (.func 117) ⟨[]⟩ ⟨[]⟩), (.func (.func 118) ⟨[]⟩ ⟨[]⟩)], (.tuple ⟨[(.int .i64 (.negSucc 0)), (.int .i64 (.ofNat 0))]⟩)),
  (76, [(.agg ⟨[(S [57]), (S [49, 48])]⟩), (.agg ⟨[(S [49]), (S [49])]⟩)], (.tuple ⟨[(.int .i64 (.negSucc 0)), (.int .i64 (.ofNat 0))]⟩)),
  (115, [(.agg ⟨[(S [57]), (S [49, 48])]⟩), (.agg ⟨[(S [49]), (S [49])]⟩), (.int .i64 (.negSucc 0))], (.tuple ⟨[(.agg ⟨[(S [57]), (S [49, 48])]⟩), (.int .i64 (.ofNat 0))]⟩)),
  (77, [(.agg ⟨[(S [57]), (S [49, 48])]⟩), (.agg ⟨[(S [49]), (S [49])]⟩)], (.tuple ⟨[(.agg ⟨[(S [57]), (S [49, 48])]⟩), (.int .i64 (.ofNat 0))]⟩)),
  (44, [(.agg ⟨[(S [57]), (S [49, 48])]⟩), (.agg ⟨[(S [48]), (S [49])]⟩), (.agg ⟨[(S [49]), (S [49])]⟩)], (.tuple ⟨[(.agg ⟨[(S [57]), (S [49, 48])]⟩), (.int .i64 (.ofNat 0))]⟩)),
  (54, [(.int .u64 (.ofNat 9)), (.int .u64 (.ofNat 1))], (.int .u64 (.ofNat 1))),
  (54, [(.int .u64 (.ofNat 1)), (.int .u64 (.ofNat 10))], (.int .u64 (.ofNat 1)))]
set_option maxRecDepth 1000000 in
theorem c8 : chkS Tryz.prog G0 5 1000 T7 L8 = true := by kernel_rfl
def T8 : Tab := pushT T7 L8
theorem t8 : TOk Tryz.prog G0 T8 := chkS_tok routines tables mixed t7 c8
end Ev
end Go.Proofs.YtcgkjpmaiglcmabGreatDoor
