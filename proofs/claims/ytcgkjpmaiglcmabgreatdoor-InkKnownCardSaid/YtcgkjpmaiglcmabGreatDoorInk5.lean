/- InkKnown: more of the closed calls that it makes. -/
import Derived.Test.YtcgkjpmaiglcmabGreatDoorInk4
namespace Go.Proofs.YtcgkjpmaiglcmabGreatDoor
namespace Ev
def L17 : Tab := [(45, [(.int .i64 (.ofNat 32767)), (.int .i64 (.ofNat 1))], (.agg ⟨[(S [51, 50, 55, 54, 55]), (S [49])]⟩)),
  (79, [(S [51, 50, 55, 54, 55])], (.tuple ⟨[(.int .i64 (.ofNat 32767)), (.bool true)]⟩)),
  (47, [(.agg ⟨[(S [51, 50, 55, 54, 55]), (S [49])]⟩)], (.tuple ⟨[(.agg ⟨[(.int .i64 (.ofNat 32767)), (.int .i64 (.ofNat 1))]⟩), (.bool true)]⟩)),
  (80, [(.int .i64 (.ofNat 32767)), (.int .i64 (.ofNat 1))], (.tuple ⟨[(.int .i64 (.ofNat 32767)), (.bool true)]⟩)),
  (99, [(.agg ⟨[(.int .i64 (.ofNat 32767)), (.int .i64 (.ofNat 1))]⟩), (.agg ⟨[(.int .i64 (.ofNat 1)), (.int .i64 (.ofNat 1))]⟩)], (.tuple ⟨[(.agg ⟨[(S [51, 50, 55, 54, 55]), (S [49])]⟩), (.bool true)]⟩)),
  (61, [(.agg ⟨[(S [51, 50, 55, 54, 55]), (S [49])]⟩), (.agg ⟨[(S [49]), (S [49])]⟩)], (.tuple ⟨[(.agg ⟨[(S [51, 50, 55, 54, 55]), (S [49])]⟩), (.int .i64 (.ofNat 0))]⟩)),
  (107, [(.agg ⟨[(.int .i64 (.ofNat 0)), (.int .i64 (.ofNat 1))]⟩), (.agg ⟨[(.int .i64 (.ofNat 32767)), (.int .i64 (.ofNat 1))]⟩)], (.tuple ⟨[(.agg ⟨[(S [51, 50, 55, 54, 55]), (S [49])]⟩), (.bool true)]⟩)),
  (64, [(.agg ⟨[(S [48]), (S [49])]⟩), (.agg ⟨[(S [51, 50, 55, 54, 55]), (S [49])]⟩)], (.tuple ⟨[(.agg ⟨[(S [51, 50, 55, 54, 55]), (S [49])]⟩), (.int .i64 (.ofNat 0))]⟩)),
  (54, [(.int .u64 (.ofNat 32767)), (.int .u64 (.ofNat 65535))], (.int .u64 (.ofNat 1)))]
set_option maxRecDepth 1000000 in
theorem c17 : chkS Tryz.prog G0 5 1000 T16 L17 = true := by kernel_rfl
def T17 : Tab := pushT T16 L17
theorem t17 : TOk Tryz.prog G0 T17 := chkS_tok routines tables mixed t16 c17
def L18 : Tab := [(80, [(.int .i64 (.ofNat 1)), (.int .i64 (.ofNat 65535))], (.tuple ⟨[(.int .i64 (.ofNat 65535)), (.bool true)]⟩)),
  (99, [(.agg ⟨[(.int .i64 (.ofNat 32767)), (.int .i64 (.ofNat 1))]⟩), (.agg ⟨[(.int .i64 (.ofNat 1)), (.int .i64 (.ofNat 65535))]⟩)], (.tuple ⟨[(.agg ⟨[(S [51, 50, 55, 54, 55]), (S [54, 53, 53, 51, 53])]⟩), (.bool true)]⟩)),
  (109, [(.agg ⟨[(.int .i64 (.ofNat 32767)), (.int .i64 (.ofNat 1))]⟩), (.agg ⟨[(.int .i64 (.ofNat 65535)), (.int .i64 (.ofNat 1))]⟩)], (.tuple ⟨[(.agg ⟨[(S [51, 50, 55, 54, 55]), (S [54, 53, 53, 51, 53])]⟩), (.bool true)]⟩)),
  (65, [(.agg ⟨[(S [51, 50, 55, 54, 55]), (S [49])]⟩), (.agg ⟨[(S [54, 53, 53, 51, 53]), (S [49])]⟩)], (.tuple ⟨[(.agg ⟨[(S [51, 50, 55, 54, 55]), (S [54, 53, 53, 51, 53])]⟩), (.int .i64 (.ofNat 0))]⟩)),
  (46, [(.agg ⟨[(S [51, 50, 55, 54, 55]), (S [54, 53, 53, 51, 53])]⟩)], (.int .i64 (.ofNat 0))),
  (80, [(.int .i64 (.ofNat 32767)), (.int .i64 (.ofNat 20000))], (.tuple ⟨[(.int .i64 (.ofNat 655340000)), (.bool true)]⟩)),
  (48, [(.agg ⟨[(.int .i64 (.ofNat 32767)), (.int .i64 (.ofNat 65535))]⟩), (.int .i64 (.ofNat 10000))], (.tuple ⟨[(.int .i64 (.ofNat 5000)), (.bool true)]⟩))]
set_option maxRecDepth 1000000 in
theorem c18 : chkS Tryz.prog G0 5 1000 T17 L18 = true := by kernel_rfl
def T18 : Tab := pushT T17 L18
theorem t18 : TOk Tryz.prog G0 T18 := chkS_tok routines tables mixed t17 c18
def L19 : Tab := [(33, [(.agg ⟨[(S [51, 50, 55, 54, 55]), (S [54, 53, 53, 51, 53])]⟩), (.int .i64 (.ofNat 10000))], (.tuple ⟨[(.int .i64 (.ofNat 5000)), (.int .i64 (.ofNat 0))]⟩)),
  (21, [(.agg ⟨[(.int .i64 (.ofNat 5000)), (.int .i64 (.ofNat 5000)), (.int .i64 (.ofNat 5000)), (.int .i64 (.ofNat 5000))]⟩), (.int .i64 (.ofNat 40000))], (.agg ⟨[(.int .i64 (.ofNat 5000)), (.int .i64 (.ofNat 5000)), (.int .i64 (.ofNat 5000)), (.int .i64 (.ofNat 5000))]⟩)),
  (20, [(.int .i64 (.ofNat 0)), (.int .i64 (.ofNat 40000)), (.func (.func 21) ⟨[(.agg ⟨[(.int .i64 (.ofNat 5000)), (.int .i64 (.ofNat 5000)), (.int .i64 (.ofNat 5000)), (.int .i64 (.ofNat 5000))]⟩)]⟩ ⟨[]⟩)], (.tuple ⟨[(.agg ⟨[(.int .i64 (.ofNat 5000)), (.int .i64 (.ofNat 5000)), (.int .i64 (.ofNat 5000)), (.int .i64 (.ofNat 5000))]⟩), (.int .i64 (.ofNat 0))]⟩)),
  (16, [(.agg ⟨[(.int .i64 (.ofNat 3)), (.int .i64 (.ofNat 2)), (.int .i64 (.ofNat 7)), (.int .i64 (.ofNat 0))]⟩), (.int .i64 (.ofNat 10000))], (.bool true)),
  (54, [(.int .u64 (.ofNat 2)), (.int .u64 (.ofNat 10000))], (.int .u64 (.ofNat 2))),
  (151, [(.int .i64 (.ofNat 5000)), (.int .i64 (.ofNat 10))], (S [53, 48, 48, 48])),
  (128, [(.int .i64 (.ofNat 5000))], (S [53, 48, 48, 48])),
  (91, [(.int .i64 (.ofNat 5000))], (S [53, 48, 48, 48])),
  (56, [(.agg ⟨[(.int .i64 (.ofNat 1)), (.int .i64 (.ofNat 5000))]⟩)], (.agg ⟨[(S [49]), (S [53, 48, 48, 48])]⟩)),
  (35, [(.int .i64 (.ofNat 2)), (.int .i64 (.ofNat 10000))], (.tuple ⟨[(.agg ⟨[(S [49]), (S [53, 48, 48, 48])]⟩), (.bool true)]⟩)),
  (31, [(.int .i64 (.ofNat 2)), (.int .i64 (.ofNat 10000))], (.tuple ⟨[(.agg ⟨[(S [49]), (S [53, 48, 48, 48])]⟩), (.int .i64 (.ofNat 0))]⟩)),
  (79, [(S [53, 48, 48, 48])], (.tuple ⟨[(.int .i64 (.ofNat 5000)), (.bool true)]⟩)),
  (54, [(.int .u64 (.ofNat 1)), (.int .u64 (.ofNat 5000))], (.int .u64 (.ofNat 1))),
  (47, [(.agg ⟨[(S [49]), (S [53, 48, 48, 48])]⟩)], (.tuple ⟨[(.agg ⟨[(.int .i64 (.ofNat 1)), (.int .i64 (.ofNat 5000))]⟩), (.bool true)]⟩))]
set_option maxRecDepth 1000000 in
theorem c19 : chkS Tryz.prog G0 5 1000 T18 L19 = true := by kernel_rfl
def T19 : Tab := pushT T18 L19
theorem t19 : TOk Tryz.prog G0 T19 := chkS_tok routines tables mixed t18 c19
def L20 : Tab := [(46, [(.agg ⟨[(S [49]), (S [53, 48, 48, 48])]⟩)], (.int .i64 (.ofNat 0))),
  (117, [(.agg ⟨[(.int .i64 (.ofNat 1)), (.int .i64 (.ofNat 5000))]⟩), (.agg ⟨[(.int .i64 (.ofNat 0)), (.int .i64 (.ofNat 1))]⟩)], (.tuple ⟨[(.int .i64 (.ofNat 1)), (.bool true)]⟩)),
  (116, [(.agg ⟨[(S [49]), (S [53, 48, 48, 48])]⟩), (.agg ⟨[(S [48]), (S [49])]⟩), (.func (.func 117) ⟨[]⟩ ⟨[]⟩), (.func (.func 118) ⟨[]⟩ ⟨[]⟩)], (.tuple ⟨[(.int .i64 (.ofNat 1)), (.int .i64 (.ofNat 0))]⟩)),
  (76, [(.agg ⟨[(S [49]), (S [53, 48, 48, 48])]⟩), (.agg ⟨[(S [48]), (S [49])]⟩)], (.tuple ⟨[(.int .i64 (.ofNat 1)), (.int .i64 (.ofNat 0))]⟩)),
  (115, [(.agg ⟨[(S [49]), (S [53, 48, 48, 48])]⟩), (.agg ⟨[(S [48]), (S [49])]⟩), (.int .i64 (.ofNat 1))], (.tuple ⟨[(.agg ⟨[(S [49]), (S [53, 48, 48, 48])]⟩), (.int .i64 (.ofNat 0))]⟩)),
  (71, [(.agg ⟨[(S [49]), (S [53, 48, 48, 48])]⟩), (.agg ⟨[(S [48]), (S [49])]⟩)], (.tuple ⟨[(.agg ⟨[(S [49]), (S [53, 48, 48, 48])]⟩), (.int .i64 (.ofNat 0))]⟩)),
  (117, [(.agg ⟨[(.int .i64 (.ofNat 1)), (.int .i64 (.ofNat 5000))]⟩), (.agg ⟨[(.int .i64 (.ofNat 1)), (.int .i64 (.ofNat 1))]⟩)], (.tuple ⟨[(.int .i64 (.negSucc 0)), (.bool true)]⟩)),
  (116, [(.agg ⟨[(S [49]), (S [53, 48, 48, 48])]⟩), (.agg ⟨[(S [49]), (S [49])]⟩), (.func (.func 117) ⟨[]⟩ ⟨[]⟩), (.func (.func 118) ⟨[]⟩ ⟨[]⟩)], (.tuple ⟨[(.int .i64 (.negSucc 0)), (.int .i64 (.ofNat 0))]⟩)),
  (76, [(.agg ⟨[(S [49]), (S [53, 48, 48, 48])]⟩), (.agg ⟨[(S [49]), (S [49])]⟩)], (.tuple ⟨[(.int .i64 (.negSucc 0)), (.int .i64 (.ofNat 0))]⟩)),
  (115, [(.agg ⟨[(S [49]), (S [53, 48, 48, 48])]⟩), (.agg ⟨[(S [49]), (S [49])]⟩), (.int .i64 (.negSucc 0))], (.tuple ⟨[(.agg ⟨[(S [49]), (S [53, 48, 48, 48])]⟩), (.int .i64 (.ofNat 0))]⟩)),
  (77, [(.agg ⟨[(S [49]), (S [53, 48, 48, 48])]⟩), (.agg ⟨[(S [49]), (S [49])]⟩)], (.tuple ⟨[(.agg ⟨[(S [49]), (S [53, 48, 48, 48])]⟩), (.int .i64 (.ofNat 0))]⟩))]
set_option maxRecDepth 1000000 in
theorem c20 : chkS Tryz.prog G0 5 1000 T19 L20 = true := by kernel_rfl
def T20 : Tab := pushT T19 L20
theorem t20 : TOk Tryz.prog G0 T20 := chkS_tok routines tables mixed t19 c20
end Ev
end Go.Proofs.YtcgkjpmaiglcmabGreatDoor
