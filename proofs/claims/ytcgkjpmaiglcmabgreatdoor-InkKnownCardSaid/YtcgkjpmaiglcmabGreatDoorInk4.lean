/- InkKnown: more of the closed calls that it makes. -/
import Derived.Test.YtcgkjpmaiglcmabGreatDoorInk3
namespace Go.Proofs.YtcgkjpmaiglcmabGreatDoor
namespace Ev
def L13 : Tab := [(16, [(.agg ⟨[(.int .i64 (.ofNat 65535)), (.int .i64 (.ofNat 65535)), (.int .i64 (.ofNat 65535)), (.int .i64 (.ofNat 65535))]⟩), (.int .i64 (.ofNat 65535))], (.bool true)),
  (14, [(.int .i64 (.ofNat 0)), (.agg ⟨[(.int .i64 (.ofNat 65535)), (.int .i64 (.ofNat 65535)), (.int .i64 (.ofNat 65535)), (.int .i64 (.ofNat 65535))]⟩), (.func (.func 17) ⟨[]⟩ ⟨[]⟩)], (.tuple ⟨[(.int .i64 (.ofNat 262140)), (.int .i64 (.ofNat 0))]⟩)),
  (5, [(.agg ⟨[(.int .i64 (.ofNat 65535)), (.int .i64 (.ofNat 65535)), (.int .i64 (.ofNat 65535)), (.int .i64 (.ofNat 65535))]⟩)], (.tuple ⟨[(.int .i64 (.ofNat 262140)), (.int .i64 (.ofNat 0))]⟩)),
  (16, [(.agg ⟨[(.int .i64 (.ofNat 0)), (.int .i64 (.ofNat 0)), (.int .i64 (.ofNat 65536)), (.int .i64 (.ofNat 0))]⟩), (.int .i64 (.ofNat 65535))], (.bool false)),
  (5, [(.agg ⟨[(.int .i64 (.ofNat 0)), (.int .i64 (.ofNat 0)), (.int .i64 (.ofNat 65536)), (.int .i64 (.ofNat 0))]⟩)], (.tuple ⟨[(.int .i64 (.ofNat 0)), (.int .i64 (.ofNat 2))]⟩)),
  (21, [(.agg ⟨[(.int .i64 (.ofNat 65535)), (.int .i64 (.ofNat 65535)), (.int .i64 (.ofNat 65535)), (.int .i64 (.ofNat 65535))]⟩), (.int .i64 (.ofNat 262140))], (.agg ⟨[(.int .i64 (.ofNat 65535)), (.int .i64 (.ofNat 65535)), (.int .i64 (.ofNat 65535)), (.int .i64 (.ofNat 65535))]⟩)),
  (20, [(.int .i64 (.ofNat 0)), (.int .i64 (.ofNat 262140)), (.func (.func 21) ⟨[(.agg ⟨[(.int .i64 (.ofNat 65535)), (.int .i64 (.ofNat 65535)), (.int .i64 (.ofNat 65535)), (.int .i64 (.ofNat 65535))]⟩)]⟩ ⟨[]⟩)], (.tuple ⟨[(.agg ⟨[(.int .i64 (.ofNat 65535)), (.int .i64 (.ofNat 65535)), (.int .i64 (.ofNat 65535)), (.int .i64 (.ofNat 65535))]⟩), (.int .i64 (.ofNat 0))]⟩)),
  (7, [(.agg ⟨[(.int .i64 (.ofNat 65535)), (.int .i64 (.ofNat 65535)), (.int .i64 (.ofNat 65535)), (.int .i64 (.ofNat 65535))]⟩), (.int .i64 (.ofNat 262140))], (.tuple ⟨[(.agg ⟨[(.int .i64 (.ofNat 65535)), (.int .i64 (.ofNat 65535)), (.int .i64 (.ofNat 65535)), (.int .i64 (.ofNat 65535))]⟩), (.int .i64 (.ofNat 0))]⟩)),
  (21, [(.agg ⟨[(.int .i64 (.ofNat 65535)), (.int .i64 (.ofNat 65535)), (.int .i64 (.ofNat 65535)), (.int .i64 (.ofNat 65535))]⟩), (.int .i64 (.ofNat 0))], (.agg ⟨[(.int .i64 (.ofNat 0)), (.int .i64 (.ofNat 0)), (.int .i64 (.ofNat 0)), (.int .i64 (.ofNat 0))]⟩)),
  (20, [(.int .i64 (.ofNat 0)), (.int .i64 (.ofNat 0)), (.func (.func 21) ⟨[(.agg ⟨[(.int .i64 (.ofNat 65535)), (.int .i64 (.ofNat 65535)), (.int .i64 (.ofNat 65535)), (.int .i64 (.ofNat 65535))]⟩)]⟩ ⟨[]⟩)], (.tuple ⟨[(.agg ⟨[(.int .i64 (.ofNat 0)), (.int .i64 (.ofNat 0)), (.int .i64 (.ofNat 0)), (.int .i64 (.ofNat 0))]⟩), (.int .i64 (.ofNat 0))]⟩)),
  (7, [(.agg ⟨[(.int .i64 (.ofNat 65535)), (.int .i64 (.ofNat 65535)), (.int .i64 (.ofNat 65535)), (.int .i64 (.ofNat 65535))]⟩), (.int .i64 (.ofNat 0))], (.tuple ⟨[(.agg ⟨[(.int .i64 (.ofNat 0)), (.int .i64 (.ofNat 0)), (.int .i64 (.ofNat 0)), (.int .i64 (.ofNat 0))]⟩), (.int .i64 (.ofNat 0))]⟩)),
  (21, [(.agg ⟨[(.int .i64 (.ofNat 65535)), (.int .i64 (.ofNat 65535)), (.int .i64 (.ofNat 65535)), (.int .i64 (.ofNat 65535))]⟩), (.int .i64 (.ofNat 262139))], (.agg ⟨[(.int .i64 (.ofNat 65534)), (.int .i64 (.ofNat 65534)), (.int .i64 (.ofNat 65534)), (.int .i64 (.ofNat 65535))]⟩)),
  (20, [(.int .i64 (.ofNat 0)), (.int .i64 (.ofNat 262139)), (.func (.func 21) ⟨[(.agg ⟨[(.int .i64 (.ofNat 65535)), (.int .i64 (.ofNat 65535)), (.int .i64 (.ofNat 65535)), (.int .i64 (.ofNat 65535))]⟩)]⟩ ⟨[]⟩)], (.tuple ⟨[(.agg ⟨[(.int .i64 (.ofNat 65534)), (.int .i64 (.ofNat 65534)), (.int .i64 (.ofNat 65534)), (.int .i64 (.ofNat 65535))]⟩), (.int .i64 (.ofNat 0))]⟩)),
  (7, [(.agg ⟨[(.int .i64 (.ofNat 65535)), (.int .i64 (.ofNat 65535)), (.int .i64 (.ofNat 65535)), (.int .i64 (.ofNat 65535))]⟩), (.int .i64 (.ofNat 262139))], (.tuple ⟨[(.agg ⟨[(.int .i64 (.ofNat 65534)), (.int .i64 (.ofNat 65534)), (.int .i64 (.ofNat 65534)), (.int .i64 (.ofNat 65535))]⟩), (.int .i64 (.ofNat 0))]⟩)),
  (16, [(.agg ⟨[(.int .i64 (.ofNat 0)), (.int .i64 (.negSucc 0)), (.int .i64 (.ofNat 0)), (.int .i64 (.ofNat 0))]⟩), (.int .i64 (.ofNat 65535))], (.bool false)),
  (7, [(.agg ⟨[(.int .i64 (.ofNat 0)), (.int .i64 (.negSucc 0)), (.int .i64 (.ofNat 0)), (.int .i64 (.ofNat 0))]⟩), (.int .i64 (.ofNat 5))], (.tuple ⟨[(.agg ⟨[(.int .i64 (.ofNat 0)), (.int .i64 (.ofNat 0)), (.int .i64 (.ofNat 0)), (.int .i64 (.ofNat 0))]⟩), (.int .i64 (.ofNat 2))]⟩)),
  (10, [(.agg ⟨[(.int .i64 (.ofNat 1)), (.slice none 0 0), (.slice none 0 0), (.int .i64 (.ofNat 9999))]⟩)], (.int .i64 (.ofNat 390))),
  (10, [(.agg ⟨[(.int .i64 (.ofNat 1)), (.slice none 0 0), (.slice none 0 0), (.int .i64 (.ofNat 40001))]⟩)], (.int .i64 (.ofNat 390))),
  (34, [(.agg ⟨[(.int .i64 (.ofNat 1000000)), (.int .i64 (.ofNat 1000000)), (.int .i64 (.ofNat 0)), (.int .i64 (.ofNat 1)), (.int .i64 (.ofNat 2)), (.int .i64 (.ofNat 0))]⟩)], (.bool true)),
  (16, [(.agg ⟨[(.int .i64 (.ofNat 0)), (.int .i64 (.ofNat 10001)), (.int .i64 (.ofNat 0)), (.int .i64 (.ofNat 0))]⟩), (.int .i64 (.ofNat 10000))], (.bool false)),
  (11, [(.agg ⟨[(.int .i64 (.ofNat 0)), (.int .i64 (.ofNat 10001)), (.int .i64 (.ofNat 0))]⟩), (.agg ⟨[(.int .i64 (.ofNat 9)), (.slice none 0 0), (.slice none 0 0), (.int .i64 (.negSucc 0))]⟩)], (.tuple ⟨[(.agg ⟨[(.int .i64 (.ofNat 0)), (.int .i64 (.ofNat 0)), (.int .i64 (.ofNat 0)), (.int .i64 (.ofNat 0))]⟩), (.int .i64 (.ofNat 2))]⟩))]
set_option maxRecDepth 1000000 in
theorem c13 : chkS Tryz.prog G0 5 1000 T12 L13 = true := by kernel_rfl
def T13 : Tab := pushT T12 L13
theorem t13 : TOk Tryz.prog G0 T13 := chkS_tok routines tables mixed t12 c13
def L14 : Tab := [(16, [(.agg ⟨[(.int .i64 (.ofNat 0)), (.int .i64 (.ofNat 10000)), (.int .i64 (.ofNat 0)), (.int .i64 (.ofNat 0))]⟩), (.int .i64 (.ofNat 10000))], (.bool true)),
  (11, [(.agg ⟨[(.int .i64 (.ofNat 0)), (.int .i64 (.ofNat 10000)), (.int .i64 (.ofNat 0))]⟩), (.agg ⟨[(.int .i64 (.ofNat 9)), (.slice none 0 0), (.slice none 0 0), (.int .i64 (.negSucc 0))]⟩)], (.tuple ⟨[(.agg ⟨[(.int .i64 (.ofNat 0)), (.int .i64 (.ofNat 0)), (.int .i64 (.ofNat 0)), (.int .i64 (.ofNat 0))]⟩), (.int .i64 (.ofNat 90))]⟩)),
  (16, [(.agg ⟨[(.int .i64 (.ofNat 0)), (.int .i64 (.ofNat 0)), (.int .i64 (.ofNat 0)), (.int .i64 (.ofNat 0))]⟩), (.int .i64 (.ofNat 10000))], (.bool true)),
  (16, [(.agg ⟨[(.int .i64 (.ofNat 10000)), (.int .i64 (.ofNat 10000)), (.int .i64 (.ofNat 10000)), (.int .i64 (.ofNat 0))]⟩), (.int .i64 (.ofNat 10000))], (.bool true)),
  (54, [(.int .u64 (.ofNat 10000)), (.int .u64 (.ofNat 10000))], (.int .u64 (.ofNat 10000))),
  (35, [(.int .i64 (.ofNat 10000)), (.int .i64 (.ofNat 10000))], (.tuple ⟨[(.agg ⟨[(S [49]), (S [49])]⟩), (.bool true)]⟩)),
  (31, [(.int .i64 (.ofNat 10000)), (.int .i64 (.ofNat 10000))], (.tuple ⟨[(.agg ⟨[(S [49]), (S [49])]⟩), (.int .i64 (.ofNat 0))]⟩)),
  (117, [(.agg ⟨[(.int .i64 (.ofNat 1)), (.int .i64 (.ofNat 1))]⟩), (.agg ⟨[(.int .i64 (.ofNat 0)), (.int .i64 (.ofNat 1))]⟩)], (.tuple ⟨[(.int .i64 (.ofNat 1)), (.bool true)]⟩)),
  (116, [(.agg ⟨[(S [49]), (S [49])]⟩), (.agg ⟨[(S [48]), (S [49])]⟩), (.func (.func 117) ⟨[]⟩ ⟨[]⟩), (.func (.func 118) ⟨[]⟩ ⟨[]⟩)], (.tuple ⟨[(.int .i64 (.ofNat 1)), (.int .i64 (.ofNat 0))]⟩)),
  (76, [(.agg ⟨[(S [49]), (S [49])]⟩), (.agg ⟨[(S [48]), (S [49])]⟩)], (.tuple ⟨[(.int .i64 (.ofNat 1)), (.int .i64 (.ofNat 0))]⟩)),
  (115, [(.agg ⟨[(S [49]), (S [49])]⟩), (.agg ⟨[(S [48]), (S [49])]⟩), (.int .i64 (.ofNat 1))], (.tuple ⟨[(.agg ⟨[(S [49]), (S [49])]⟩), (.int .i64 (.ofNat 0))]⟩)),
  (71, [(.agg ⟨[(S [49]), (S [49])]⟩), (.agg ⟨[(S [48]), (S [49])]⟩)], (.tuple ⟨[(.agg ⟨[(S [49]), (S [49])]⟩), (.int .i64 (.ofNat 0))]⟩)),
  (117, [(.agg ⟨[(.int .i64 (.ofNat 1)), (.int .i64 (.ofNat 1))]⟩), (.agg ⟨[(.int .i64 (.ofNat 1)), (.int .i64 (.ofNat 1))]⟩)], (.tuple ⟨[(.int .i64 (.ofNat 0)), (.bool true)]⟩)),
  (116, [(.agg ⟨[(S [49]), (S [49])]⟩), (.agg ⟨[(S [49]), (S [49])]⟩), (.func (.func 117) ⟨[]⟩ ⟨[]⟩), (.func (.func 118) ⟨[]⟩ ⟨[]⟩)], (.tuple ⟨[(.int .i64 (.ofNat 0)), (.int .i64 (.ofNat 0))]⟩)),
  (76, [(.agg ⟨[(S [49]), (S [49])]⟩), (.agg ⟨[(S [49]), (S [49])]⟩)], (.tuple ⟨[(.int .i64 (.ofNat 0)), (.int .i64 (.ofNat 0))]⟩)),
  (115, [(.agg ⟨[(S [49]), (S [49])]⟩), (.agg ⟨[(S [49]), (S [49])]⟩), (.int .i64 (.negSucc 0))], (.tuple ⟨[(.agg ⟨[(S [49]), (S [49])]⟩), (.int .i64 (.ofNat 0))]⟩))]
set_option maxRecDepth 1000000 in
theorem c14 : chkS Tryz.prog G0 5 1000 T13 L14 = true := by kernel_rfl
def T14 : Tab := pushT T13 L14
theorem t14 : TOk Tryz.prog G0 T14 := chkS_tok routines tables mixed t13 c14
def L15 : Tab := [(77, [(.agg ⟨[(S [49]), (S [49])]⟩), (.agg ⟨[(S [49]), (S [49])]⟩)], (.tuple ⟨[(.agg ⟨[(S [49]), (S [49])]⟩), (.int .i64 (.ofNat 0))]⟩)),
  (44, [(.agg ⟨[(S [49]), (S [49])]⟩), (.agg ⟨[(S [48]), (S [49])]⟩), (.agg ⟨[(S [49]), (S [49])]⟩)], (.tuple ⟨[(.agg ⟨[(S [49]), (S [49])]⟩), (.int .i64 (.ofNat 0))]⟩)),
  (99, [(.agg ⟨[(.int .i64 (.ofNat 1)), (.int .i64 (.ofNat 1))]⟩), (.agg ⟨[(.int .i64 (.ofNat 1)), (.int .i64 (.ofNat 1))]⟩)], (.tuple ⟨[(.agg ⟨[(S [49]), (S [49])]⟩), (.bool true)]⟩)),
  (61, [(.agg ⟨[(S [49]), (S [49])]⟩), (.agg ⟨[(S [49]), (S [49])]⟩)], (.tuple ⟨[(.agg ⟨[(S [49]), (S [49])]⟩), (.int .i64 (.ofNat 0))]⟩)),
  (139, [(.int .i64 (.ofNat 1))], (S [49])),
  (104, [(.agg ⟨[(S [49]), (S [49])]⟩)], (.tuple ⟨[(S [49]), (.int .i64 (.ofNat 0))]⟩)),
  (80, [(.int .i64 (.ofNat 1)), (.int .i64 (.ofNat 2))], (.tuple ⟨[(.int .i64 (.ofNat 2)), (.bool true)]⟩)),
  (48, [(.agg ⟨[(.int .i64 (.ofNat 1)), (.int .i64 (.ofNat 1))]⟩), (.int .i64 (.ofNat 1))], (.tuple ⟨[(.int .i64 (.ofNat 1)), (.bool true)]⟩)),
  (33, [(.agg ⟨[(S [49]), (S [49])]⟩), (.int .i64 (.ofNat 1))], (.tuple ⟨[(.int .i64 (.ofNat 1)), (.int .i64 (.ofNat 0))]⟩)),
  (62, [(.agg ⟨[(S [49]), (S [49])]⟩)], (.int .i64 (.ofNat 1))),
  (107, [(.agg ⟨[(.int .i64 (.ofNat 1)), (.int .i64 (.ofNat 1))]⟩), (.agg ⟨[(.int .i64 (.ofNat 0)), (.int .i64 (.ofNat 1))]⟩)], (.tuple ⟨[(.agg ⟨[(S [49]), (S [49])]⟩), (.bool true)]⟩)),
  (105, [(.agg ⟨[(.int .i64 (.ofNat 1)), (.int .i64 (.ofNat 1))]⟩), (.agg ⟨[(.int .i64 (.ofNat 0)), (.int .i64 (.ofNat 1))]⟩)], (.tuple ⟨[(.agg ⟨[(S [49]), (S [49])]⟩), (.bool true)]⟩)),
  (63, [(.agg ⟨[(S [49]), (S [49])]⟩), (.agg ⟨[(S [48]), (S [49])]⟩)], (.tuple ⟨[(.agg ⟨[(S [49]), (S [49])]⟩), (.int .i64 (.ofNat 0))]⟩))]
set_option maxRecDepth 1000000 in
theorem c15 : chkS Tryz.prog G0 5 1000 T14 L15 = true := by kernel_rfl
def T15 : Tab := pushT T14 L15
theorem t15 : TOk Tryz.prog G0 T15 := chkS_tok routines tables mixed t14 c15
def L16 : Tab := [(54, [(.int .u64 (.ofNat 32767)), (.int .u64 (.ofNat 1))], (.int .u64 (.ofNat 1))),
  (151, [(.int .i64 (.ofNat 32767)), (.int .i64 (.ofNat 10))], (S [51, 50, 55, 54, 55])),
  (128, [(.int .i64 (.ofNat 32767))], (S [51, 50, 55, 54, 55])),
  (91, [(.int .i64 (.ofNat 32767))], (S [51, 50, 55, 54, 55])),
  (56, [(.agg ⟨[(.int .i64 (.ofNat 32767)), (.int .i64 (.ofNat 1))]⟩)], (.agg ⟨[(S [51, 50, 55, 54, 55]), (S [49])]⟩)),
  (35, [(.int .i64 (.ofNat 32767)), (.int .i64 (.ofNat 1))], (.tuple ⟨[(.agg ⟨[(S [51, 50, 55, 54, 55]), (S [49])]⟩), (.bool true)]⟩)),
  (31, [(.int .i64 (.ofNat 32767)), (.int .i64 (.ofNat 1))], (.tuple ⟨[(.agg ⟨[(S [51, 50, 55, 54, 55]), (S [49])]⟩), (.int .i64 (.ofNat 0))]⟩))]
set_option maxRecDepth 1000000 in
theorem c16 : chkS Tryz.prog G0 5 1000 T15 L16 = true := by kernel_rfl
def T16 : Tab := pushT T15 L16
theorem t16 : TOk Tryz.prog G0 T16 := chkS_tok routines tables mixed t15 c16
end Ev
end Go.Proofs.YtcgkjpmaiglcmabGreatDoor
