/- InkKnown: more of the closed calls that it makes. -/
import Derived.Test.YtcgkjpmaiglcmabGreatDoorInk2
namespace Go.Proofs.YtcgkjpmaiglcmabGreatDoor
namespace Ev
def L9 : Tab := [(80, [(.int .i64 (.ofNat 9)), (.int .i64 (.ofNat 1))], (.tuple ⟨[(.int .i64 (.ofNat 9)), (.bool true)]⟩)),
  (80, [(.int .i64 (.ofNat 10)), (.int .i64 (.ofNat 1))], (.tuple ⟨[(.int .i64 (.ofNat 10)), (.bool true)]⟩)),
  (99, [(.agg ⟨[(.int .i64 (.ofNat 9)), (.int .i64 (.ofNat 10))]⟩), (.agg ⟨[(.int .i64 (.ofNat 1)), (.int .i64 (.ofNat 1))]⟩)], (.tuple ⟨[(.agg ⟨[(S [57]), (S [49, 48])]⟩), (.bool true)]⟩)),
  (61, [(.agg ⟨[(S [57]), (S [49, 48])]⟩), (.agg ⟨[(S [49]), (S [49])]⟩)], (.tuple ⟨[(.agg ⟨[(S [57]), (S [49, 48])]⟩), (.int .i64 (.ofNat 0))]⟩)),
  (139, [(.int .i64 (.ofNat 0))], (S [48])),
  (104, [(.agg ⟨[(S [57]), (S [49, 48])]⟩)], (.tuple ⟨[(S [48]), (.int .i64 (.ofNat 0))]⟩)),
  (80, [(.int .i64 (.ofNat 0)), (.int .i64 (.ofNat 2))], (.tuple ⟨[(.int .i64 (.ofNat 0)), (.bool true)]⟩)),
  (48, [(.agg ⟨[(.int .i64 (.ofNat 0)), (.int .i64 (.ofNat 1))]⟩), (.int .i64 (.ofNat 1))], (.tuple ⟨[(.int .i64 (.ofNat 0)), (.bool true)]⟩)),
  (33, [(.agg ⟨[(S [48]), (S [49])]⟩), (.int .i64 (.ofNat 1))], (.tuple ⟨[(.int .i64 (.ofNat 0)), (.int .i64 (.ofNat 0))]⟩)),
  (62, [(.agg ⟨[(S [57]), (S [49, 48])]⟩)], (.int .i64 (.ofNat 0))),
  (54, [(.int .u64 (.ofNat 10)), (.int .u64 (.ofNat 1))], (.int .u64 (.ofNat 1))),
  (80, [(.int .i64 (.ofNat 0)), (.int .i64 (.ofNat 10))], (.tuple ⟨[(.int .i64 (.ofNat 0)), (.bool true)]⟩)),
  (107, [(.agg ⟨[(.int .i64 (.ofNat 9)), (.int .i64 (.ofNat 10))]⟩), (.agg ⟨[(.int .i64 (.ofNat 0)), (.int .i64 (.ofNat 1))]⟩)], (.tuple ⟨[(.agg ⟨[(S [57]), (S [49, 48])]⟩), (.bool true)]⟩))]
set_option maxRecDepth 1000000 in
theorem c9 : chkS Tryz.prog G0 5 1000 T8 L9 = true := by kernel_rfl
def T9 : Tab := pushT T8 L9
theorem t9 : TOk Tryz.prog G0 T9 := chkS_tok routines tables mixed t8 c9
def L10 : Tab := [(105, [(.agg ⟨[(.int .i64 (.ofNat 9)), (.int .i64 (.ofNat 10))]⟩), (.agg ⟨[(.int .i64 (.ofNat 0)), (.int .i64 (.ofNat 1))]⟩)], (.tuple ⟨[(.agg ⟨[(S [57]), (S [49, 48])]⟩), (.bool true)]⟩)),
  (63, [(.agg ⟨[(S [57]), (S [49, 48])]⟩), (.agg ⟨[(S [48]), (S [49])]⟩)], (.tuple ⟨[(.agg ⟨[(S [57]), (S [49, 48])]⟩), (.int .i64 (.ofNat 0))]⟩)),
  (80, [(.int .i64 (.ofNat 0)), (.int .i64 (.ofNat 9))], (.tuple ⟨[(.int .i64 (.ofNat 0)), (.bool true)]⟩)),
  (80, [(.int .i64 (.ofNat 1)), (.int .i64 (.ofNat 1))], (.tuple ⟨[(.int .i64 (.ofNat 1)), (.bool true)]⟩)),
  (99, [(.agg ⟨[(.int .i64 (.ofNat 0)), (.int .i64 (.ofNat 1))]⟩), (.agg ⟨[(.int .i64 (.ofNat 9)), (.int .i64 (.ofNat 10))]⟩)], (.tuple ⟨[(.agg ⟨[(S [48]), (S [49])]⟩), (.bool true)]⟩)),
  (61, [(.agg ⟨[(S [48]), (S [49])]⟩), (.agg ⟨[(S [57]), (S [49, 48])]⟩)], (.tuple ⟨[(.agg ⟨[(S [48]), (S [49])]⟩), (.int .i64 (.ofNat 0))]⟩)),
  (80, [(.int .i64 (.ofNat 0)), (.int .i64 (.ofNat 1))], (.tuple ⟨[(.int .i64 (.ofNat 0)), (.bool true)]⟩)),
  (107, [(.agg ⟨[(.int .i64 (.ofNat 0)), (.int .i64 (.ofNat 1))]⟩), (.agg ⟨[(.int .i64 (.ofNat 0)), (.int .i64 (.ofNat 1))]⟩)], (.tuple ⟨[(.agg ⟨[(S [48]), (S [49])]⟩), (.bool true)]⟩)),
  (64, [(.agg ⟨[(S [48]), (S [49])]⟩), (.agg ⟨[(S [48]), (S [49])]⟩)], (.tuple ⟨[(.agg ⟨[(S [48]), (S [49])]⟩), (.int .i64 (.ofNat 0))]⟩)),
  (54, [(.int .u64 (.ofNat 65535)), (.int .u64 (.ofNat 1))], (.int .u64 (.ofNat 1)))]
set_option maxRecDepth 1000000 in
theorem c10 : chkS Tryz.prog G0 5 1000 T9 L10 = true := by kernel_rfl
def T10 : Tab := pushT T9 L10
theorem t10 : TOk Tryz.prog G0 T10 := chkS_tok routines tables mixed t9 c10
def L11 : Tab := [(151, [(.int .i64 (.ofNat 65535)), (.int .i64 (.ofNat 10))], (S [54, 53, 53, 51, 53])),
  (128, [(.int .i64 (.ofNat 65535))], (S [54, 53, 53, 51, 53])),
  (91, [(.int .i64 (.ofNat 65535))], (S [54, 53, 53, 51, 53])),
  (56, [(.agg ⟨[(.int .i64 (.ofNat 65535)), (.int .i64 (.ofNat 1))]⟩)], (.agg ⟨[(S [54, 53, 53, 51, 53]), (S [49])]⟩)),
  (35, [(.int .i64 (.ofNat 65535)), (.int .i64 (.ofNat 1))], (.tuple ⟨[(.agg ⟨[(S [54, 53, 53, 51, 53]), (S [49])]⟩), (.bool true)]⟩)),
  (31, [(.int .i64 (.ofNat 65535)), (.int .i64 (.ofNat 1))], (.tuple ⟨[(.agg ⟨[(S [54, 53, 53, 51, 53]), (S [49])]⟩), (.int .i64 (.ofNat 0))]⟩)),
  (45, [(.int .i64 (.ofNat 65535)), (.int .i64 (.ofNat 1))], (.agg ⟨[(S [54, 53, 53, 51, 53]), (S [49])]⟩))]
set_option maxRecDepth 1000000 in
theorem c11 : chkS Tryz.prog G0 5 1000 T10 L11 = true := by kernel_rfl
def T11 : Tab := pushT T10 L11
theorem t11 : TOk Tryz.prog G0 T11 := chkS_tok routines tables mixed t10 c11
def L12 : Tab := [(79, [(S [54, 53, 53, 51, 53])], (.tuple ⟨[(.int .i64 (.ofNat 65535)), (.bool true)]⟩)),
  (47, [(.agg ⟨[(S [54, 53, 53, 51, 53]), (S [49])]⟩)], (.tuple ⟨[(.agg ⟨[(.int .i64 (.ofNat 65535)), (.int .i64 (.ofNat 1))]⟩), (.bool true)]⟩)),
  (46, [(.agg ⟨[(S [54, 53, 53, 51, 53]), (S [49])]⟩)], (.int .i64 (.ofNat 0))),
  (99, [(.agg ⟨[(.int .i64 (.ofNat 0)), (.int .i64 (.ofNat 1))]⟩), (.agg ⟨[(.int .i64 (.ofNat 1)), (.int .i64 (.ofNat 65535))]⟩)], (.tuple ⟨[(.agg ⟨[(S [48]), (S [49])]⟩), (.bool true)]⟩)),
  (109, [(.agg ⟨[(.int .i64 (.ofNat 0)), (.int .i64 (.ofNat 1))]⟩), (.agg ⟨[(.int .i64 (.ofNat 65535)), (.int .i64 (.ofNat 1))]⟩)], (.tuple ⟨[(.agg ⟨[(S [48]), (S [49])]⟩), (.bool true)]⟩)),
  (65, [(.agg ⟨[(S [48]), (S [49])]⟩), (.agg ⟨[(S [54, 53, 53, 51, 53]), (S [49])]⟩)], (.tuple ⟨[(.agg ⟨[(S [48]), (S [49])]⟩), (.int .i64 (.ofNat 0))]⟩)),
  (80, [(.int .i64 (.ofNat 0)), (.int .i64 (.ofNat 20000))], (.tuple ⟨[(.int .i64 (.ofNat 0)), (.bool true)]⟩)),
  (48, [(.agg ⟨[(.int .i64 (.ofNat 0)), (.int .i64 (.ofNat 1))]⟩), (.int .i64 (.ofNat 10000))], (.tuple ⟨[(.int .i64 (.ofNat 0)), (.bool true)]⟩)),
  (33, [(.agg ⟨[(S [48]), (S [49])]⟩), (.int .i64 (.ofNat 10000))], (.tuple ⟨[(.int .i64 (.ofNat 0)), (.int .i64 (.ofNat 0))]⟩)),
  (21, [(.agg ⟨[(.int .i64 (.ofNat 9000)), (.int .i64 (.ofNat 9000)), (.int .i64 (.ofNat 9000)), (.int .i64 (.ofNat 0))]⟩), (.int .i64 (.ofNat 20000))], (.agg ⟨[(.int .i64 (.ofNat 6666)), (.int .i64 (.ofNat 6666)), (.int .i64 (.ofNat 6666)), (.int .i64 (.ofNat 0))]⟩)),
  (20, [(.int .i64 (.ofNat 0)), (.int .i64 (.ofNat 20000)), (.func (.func 21) ⟨[(.agg ⟨[(.int .i64 (.ofNat 9000)), (.int .i64 (.ofNat 9000)), (.int .i64 (.ofNat 9000)), (.int .i64 (.ofNat 0))]⟩)]⟩ ⟨[]⟩)], (.tuple ⟨[(.agg ⟨[(.int .i64 (.ofNat 6666)), (.int .i64 (.ofNat 6666)), (.int .i64 (.ofNat 6666)), (.int .i64 (.ofNat 0))]⟩), (.int .i64 (.ofNat 0))]⟩)),
  (16, [(.agg ⟨[(.int .i64 (.ofNat 1)), (.int .i64 (.ofNat 1)), (.int .i64 (.ofNat 1)), (.int .i64 (.ofNat 1))]⟩), (.int .i64 (.ofNat 10000))], (.bool true)),
  (12, [(.agg ⟨[(.int .i64 (.ofNat 1)), (.int .i64 (.ofNat 1)), (.int .i64 (.ofNat 1)), (.int .i64 (.ofNat 1))]⟩), (.int .i64 (.ofNat 9999))], (.tuple ⟨[(.agg ⟨[(.int .i64 (.ofNat 0)), (.int .i64 (.ofNat 0)), (.int .i64 (.ofNat 0)), (.int .i64 (.ofNat 0))]⟩), (.int .i64 (.ofNat 390))]⟩)),
  (16, [(.agg ⟨[(.int .i64 (.negSucc 0)), (.int .i64 (.ofNat 0)), (.int .i64 (.ofNat 0)), (.int .i64 (.ofNat 0))]⟩), (.int .i64 (.ofNat 10000))], (.bool false)),
  (12, [(.agg ⟨[(.int .i64 (.negSucc 0)), (.int .i64 (.ofNat 0)), (.int .i64 (.ofNat 0)), (.int .i64 (.ofNat 0))]⟩), (.int .i64 (.ofNat 9999))], (.tuple ⟨[(.agg ⟨[(.int .i64 (.ofNat 0)), (.int .i64 (.ofNat 0)), (.int .i64 (.ofNat 0)), (.int .i64 (.ofNat 0))]⟩), (.int .i64 (.ofNat 2))]⟩)),
  (4, [], (.bool true))]
set_option maxRecDepth 1000000 in
theorem c12 : chkS Tryz.prog G0 5 1000 T11 L12 = true := by kernel_rfl
def T12 : Tab := pushT T11 L12
theorem t12 : TOk Tryz.prog G0 T12 := chkS_tok routines tables mixed t11 c12
end Ev
end Go.Proofs.YtcgkjpmaiglcmabGreatDoor
