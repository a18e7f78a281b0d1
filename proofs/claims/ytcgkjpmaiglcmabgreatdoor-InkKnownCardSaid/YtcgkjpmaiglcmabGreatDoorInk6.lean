/- InkKnown: more of the closed calls that it makes. -/
import Derived.Test.YtcgkjpmaiglcmabGreatDoorInk5
namespace Go.Proofs.YtcgkjpmaiglcmabGreatDoor
namespace Ev
def L21 : Tab := [(44, [(.agg ⟨[(S [49]), (S [53, 48, 48, 48])]⟩), (.agg ⟨[(S [48]), (S [49])]⟩), (.agg ⟨[(S [49]), (S [49])]⟩)], (.tuple ⟨[(.agg ⟨[(S [49]), (S [53, 48, 48, 48])]⟩), (.int .i64 (.ofNat 0))]⟩)),
  (80, [(.int .i64 (.ofNat 5000)), (.int .i64 (.ofNat 1))], (.tuple ⟨[(.int .i64 (.ofNat 5000)), (.bool true)]⟩)),
  (99, [(.agg ⟨[(.int .i64 (.ofNat 1)), (.int .i64 (.ofNat 5000))]⟩), (.agg ⟨[(.int .i64 (.ofNat 1)), (.int .i64 (.ofNat 1))]⟩)], (.tuple ⟨[(.agg ⟨[(S [49]), (S [53, 48, 48, 48])]⟩), (.bool true)]⟩)),
  (61, [(.agg ⟨[(S [49]), (S [53, 48, 48, 48])]⟩), (.agg ⟨[(S [49]), (S [49])]⟩)], (.tuple ⟨[(.agg ⟨[(S [49]), (S [53, 48, 48, 48])]⟩), (.int .i64 (.ofNat 0))]⟩)),
  (54, [(.int .u64 (.ofNat 5000)), (.int .u64 (.ofNat 1))], (.int .u64 (.ofNat 1))),
  (80, [(.int .i64 (.ofNat 0)), (.int .i64 (.ofNat 5000))], (.tuple ⟨[(.int .i64 (.ofNat 0)), (.bool true)]⟩)),
  (107, [(.agg ⟨[(.int .i64 (.ofNat 1)), (.int .i64 (.ofNat 5000))]⟩), (.agg ⟨[(.int .i64 (.ofNat 0)), (.int .i64 (.ofNat 1))]⟩)], (.tuple ⟨[(.agg ⟨[(S [49]), (S [53, 48, 48, 48])]⟩), (.bool true)]⟩)),
  (105, [(.agg ⟨[(.int .i64 (.ofNat 1)), (.int .i64 (.ofNat 5000))]⟩), (.agg ⟨[(.int .i64 (.ofNat 0)), (.int .i64 (.ofNat 1))]⟩)], (.tuple ⟨[(.agg ⟨[(S [49]), (S [53, 48, 48, 48])]⟩), (.bool true)]⟩))]
set_option maxRecDepth 1000000 in
theorem c21 : chkS Tryz.prog G0 5 1000 T20 L21 = true := by kernel_rfl
def T21 : Tab := pushT T20 L21
theorem t21 : TOk Tryz.prog G0 T21 := chkS_tok routines tables mixed t20 c21
def L22 : Tab := [(63, [(.agg ⟨[(S [49]), (S [53, 48, 48, 48])]⟩), (.agg ⟨[(S [48]), (S [49])]⟩)], (.tuple ⟨[(.agg ⟨[(S [49]), (S [53, 48, 48, 48])]⟩), (.int .i64 (.ofNat 0))]⟩)),
  (54, [(.int .u64 (.ofNat 32767)), (.int .u64 (.ofNat 5000))], (.int .u64 (.ofNat 1))),
  (80, [(.int .i64 (.ofNat 1)), (.int .i64 (.ofNat 5000))], (.tuple ⟨[(.int .i64 (.ofNat 5000)), (.bool true)]⟩)),
  (99, [(.agg ⟨[(.int .i64 (.ofNat 32767)), (.int .i64 (.ofNat 1))]⟩), (.agg ⟨[(.int .i64 (.ofNat 1)), (.int .i64 (.ofNat 5000))]⟩)], (.tuple ⟨[(.agg ⟨[(S [51, 50, 55, 54, 55]), (S [53, 48, 48, 48])]⟩), (.bool true)]⟩)),
  (61, [(.agg ⟨[(S [51, 50, 55, 54, 55]), (S [49])]⟩), (.agg ⟨[(S [49]), (S [53, 48, 48, 48])]⟩)], (.tuple ⟨[(.agg ⟨[(S [51, 50, 55, 54, 55]), (S [53, 48, 48, 48])]⟩), (.int .i64 (.ofNat 0))]⟩)),
  (107, [(.agg ⟨[(.int .i64 (.ofNat 0)), (.int .i64 (.ofNat 1))]⟩), (.agg ⟨[(.int .i64 (.ofNat 32767)), (.int .i64 (.ofNat 5000))]⟩)], (.tuple ⟨[(.agg ⟨[(S [51, 50, 55, 54, 55]), (S [53, 48, 48, 48])]⟩), (.bool true)]⟩)),
  (64, [(.agg ⟨[(S [48]), (S [49])]⟩), (.agg ⟨[(S [51, 50, 55, 54, 55]), (S [53, 48, 48, 48])]⟩)], (.tuple ⟨[(.agg ⟨[(S [51, 50, 55, 54, 55]), (S [53, 48, 48, 48])]⟩), (.int .i64 (.ofNat 0))]⟩))]
set_option maxRecDepth 1000000 in
theorem c22 : chkS Tryz.prog G0 5 1000 T21 L22 = true := by kernel_rfl
def T22 : Tab := pushT T21 L22
theorem t22 : TOk Tryz.prog G0 T22 := chkS_tok routines tables mixed t21 c22
def L23 : Tab := [(46, [(.agg ⟨[(S [51, 50, 55, 54, 55]), (S [53, 48, 48, 48])]⟩)], (.int .i64 (.ofNat 0))),
  (80, [(.int .i64 (.ofNat 5000)), (.int .i64 (.ofNat 65535))], (.tuple ⟨[(.int .i64 (.ofNat 327675000)), (.bool true)]⟩)),
  (151, [(.int .i64 (.ofNat 327675000)), (.int .i64 (.ofNat 10))], (S [51, 50, 55, 54, 55, 53, 48, 48, 48])),
  (128, [(.int .i64 (.ofNat 327675000))], (S [51, 50, 55, 54, 55, 53, 48, 48, 48])),
  (91, [(.int .i64 (.ofNat 327675000))], (S [51, 50, 55, 54, 55, 53, 48, 48, 48])),
  (56, [(.agg ⟨[(.int .i64 (.ofNat 32767)), (.int .i64 (.ofNat 327675000))]⟩)], (.agg ⟨[(S [51, 50, 55, 54, 55]), (S [51, 50, 55, 54, 55, 53, 48, 48, 48])]⟩)),
  (99, [(.agg ⟨[(.int .i64 (.ofNat 32767)), (.int .i64 (.ofNat 5000))]⟩), (.agg ⟨[(.int .i64 (.ofNat 1)), (.int .i64 (.ofNat 65535))]⟩)], (.tuple ⟨[(.agg ⟨[(S [51, 50, 55, 54, 55]), (S [51, 50, 55, 54, 55, 53, 48, 48, 48])]⟩), (.bool true)]⟩)),
  (109, [(.agg ⟨[(.int .i64 (.ofNat 32767)), (.int .i64 (.ofNat 5000))]⟩), (.agg ⟨[(.int .i64 (.ofNat 65535)), (.int .i64 (.ofNat 1))]⟩)], (.tuple ⟨[(.agg ⟨[(S [51, 50, 55, 54, 55]), (S [51, 50, 55, 54, 55, 53, 48, 48, 48])]⟩), (.bool true)]⟩)),
  (65, [(.agg ⟨[(S [51, 50, 55, 54, 55]), (S [53, 48, 48, 48])]⟩), (.agg ⟨[(S [54, 53, 53, 51, 53]), (S [49])]⟩)], (.tuple ⟨[(.agg ⟨[(S [51, 50, 55, 54, 55]), (S [51, 50, 55, 54, 55, 53, 48, 48, 48])]⟩), (.int .i64 (.ofNat 0))]⟩)),
  (79, [(S [51, 50, 55, 54, 55, 53, 48, 48, 48])], (.tuple ⟨[(.int .i64 (.ofNat 327675000)), (.bool true)]⟩))]
set_option maxRecDepth 1000000 in
theorem c23 : chkS Tryz.prog G0 5 1000 T22 L23 = true := by kernel_rfl
def T23 : Tab := pushT T22 L23
theorem t23 : TOk Tryz.prog G0 T23 := chkS_tok routines tables mixed t22 c23
def L24 : Tab := [(54, [(.int .u64 (.ofNat 32767)), (.int .u64 (.ofNat 327675000))], (.int .u64 (.ofNat 1))),
  (47, [(.agg ⟨[(S [51, 50, 55, 54, 55]), (S [51, 50, 55, 54, 55, 53, 48, 48, 48])]⟩)], (.tuple ⟨[(.agg ⟨[(.int .i64 (.ofNat 32767)), (.int .i64 (.ofNat 327675000))]⟩), (.bool true)]⟩)),
  (46, [(.agg ⟨[(S [51, 50, 55, 54, 55]), (S [51, 50, 55, 54, 55, 53, 48, 48, 48])]⟩)], (.int .i64 (.ofNat 0))),
  (48, [(.agg ⟨[(.int .i64 (.ofNat 32767)), (.int .i64 (.ofNat 327675000))]⟩), (.int .i64 (.ofNat 10000))], (.tuple ⟨[(.int .i64 (.ofNat 1)), (.bool true)]⟩)),
  (33, [(.agg ⟨[(S [51, 50, 55, 54, 55]), (S [51, 50, 55, 54, 55, 53, 48, 48, 48])]⟩), (.int .i64 (.ofNat 10000))], (.tuple ⟨[(.int .i64 (.ofNat 1)), (.int .i64 (.ofNat 0))]⟩))]
set_option maxRecDepth 1000000 in
theorem c24 : chkS Tryz.prog G0 5 1000 T23 L24 = true := by kernel_rfl
def T24 : Tab := pushT T23 L24
theorem t24 : TOk Tryz.prog G0 T24 := chkS_tok routines tables mixed t23 c24
end Ev
end Go.Proofs.YtcgkjpmaiglcmabGreatDoor
