/- InkKnown: the closed calls that it makes and what they give, each run by the kernel, and from that known in every world that has the tables. -/
import Derived.Test.YtcgkjpmaiglcmabGreatDoorProg
import Derived.Test.YtcgkjpmaiglcmabGreatDoorEvM
import Derived.KernelRfl
namespace Go.Proofs.YtcgkjpmaiglcmabGreatDoor
namespace Ev
def S (l : List Nat) : Value := .string ⟨⟨l.map UInt8.ofNat⟩⟩
def G0 : List (Nat × List Value) := [(0, [(.int .u8 (.ofNat 0)), (.int .u8 (.ofNat 1)), (.int .u8 (.ofNat 56)), (.int .u8 (.ofNat 2)), (.int .u8 (.ofNat 57)), (.int .u8 (.ofNat 49)), (.int .u8 (.ofNat 28)), (.int .u8 (.ofNat 3)), (.int .u8 (.ofNat 61)), (.int .u8 (.ofNat 58)), (.int .u8 (.ofNat 42)), (.int .u8 (.ofNat 50)), (.int .u8 (.ofNat 38)), (.int .u8 (.ofNat 29)), (.int .u8 (.ofNat 17)), (.int .u8 (.ofNat 4)), (.int .u8 (.ofNat 62)), (.int .u8 (.ofNat 47)), (.int .u8 (.ofNat 59)), (.int .u8 (.ofNat 36)), (.int .u8 (.ofNat 45)), (.int .u8 (.ofNat 43)), (.int .u8 (.ofNat 51)), (.int .u8 (.ofNat 22)), (.int .u8 (.ofNat 53)), (.int .u8 (.ofNat 39)), (.int .u8 (.ofNat 33)), (.int .u8 (.ofNat 30)), (.int .u8 (.ofNat 24)), (.int .u8 (.ofNat 18)), (.int .u8 (.ofNat 12)), (.int .u8 (.ofNat 5)), (.int .u8 (.ofNat 63)), (.int .u8 (.ofNat 55)), (.int .u8 (.ofNat 48)), (.int .u8 (.ofNat 27)), (.int .u8 (.ofNat 60)), (.int .u8 (.ofNat 41)), (.int .u8 (.ofNat 37)), (.int .u8 (.ofNat 16)), (.int .u8 (.ofNat 46)), (.int .u8 (.ofNat 35)), (.int .u8 (.ofNat 44)), (.int .u8 (.ofNat 21)), (.int .u8 (.ofNat 52)), (.int .u8 (.ofNat 32)), (.int .u8 (.ofNat 23)), (.int .u8 (.ofNat 11)), (.int .u8 (.ofNat 54)), (.int .u8 (.ofNat 26)), (.int .u8 (.ofNat 40)), (.int .u8 (.ofNat 15)), (.int .u8 (.ofNat 34)), (.int .u8 (.ofNat 20)), (.int .u8 (.ofNat 31)), (.int .u8 (.ofNat 10)), (.int .u8 (.ofNat 25)), (.int .u8 (.ofNat 14)), (.int .u8 (.ofNat 19)), (.int .u8 (.ofNat 9)), (.int .u8 (.ofNat 13)), (.int .u8 (.ofNat 8)), (.int .u8 (.ofNat 7)), (.int .u8 (.ofNat 6))]), (192, [(.int .u64 (.ofNat 1)), (.int .u64 (.ofNat 10)), (.int .u64 (.ofNat 100)), (.int .u64 (.ofNat 1000)), (.int .u64 (.ofNat 10000)), (.int .u64 (.ofNat 100000)), (.int .u64 (.ofNat 1000000)), (.int .u64 (.ofNat 10000000)), (.int .u64 (.ofNat 100000000)), (.int .u64 (.ofNat 1000000000)), (.int .u64 (.ofNat 10000000000)), (.int .u64 (.ofNat 100000000000)), (.int .u64 (.ofNat 1000000000000)), (.int .u64 (.ofNat 10000000000000)), (.int .u64 (.ofNat 100000000000000)), (.int .u64 (.ofNat 1000000000000000)), (.int .u64 (.ofNat 10000000000000000)), (.int .u64 (.ofNat 100000000000000000)), (.int .u64 (.ofNat 1000000000000000000)), (.int .u64 (.ofNat 10000000000000000000))])]
theorem routines_all : (Tryz.prog.funcs.toList.all fun fn => !(fn.name == "runtime.NumGoroutine")) = true := by kernel_rfl
theorem routines : noRoutines Tryz.prog := fun f fn h => by
  have h1 := List.all_eq_true.1 routines_all fn (by rw [← Array.getElem?_toList] at h; exact List.mem_of_getElem? h)
  simpa using h1
theorem mixed : Tryz.prog.follows .mixedOrders = true := by kernel_rfl
theorem tables : glOk 5 G0 = true := by kernel_rfl
def T0 : Tab := []
theorem t0 : TOk Tryz.prog G0 T0 := tok_nil _ _
def L1 : Tab := [(16, [(.agg ⟨[(.int .i64 (.ofNat 100)), (.int .i64 (.ofNat 100)), (.int .i64 (.ofNat 100)), (.int .i64 (.ofNat 100))]⟩), (.int .i64 (.ofNat 65535))], (.bool true)),
  (21, [(.agg ⟨[(.int .i64 (.ofNat 100)), (.int .i64 (.ofNat 100)), (.int .i64 (.ofNat 100)), (.int .i64 (.ofNat 100))]⟩), (.int .i64 (.ofNat 300))], (.agg ⟨[(.int .i64 (.ofNat 66)), (.int .i64 (.ofNat 66)), (.int .i64 (.ofNat 66)), (.int .i64 (.ofNat 100))]⟩)),
  (20, [(.int .i64 (.ofNat 0)), (.int .i64 (.ofNat 300)), (.func (.func 21) ⟨[(.agg ⟨[(.int .i64 (.ofNat 100)), (.int .i64 (.ofNat 100)), (.int .i64 (.ofNat 100)), (.int .i64 (.ofNat 100))]⟩)]⟩ ⟨[]⟩)], (.tuple ⟨[(.agg ⟨[(.int .i64 (.ofNat 66)), (.int .i64 (.ofNat 66)), (.int .i64 (.ofNat 66)), (.int .i64 (.ofNat 100))]⟩), (.int .i64 (.ofNat 0))]⟩)),
  (7, [(.agg ⟨[(.int .i64 (.ofNat 100)), (.int .i64 (.ofNat 100)), (.int .i64 (.ofNat 100)), (.int .i64 (.ofNat 100))]⟩), (.int .i64 (.ofNat 300))], (.tuple ⟨[(.agg ⟨[(.int .i64 (.ofNat 66)), (.int .i64 (.ofNat 66)), (.int .i64 (.ofNat 66)), (.int .i64 (.ofNat 100))]⟩), (.int .i64 (.ofNat 0))]⟩)),
  (21, [(.agg ⟨[(.int .i64 (.ofNat 100)), (.int .i64 (.ofNat 100)), (.int .i64 (.ofNat 100)), (.int .i64 (.ofNat 100))]⟩), (.int .i64 (.ofNat 400))], (.agg ⟨[(.int .i64 (.ofNat 100)), (.int .i64 (.ofNat 100)), (.int .i64 (.ofNat 100)), (.int .i64 (.ofNat 100))]⟩)),
  (20, [(.int .i64 (.ofNat 0)), (.int .i64 (.ofNat 400)), (.func (.func 21) ⟨[(.agg ⟨[(.int .i64 (.ofNat 100)), (.int .i64 (.ofNat 100)), (.int .i64 (.ofNat 100)), (.int .i64 (.ofNat 100))]⟩)]⟩ ⟨[]⟩)], (.tuple ⟨[(.agg ⟨[(.int .i64 (.ofNat 100)), (.int .i64 (.ofNat 100)), (.int .i64 (.ofNat 100)), (.int .i64 (.ofNat 100))]⟩), (.int .i64 (.ofNat 0))]⟩)),
  (7, [(.agg ⟨[(.int .i64 (.ofNat 100)), (.int .i64 (.ofNat 100)), (.int .i64 (.ofNat 100)), (.int .i64 (.ofNat 100))]⟩), (.int .i64 (.ofNat 400))], (.tuple ⟨[(.agg ⟨[(.int .i64 (.ofNat 100)), (.int .i64 (.ofNat 100)), (.int .i64 (.ofNat 100)), (.int .i64 (.ofNat 100))]⟩), (.int .i64 (.ofNat 0))]⟩)),
  (16, [(.agg ⟨[(.int .i64 (.ofNat 10)), (.int .i64 (.ofNat 20)), (.int .i64 (.ofNat 30)), (.int .i64 (.ofNat 50))]⟩), (.int .i64 (.ofNat 65535))], (.bool true)),
  (21, [(.agg ⟨[(.int .i64 (.ofNat 10)), (.int .i64 (.ofNat 20)), (.int .i64 (.ofNat 30)), (.int .i64 (.ofNat 50))]⟩), (.int .i64 (.ofNat 40))], (.agg ⟨[(.int .i64 (.ofNat 0)), (.int .i64 (.ofNat 0)), (.int .i64 (.ofNat 0)), (.int .i64 (.ofNat 40))]⟩)),
  (20, [(.int .i64 (.ofNat 0)), (.int .i64 (.ofNat 40)), (.func (.func 21) ⟨[(.agg ⟨[(.int .i64 (.ofNat 10)), (.int .i64 (.ofNat 20)), (.int .i64 (.ofNat 30)), (.int .i64 (.ofNat 50))]⟩)]⟩ ⟨[]⟩)], (.tuple ⟨[(.agg ⟨[(.int .i64 (.ofNat 0)), (.int .i64 (.ofNat 0)), (.int .i64 (.ofNat 0)), (.int .i64 (.ofNat 40))]⟩), (.int .i64 (.ofNat 0))]⟩)),
  (7, [(.agg ⟨[(.int .i64 (.ofNat 10)), (.int .i64 (.ofNat 20)), (.int .i64 (.ofNat 30)), (.int .i64 (.ofNat 50))]⟩), (.int .i64 (.ofNat 40))], (.tuple ⟨[(.agg ⟨[(.int .i64 (.ofNat 0)), (.int .i64 (.ofNat 0)), (.int .i64 (.ofNat 0)), (.int .i64 (.ofNat 40))]⟩), (.int .i64 (.ofNat 0))]⟩)),
  (16, [(.agg ⟨[(.int .i64 (.ofNat 0)), (.int .i64 (.ofNat 0)), (.int .i64 (.ofNat 0)), (.int .i64 (.ofNat 9))]⟩), (.int .i64 (.ofNat 65535))], (.bool true)),
  (21, [(.agg ⟨[(.int .i64 (.ofNat 0)), (.int .i64 (.ofNat 0)), (.int .i64 (.ofNat 0)), (.int .i64 (.ofNat 9))]⟩), (.int .i64 (.ofNat 5))], (.agg ⟨[(.int .i64 (.ofNat 0)), (.int .i64 (.ofNat 0)), (.int .i64 (.ofNat 0)), (.int .i64 (.ofNat 5))]⟩)),
  (20, [(.int .i64 (.ofNat 0)), (.int .i64 (.ofNat 5)), (.func (.func 21) ⟨[(.agg ⟨[(.int .i64 (.ofNat 0)), (.int .i64 (.ofNat 0)), (.int .i64 (.ofNat 0)), (.int .i64 (.ofNat 9))]⟩)]⟩ ⟨[]⟩)], (.tuple ⟨[(.agg ⟨[(.int .i64 (.ofNat 0)), (.int .i64 (.ofNat 0)), (.int .i64 (.ofNat 0)), (.int .i64 (.ofNat 5))]⟩), (.int .i64 (.ofNat 0))]⟩)),
  (7, [(.agg ⟨[(.int .i64 (.ofNat 0)), (.int .i64 (.ofNat 0)), (.int .i64 (.ofNat 0)), (.int .i64 (.ofNat 9))]⟩), (.int .i64 (.ofNat 5))], (.tuple ⟨[(.agg ⟨[(.int .i64 (.ofNat 0)), (.int .i64 (.ofNat 0)), (.int .i64 (.ofNat 0)), (.int .i64 (.ofNat 5))]⟩), (.int .i64 (.ofNat 0))]⟩)),
  (16, [(.agg ⟨[(.int .i64 (.ofNat 5000)), (.int .i64 (.ofNat 6000)), (.int .i64 (.ofNat 7000)), (.int .i64 (.ofNat 0))]⟩), (.int .i64 (.ofNat 10000))], (.bool true))]
set_option maxRecDepth 1000000 in
theorem c1 : chkS Tryz.prog G0 5 1000 T0 L1 = true := by kernel_rfl
def T1 : Tab := pushT T0 L1
theorem t1 : TOk Tryz.prog G0 T1 := chkS_tok routines tables mixed t0 c1
def L2 : Tab := [(10, [(.agg ⟨[(.int .i64 (.ofNat 1)), (.slice none 0 0), (.slice none 0 0), (.int .i64 (.ofNat 10000))]⟩)], (.int .i64 (.ofNat 0))),
  (54, [(.int .u64 (.ofNat 5000)), (.int .u64 (.ofNat 10000))], (.int .u64 (.ofNat 5000))),
  (56, [(.agg ⟨[(.int .i64 (.ofNat 1)), (.int .i64 (.ofNat 2))]⟩)], (.agg ⟨[(S [49]), (S [50])]⟩)),
  (35, [(.int .i64 (.ofNat 5000)), (.int .i64 (.ofNat 10000))], (.tuple ⟨[(.agg ⟨[(S [49]), (S [50])]⟩), (.bool true)]⟩)),
  (31, [(.int .i64 (.ofNat 5000)), (.int .i64 (.ofNat 10000))], (.tuple ⟨[(.agg ⟨[(S [49]), (S [50])]⟩), (.int .i64 (.ofNat 0))]⟩)),
  (56, [(.agg ⟨[(.int .i64 (.ofNat 0)), (.int .i64 (.ofNat 1))]⟩)], (.agg ⟨[(S [48]), (S [49])]⟩)),
  (35, [(.int .i64 (.ofNat 0)), (.int .i64 (.ofNat 1))], (.tuple ⟨[(.agg ⟨[(S [48]), (S [49])]⟩), (.bool true)]⟩)),
  (31, [(.int .i64 (.ofNat 0)), (.int .i64 (.ofNat 1))], (.tuple ⟨[(.agg ⟨[(S [48]), (S [49])]⟩), (.int .i64 (.ofNat 0))]⟩)),
  (45, [(.int .i64 (.ofNat 0)), (.int .i64 (.ofNat 1))], (.agg ⟨[(S [48]), (S [49])]⟩)),
  (54, [(.int .u64 (.ofNat 1)), (.int .u64 (.ofNat 1))], (.int .u64 (.ofNat 1))),
  (56, [(.agg ⟨[(.int .i64 (.ofNat 1)), (.int .i64 (.ofNat 1))]⟩)], (.agg ⟨[(S [49]), (S [49])]⟩)),
  (35, [(.int .i64 (.ofNat 1)), (.int .i64 (.ofNat 1))], (.tuple ⟨[(.agg ⟨[(S [49]), (S [49])]⟩), (.bool true)]⟩)),
  (31, [(.int .i64 (.ofNat 1)), (.int .i64 (.ofNat 1))], (.tuple ⟨[(.agg ⟨[(S [49]), (S [49])]⟩), (.int .i64 (.ofNat 0))]⟩)),
  (45, [(.int .i64 (.ofNat 1)), (.int .i64 (.ofNat 1))], (.agg ⟨[(S [49]), (S [49])]⟩)),
  (54, [(.int .u64 (.ofNat 1)), (.int .u64 (.ofNat 2))], (.int .u64 (.ofNat 1))),
  (47, [(.agg ⟨[(S [49]), (S [50])]⟩)], (.tuple ⟨[(.agg ⟨[(.int .i64 (.ofNat 1)), (.int .i64 (.ofNat 2))]⟩), (.bool true)]⟩)),
  (46, [(.agg ⟨[(S [49]), (S [50])]⟩)], (.int .i64 (.ofNat 0)))]
set_option maxRecDepth 1000000 in
theorem c2 : chkS Tryz.prog G0 5 1000 T1 L2 = true := by kernel_rfl
def T2 : Tab := pushT T1 L2
theorem t2 : TOk Tryz.prog G0 T2 := chkS_tok routines tables mixed t1 c2
def L3 : Tab := [(47, [(.agg ⟨[(S [48]), (S [49])]⟩)], (.tuple ⟨[(.agg ⟨[(.int .i64 (.ofNat 0)), (.int .i64 (.ofNat 1))]⟩), (.bool true)]⟩)),
  (46, [(.agg ⟨[(S [48]), (S [49])]⟩)], (.int .i64 (.ofNat 0))),
  (47, [(.agg ⟨[(S [49]), (S [49])]⟩)], (.tuple ⟨[(.agg ⟨[(.int .i64 (.ofNat 1)), (.int .i64 (.ofNat 1))]⟩), (.bool true)]⟩)),
  (46, [(.agg ⟨[(S [49]), (S [49])]⟩)], (.int .i64 (.ofNat 0))),
  (117, [(.agg ⟨[(.int .i64 (.ofNat 0)), (.int .i64 (.ofNat 1))]⟩), (.agg ⟨[(.int .i64 (.ofNat 1)), (.int .i64 (.ofNat 1))]⟩)], (.tuple ⟨[(.int .i64 (.negSucc 0)), (.bool true)]⟩)),
  (116, [(.agg ⟨[(S [48]), (S [49])]⟩), (.agg ⟨[(S [49]), (S [49])]⟩), (.func (.func 117) ⟨[]⟩ ⟨[]⟩), (.func (.func 118) ⟨[]⟩ ⟨[]⟩)], (.tuple ⟨[(.int .i64 (.negSucc 0)), (.int .i64 (.ofNat 0))]⟩)),
  (76, [(.agg ⟨[(S [48]), (S [49])]⟩), (.agg ⟨[(S [49]), (S [49])]⟩)], (.tuple ⟨[(.int .i64 (.negSucc 0)), (.int .i64 (.ofNat 0))]⟩)),
  (117, [(.agg ⟨[(.int .i64 (.ofNat 1)), (.int .i64 (.ofNat 2))]⟩), (.agg ⟨[(.int .i64 (.ofNat 0)), (.int .i64 (.ofNat 1))]⟩)], (.tuple ⟨[(.int .i64 (.ofNat 1)), (.bool true)]⟩)),
  (116, [(.agg ⟨[(S [49]), (S [50])]⟩), (.agg ⟨[(S [48]), (S [49])]⟩), (.func (.func 117) ⟨[]⟩ ⟨[]⟩), (.func (.func 118) ⟨[]⟩ ⟨[]⟩)], (.tuple ⟨[(.int .i64 (.ofNat 1)), (.int .i64 (.ofNat 0))]⟩)),
  (76, [(.agg ⟨[(S [49]), (S [50])]⟩), (.agg ⟨[(S [48]), (S [49])]⟩)], (.tuple ⟨[(.int .i64 (.ofNat 1)), (.int .i64 (.ofNat 0))]⟩)),
  (115, [(.agg ⟨[(S [49]), (S [50])]⟩), (.agg ⟨[(S [48]), (S [49])]⟩), (.int .i64 (.ofNat 1))], (.tuple ⟨[(.agg ⟨[(S [49]), (S [50])]⟩), (.int .i64 (.ofNat 0))]⟩)),
  (71, [(.agg ⟨[(S [49]), (S [50])]⟩), (.agg ⟨[(S [48]), (S [49])]⟩)], (.tuple ⟨[(.agg ⟨[(S [49]), (S [50])]⟩), (.int .i64 (.ofNat 0))]⟩)),
  (117, [(.agg ⟨[(.int .i64 (.ofNat 1)), (.int .i64 (.ofNat 2))]⟩), (.agg ⟨[(.int .i64 (.ofNat 1)), (.int .i64 (.ofNat 1))]⟩)], (.tuple ⟨[(.int .i64 (.negSucc 0)), (.bool true)]⟩))]
set_option maxRecDepth 1000000 in
theorem c3 : chkS Tryz.prog G0 5 1000 T2 L3 = true := by kernel_rfl
def T3 : Tab := pushT T2 L3
theorem t3 : TOk Tryz.prog G0 T3 := chkS_tok routines tables mixed t2 c3
def L4 : Tab := [(116, [(.agg ⟨[(S [49]), (S [50])]⟩), (.agg ⟨[(S [49]), (S [49])]⟩), (.func (.func 117) ⟨[]⟩ ⟨[]⟩), (.func (.func 118) ⟨[]⟩ ⟨[]⟩)], (.tuple ⟨[(.int .i64 (.negSucc 0)), (.int .i64 (.ofNat 0))]⟩)),
  (76, [(.agg ⟨[(S [49]), (S [50])]⟩), (.agg ⟨[(S [49]), (S [49])]⟩)], (.tuple ⟨[(.int .i64 (.negSucc 0)), (.int .i64 (.ofNat 0))]⟩)),
  (115, [(.agg ⟨[(S [49]), (S [50])]⟩), (.agg ⟨[(S [49]), (S [49])]⟩), (.int .i64 (.negSucc 0))], (.tuple ⟨[(.agg ⟨[(S [49]), (S [50])]⟩), (.int .i64 (.ofNat 0))]⟩)),
  (77, [(.agg ⟨[(S [49]), (S [50])]⟩), (.agg ⟨[(S [49]), (S [49])]⟩)], (.tuple ⟨[(.agg ⟨[(S [49]), (S [50])]⟩), (.int .i64 (.ofNat 0))]⟩)),
  (44, [(.agg ⟨[(S [49]), (S [50])]⟩), (.agg ⟨[(S [48]), (S [49])]⟩), (.agg ⟨[(S [49]), (S [49])]⟩)], (.tuple ⟨[(.agg ⟨[(S [49]), (S [50])]⟩), (.int .i64 (.ofNat 0))]⟩)),
  (32, [(.agg ⟨[(.int .i64 (.ofNat 1)), (.slice none 0 0), (.slice none 0 0)]⟩), (.agg ⟨[(S [49]), (S [50])]⟩)], (.tuple ⟨[(.agg ⟨[(S [49]), (S [50])]⟩), (.int .i64 (.ofNat 0))]⟩))]
set_option maxRecDepth 1000000 in
theorem c4 : chkS Tryz.prog G0 5 1000 T3 L4 = true := by kernel_rfl
def T4 : Tab := pushT T3 L4
theorem t4 : TOk Tryz.prog G0 T4 := chkS_tok routines tables mixed t3 c4
end Ev
end Go.Proofs.YtcgkjpmaiglcmabGreatDoor
