/- LabKnown: the closed calls that it makes, and some calls in a state of memory, with what each gives: lists, nothing proved. -/
import Derived.Test.YtmijdboikfhbiaaGreatDoorProg
import Derived.Test.YtmijdboikfhbiaaGreatDoorEvM
import Derived.KernelRfl
namespace Go.Proofs.YtmijdboikfhbiaaGreatDoor
open Go.RowKit
namespace Ev
set_option maxHeartbeats 4000000
def S (l : List Nat) : Value := .string ⟨⟨l.map UInt8.ofNat⟩⟩
def I (n : Nat) : Value := .int .i64 (.ofNat n)
def U (n : Nat) : Value := .int .u8 (.ofNat n)
def A (l : List Value) : Value := .agg ⟨l⟩
def C (b o n c : Nat) : Value := .slice (some ⟨b, o, none⟩) n c
def Z (b o : Nat) : Value := .pointer (some ⟨b, o, none⟩)
def G0 : List (Nat × List Value) := [(256, [(.int .u8 (.ofNat 0)), (.int .u8 (.ofNat 1)), (.int .u8 (.ofNat 28)), (.int .u8 (.ofNat 2)), (.int .u8 (.ofNat 29)), (.int .u8 (.ofNat 14)), (.int .u8 (.ofNat 24)), (.int .u8 (.ofNat 3)), (.int .u8 (.ofNat 30)), (.int .u8 (.ofNat 22)), (.int .u8 (.ofNat 20)), (.int .u8 (.ofNat 15)), (.int .u8 (.ofNat 25)), (.int .u8 (.ofNat 17)), (.int .u8 (.ofNat 4)), (.int .u8 (.ofNat 8)), (.int .u8 (.ofNat 31)), (.int .u8 (.ofNat 27)), (.int .u8 (.ofNat 13)), (.int .u8 (.ofNat 23)), (.int .u8 (.ofNat 21)), (.int .u8 (.ofNat 19)), (.int .u8 (.ofNat 16)), (.int .u8 (.ofNat 7)), (.int .u8 (.ofNat 26)), (.int .u8 (.ofNat 12)), (.int .u8 (.ofNat 18)), (.int .u8 (.ofNat 6)), (.int .u8 (.ofNat 11)), (.int .u8 (.ofNat 5)), (.int .u8 (.ofNat 10)), (.int .u8 (.ofNat 9))]), (128, [(.int .u8 (.ofNat 0)), (.int .u8 (.ofNat 1)), (.int .u8 (.ofNat 56)), (.int .u8 (.ofNat 2)), (.int .u8 (.ofNat 57)), (.int .u8 (.ofNat 49)), (.int .u8 (.ofNat 28)), (.int .u8 (.ofNat 3)), (.int .u8 (.ofNat 61)), (.int .u8 (.ofNat 58)), (.int .u8 (.ofNat 42)), (.int .u8 (.ofNat 50)), (.int .u8 (.ofNat 38)), (.int .u8 (.ofNat 29)), (.int .u8 (.ofNat 17)), (.int .u8 (.ofNat 4)), (.int .u8 (.ofNat 62)), (.int .u8 (.ofNat 47)), (.int .u8 (.ofNat 59)), (.int .u8 (.ofNat 36)), (.int .u8 (.ofNat 45)), (.int .u8 (.ofNat 43)), (.int .u8 (.ofNat 51)), (.int .u8 (.ofNat 22)), (.int .u8 (.ofNat 53)), (.int .u8 (.ofNat 39)), (.int .u8 (.ofNat 33)), (.int .u8 (.ofNat 30)), (.int .u8 (.ofNat 24)), (.int .u8 (.ofNat 18)), (.int .u8 (.ofNat 12)), (.int .u8 (.ofNat 5)), (.int .u8 (.ofNat 63)), (.int .u8 (.ofNat 55)), (.int .u8 (.ofNat 48)), (.int .u8 (.ofNat 27)), (.int .u8 (.ofNat 60)), (.int .u8 (.ofNat 41)), (.int .u8 (.ofNat 37)), (.int .u8 (.ofNat 16)), (.int .u8 (.ofNat 46)), (.int .u8 (.ofNat 35)), (.int .u8 (.ofNat 44)), (.int .u8 (.ofNat 21)), (.int .u8 (.ofNat 52)), (.int .u8 (.ofNat 32)), (.int .u8 (.ofNat 23)), (.int .u8 (.ofNat 11)), (.int .u8 (.ofNat 54)), (.int .u8 (.ofNat 26)), (.int .u8 (.ofNat 40)), (.int .u8 (.ofNat 15)), (.int .u8 (.ofNat 34)), (.int .u8 (.ofNat 20)), (.int .u8 (.ofNat 31)), (.int .u8 (.ofNat 10)), (.int .u8 (.ofNat 25)), (.int .u8 (.ofNat 14)), (.int .u8 (.ofNat 19)), (.int .u8 (.ofNat 9)), (.int .u8 (.ofNat 13)), (.int .u8 (.ofNat 8)), (.int .u8 (.ofNat 7)), (.int .u8 (.ofNat 6))]), (192, [(.int .u64 (.ofNat 1)), (.int .u64 (.ofNat 10)), (.int .u64 (.ofNat 100)), (.int .u64 (.ofNat 1000)), (.int .u64 (.ofNat 10000)), (.int .u64 (.ofNat 100000)), (.int .u64 (.ofNat 1000000)), (.int .u64 (.ofNat 10000000)), (.int .u64 (.ofNat 100000000)), (.int .u64 (.ofNat 1000000000)), (.int .u64 (.ofNat 10000000000)), (.int .u64 (.ofNat 100000000000)), (.int .u64 (.ofNat 1000000000000)), (.int .u64 (.ofNat 10000000000000)), (.int .u64 (.ofNat 100000000000000)), (.int .u64 (.ofNat 1000000000000000)), (.int .u64 (.ofNat 10000000000000000)), (.int .u64 (.ofNat 100000000000000000)), (.int .u64 (.ofNat 1000000000000000000)), (.int .u64 (.ofNat 10000000000000000000))])]
def gq (i : Nat) : Nat × List Value := (i, (look G0 i).getD [])
def T0 : Tab := (Tab.mk .e .e)
def L1 : List (Sum (FuncId × List Value × Value) KC) := [.inl (135, [(.int .u64 (.ofNat 1)), (.int .u64 (.ofNat 1))], (.int .u64 (.ofNat 1))),
  .inl (137, [(A [(I 1), (I 1)])], (A [(S [49]), (S [49])])),
  .inl (81, [(I 1), (I 1)], (.tuple ⟨[(A [(S [49]), (S [49])]), (.bool true)]⟩)),
  .inl (5, [(I 1), (I 1), (I 1), (I 1)], (A [(S [49]), (S [49]), (S [49]), (S [49]), (S [49]), (S [49])])),
  .inl (135, [(.int .u64 (.ofNat 9)), (.int .u64 (.ofNat 10))], (.int .u64 (.ofNat 1))),
  .inl (137, [(A [(I 9), (I 10)])], (A [(S [57]), (S [49, 48])])),
  .inl (81, [(I 9), (I 10)], (.tuple ⟨[(A [(S [57]), (S [49, 48])]), (.bool true)]⟩)),
  .inl (135, [(.int .u64 (.ofNat 10)), (.int .u64 (.ofNat 10))], (.int .u64 (.ofNat 10))),
  .inl (81, [(I 10), (I 10)], (.tuple ⟨[(A [(S [49]), (S [49])]), (.bool true)]⟩)),
  .inl (135, [(.int .u64 (.ofNat 11)), (.int .u64 (.ofNat 10))], (.int .u64 (.ofNat 1))),
  .inl (137, [(A [(I 11), (I 10)])], (A [(S [49, 49]), (S [49, 48])])),
  .inl (81, [(I 11), (I 10)], (.tuple ⟨[(A [(S [49, 49]), (S [49, 48])]), (.bool true)]⟩)),
  .inl (5, [(I 9), (I 10), (I 11), (I 10)], (A [(S [57]), (S [49, 48]), (S [49]), (S [49]), (S [49, 49]), (S [49, 48])])),
  .inl (174, [(S [57])], (.tuple ⟨[(I 9), (.bool true)]⟩)),
  .inl (174, [(S [49, 48])], (.tuple ⟨[(I 10), (.bool true)]⟩)),
  .inl (125, [(A [(S [57]), (S [49, 48])])], (.tuple ⟨[(A [(I 9), (I 10)]), (.bool true)]⟩)),
  .inl (174, [(S [49])], (.tuple ⟨[(I 1), (.bool true)]⟩)),
  .inl (125, [(A [(S [49]), (S [49])])], (.tuple ⟨[(A [(I 1), (I 1)]), (.bool true)]⟩)),
  .inl (174, [(S [49, 49])], (.tuple ⟨[(I 11), (.bool true)]⟩)),
  .inl (125, [(A [(S [49, 49]), (S [49, 48])])], (.tuple ⟨[(A [(I 11), (I 10)]), (.bool true)]⟩)),
  .inl (77, [(S [57])], (.tuple ⟨[(I 1), (I 0)]⟩)),
  .inl (77, [(S [49])], (.tuple ⟨[(I 1), (I 0)]⟩))]
def T1 : Tab := pushT T0 L1
def L2 : List (Sum (FuncId × List Value × Value) KC) := [.inl (77, [(S [49, 49])], (.tuple ⟨[(I 1), (I 0)]⟩)),
  .inl (57, [(A [(S [57]), (S [49, 48]), (S [49]), (S [49]), (S [49, 49]), (S [49, 48])]), (I 0)], (I 0)),
  .inl (57, [(A [(S [57]), (S [49, 48]), (S [49]), (S [49]), (S [49, 49]), (S [49, 48])]), (I 1)], (I 0)),
  .inl (135, [(.int .u64 (.ofNat 9)), (.int .u64 (.ofNat 9))], (.int .u64 (.ofNat 9))),
  .inl (142, [(.int .u64 (.ofNat 1)), (.int .u64 (.ofNat 1))], (.tuple ⟨[(.int .u64 (.ofNat 0)), (.int .u64 (.ofNat 1))]⟩)),
  .inl (178, [(I 1), (I 1)], (.tuple ⟨[(I 1), (.bool true)]⟩)),
  .inl (131, [(A [(I 9), (I 10)]), (A [(I 10), (I 9)])], (.tuple ⟨[(A [(S [49]), (S [49])]), (.bool true)]⟩)),
  .inl (65, [(A [(S [57]), (S [49, 48])]), (A [(S [57]), (S [49, 48])])], (.tuple ⟨[(A [(S [49]), (S [49])]), (I 0)]⟩)),
  .inl (135, [(.int .u64 (.ofNat 216)), (.int .u64 (.ofNat 24389))], (.int .u64 (.ofNat 1))),
  .inl (224, [(I 216), (I 10)], (S [50, 49, 54])),
  .inl (227, [(.int .u64 (.ofNat 24389))], (I 5)),
  .inl (224, [(I 24389), (I 10)], (S [50, 52, 51, 56, 57])),
  .inl (81, [(I 216), (I 24389)], (.tuple ⟨[(A [(S [50, 49, 54]), (S [50, 52, 51, 56, 57])]), (.bool true)]⟩)),
  .inl (174, [(S [50, 49, 54])], (.tuple ⟨[(I 216), (.bool true)]⟩))]
def T2 : Tab := pushT T1 L2
def L3 : List (Sum (FuncId × List Value × Value) KC) := [.inl (174, [(S [50, 52, 51, 56, 57])], (.tuple ⟨[(I 24389), (.bool true)]⟩)),
  .inl (125, [(A [(S [50, 49, 54]), (S [50, 52, 51, 56, 57])])], (.tuple ⟨[(A [(I 216), (I 24389)]), (.bool true)]⟩)),
  .inl (142, [(.int .u64 (.ofNat 1)), (.int .u64 (.ofNat 24389))], (.tuple ⟨[(.int .u64 (.ofNat 0)), (.int .u64 (.ofNat 24389))]⟩)),
  .inl (142, [(.int .u64 (.ofNat 216)), (.int .u64 (.ofNat 1))], (.tuple ⟨[(.int .u64 (.ofNat 0)), (.int .u64 (.ofNat 216))]⟩)),
  .inl (162, [(A [(I 1), (I 1)]), (A [(I 216), (I 24389)])], (.tuple ⟨[(I 1), (.bool true)]⟩)),
  .inl (161, [(A [(S [49]), (S [49])]), (A [(S [50, 49, 54]), (S [50, 52, 51, 56, 57])]), (.func (.func 162) ⟨[]⟩ ⟨[]⟩), (.func (.func 163) ⟨[]⟩ ⟨[]⟩)], (.tuple ⟨[(I 1), (I 0)]⟩)),
  .inl (142, [(.int .u64 (.ofNat 1)), (.int .u64 (.ofNat 2000000000000))], (.tuple ⟨[(.int .u64 (.ofNat 0)), (.int .u64 (.ofNat 2000000000000))]⟩)),
  .inl (178, [(I 1), (I 2000000000000)], (.tuple ⟨[(I 2000000000000), (.bool true)]⟩)),
  .inl (193, [(A [(I 1), (I 1)]), (I 1000000000000)], (.tuple ⟨[(I 1000000000000), (.bool true)]⟩)),
  .inl (147, [(A [(S [49]), (S [49])]), (I 1000000000000)], (.tuple ⟨[(I 1000000000000), (I 0)]⟩)),
  .inl (135, [(.int .u64 (.ofNat 1000000000000)), (.int .u64 (.ofNat 1000000000000))], (.int .u64 (.ofNat 1000000000000))),
  .inl (81, [(I 1000000000000), (I 1000000000000)], (.tuple ⟨[(A [(S [49]), (S [49])]), (.bool true)]⟩)),
  .inl (162, [(A [(I 1), (I 1)]), (A [(I 1), (I 1)])], (.tuple ⟨[(I 0), (.bool true)]⟩)),
  .inl (111, [(A [(S [49]), (S [49])]), (A [(S [49]), (S [49])])], (.tuple ⟨[(I 0), (I 0)]⟩)),
  .inl (93, [(A [(S [49]), (S [49])])], (.tuple ⟨[(A [(I 1000000000000), (I 1000000000000)]), (I 0)]⟩)),
  .inl (204, [(A [(I 1), (I 3)])], (.bool true)),
  .inl (165, [(I 1), (I 3)], (.tuple ⟨[(A [(I 1), (I 3)]), (I 0)]⟩)),
  .inl (142, [(.int .u64 (.ofNat 1)), (.int .u64 (.ofNat 1000000000000))], (.tuple ⟨[(.int .u64 (.ofNat 0)), (.int .u64 (.ofNat 1000000000000))]⟩)),
  .inl (201, [(I 6)], (.int .u64 (.ofNat 1000000))),
  .inl (142, [(.int .u64 (.ofNat 1000000000000)), (.int .u64 (.ofNat 1000000))], (.tuple ⟨[(.int .u64 (.ofNat 0)), (.int .u64 (.ofNat 1000000000000000000))]⟩)),
  .inl (142, [(.int .u64 (.ofNat 0)), (.int .u64 (.ofNat 1000000000000000000))], (.tuple ⟨[(.int .u64 (.ofNat 0)), (.int .u64 (.ofNat 0))]⟩)),
  .inl (201, [(I 9)], (.int .u64 (.ofNat 1000000000))),
  .inl (142, [(.int .u64 (.ofNat 1)), (.int .u64 (.ofNat 1000000000000000000))], (.tuple ⟨[(.int .u64 (.ofNat 0)), (.int .u64 (.ofNat 1000000000000000000))]⟩)),
  .inl (200, [(.int .u64 (.ofNat 1000000000))], (I 10)),
  .inl (142, [(.int .u64 (.ofNat 1)), (.int .u64 (.ofNat 2))], (.tuple ⟨[(.int .u64 (.ofNat 0)), (.int .u64 (.ofNat 2))]⟩)),
  .inl (142, [(.int .u64 (.ofNat 2)), (.int .u64 (.ofNat 2))], (.tuple ⟨[(.int .u64 (.ofNat 0)), (.int .u64 (.ofNat 4))]⟩)),
  .inl (142, [(.int .u64 (.ofNat 2)), (.int .u64 (.ofNat 4))], (.tuple ⟨[(.int .u64 (.ofNat 0)), (.int .u64 (.ofNat 8))]⟩)),
  .inl (142, [(.int .u64 (.ofNat 2)), (.int .u64 (.ofNat 10))], (.tuple ⟨[(.int .u64 (.ofNat 0)), (.int .u64 (.ofNat 20))]⟩)),
  .inl (142, [(.int .u64 (.ofNat 20)), (.int .u64 (.ofNat 20))], (.tuple ⟨[(.int .u64 (.ofNat 0)), (.int .u64 (.ofNat 400))]⟩)),
  .inl (142, [(.int .u64 (.ofNat 1)), (.int .u64 (.ofNat 400))], (.tuple ⟨[(.int .u64 (.ofNat 0)), (.int .u64 (.ofNat 400))]⟩)),
  .inl (142, [(.int .u64 (.ofNat 20)), (.int .u64 (.ofNat 2))], (.tuple ⟨[(.int .u64 (.ofNat 0)), (.int .u64 (.ofNat 40))]⟩)),
  .inl (142, [(.int .u64 (.ofNat 14)), (.int .u64 (.ofNat 14))], (.tuple ⟨[(.int .u64 (.ofNat 0)), (.int .u64 (.ofNat 196))]⟩)),
  .inl (142, [(.int .u64 (.ofNat 1)), (.int .u64 (.ofNat 196))], (.tuple ⟨[(.int .u64 (.ofNat 0)), (.int .u64 (.ofNat 196))]⟩)),
  .inl (142, [(.int .u64 (.ofNat 14)), (.int .u64 (.ofNat 2))], (.tuple ⟨[(.int .u64 (.ofNat 0)), (.int .u64 (.ofNat 28))]⟩))]
def T3 : Tab := pushT T2 L3
def L4 : List (Sum (FuncId × List Value × Value) KC) := [.inl (142, [(.int .u64 (.ofNat 11)), (.int .u64 (.ofNat 11))], (.tuple ⟨[(.int .u64 (.ofNat 0)), (.int .u64 (.ofNat 121))]⟩)),
  .inl (142, [(.int .u64 (.ofNat 1)), (.int .u64 (.ofNat 121))], (.tuple ⟨[(.int .u64 (.ofNat 0)), (.int .u64 (.ofNat 121))]⟩)),
  .inl (142, [(.int .u64 (.ofNat 11)), (.int .u64 (.ofNat 2))], (.tuple ⟨[(.int .u64 (.ofNat 0)), (.int .u64 (.ofNat 22))]⟩)),
  .inl (142, [(.int .u64 (.ofNat 10)), (.int .u64 (.ofNat 10))], (.tuple ⟨[(.int .u64 (.ofNat 0)), (.int .u64 (.ofNat 100))]⟩)),
  .inl (142, [(.int .u64 (.ofNat 1)), (.int .u64 (.ofNat 100))], (.tuple ⟨[(.int .u64 (.ofNat 0)), (.int .u64 (.ofNat 100))]⟩)),
  .inl (142, [(.int .u64 (.ofNat 10)), (.int .u64 (.ofNat 2))], (.tuple ⟨[(.int .u64 (.ofNat 0)), (.int .u64 (.ofNat 20))]⟩)),
  .inl (142, [(.int .u64 (.ofNat 11)), (.int .u64 (.ofNat 100))], (.tuple ⟨[(.int .u64 (.ofNat 0)), (.int .u64 (.ofNat 1100))]⟩)),
  .inl (142, [(.int .u64 (.ofNat 1100)), (.int .u64 (.ofNat 1100))], (.tuple ⟨[(.int .u64 (.ofNat 0)), (.int .u64 (.ofNat 1210000))]⟩)),
  .inl (142, [(.int .u64 (.ofNat 1)), (.int .u64 (.ofNat 1210000))], (.tuple ⟨[(.int .u64 (.ofNat 0)), (.int .u64 (.ofNat 1210000))]⟩)),
  .inl (142, [(.int .u64 (.ofNat 1100)), (.int .u64 (.ofNat 2))], (.tuple ⟨[(.int .u64 (.ofNat 0)), (.int .u64 (.ofNat 2200))]⟩)),
  .inl (142, [(.int .u64 (.ofNat 1008)), (.int .u64 (.ofNat 1008))], (.tuple ⟨[(.int .u64 (.ofNat 0)), (.int .u64 (.ofNat 1016064))]⟩)),
  .inl (142, [(.int .u64 (.ofNat 1)), (.int .u64 (.ofNat 1016064))], (.tuple ⟨[(.int .u64 (.ofNat 0)), (.int .u64 (.ofNat 1016064))]⟩)),
  .inl (142, [(.int .u64 (.ofNat 1008)), (.int .u64 (.ofNat 2))], (.tuple ⟨[(.int .u64 (.ofNat 0)), (.int .u64 (.ofNat 2016))]⟩)),
  .inl (142, [(.int .u64 (.ofNat 1000)), (.int .u64 (.ofNat 1000))], (.tuple ⟨[(.int .u64 (.ofNat 0)), (.int .u64 (.ofNat 1000000))]⟩)),
  .inl (142, [(.int .u64 (.ofNat 1)), (.int .u64 (.ofNat 1000000))], (.tuple ⟨[(.int .u64 (.ofNat 0)), (.int .u64 (.ofNat 1000000))]⟩)),
  .inl (142, [(.int .u64 (.ofNat 1000)), (.int .u64 (.ofNat 2))], (.tuple ⟨[(.int .u64 (.ofNat 0)), (.int .u64 (.ofNat 2000))]⟩)),
  .inl (142, [(.int .u64 (.ofNat 1001)), (.int .u64 (.ofNat 1000))], (.tuple ⟨[(.int .u64 (.ofNat 0)), (.int .u64 (.ofNat 1001000))]⟩)),
  .inl (142, [(.int .u64 (.ofNat 1001000)), (.int .u64 (.ofNat 1001000))], (.tuple ⟨[(.int .u64 (.ofNat 0)), (.int .u64 (.ofNat 1002001000000))]⟩)),
  .inl (142, [(.int .u64 (.ofNat 1)), (.int .u64 (.ofNat 1002001000000))], (.tuple ⟨[(.int .u64 (.ofNat 0)), (.int .u64 (.ofNat 1002001000000))]⟩)),
  .inl (142, [(.int .u64 (.ofNat 1001000)), (.int .u64 (.ofNat 2))], (.tuple ⟨[(.int .u64 (.ofNat 0)), (.int .u64 (.ofNat 2002000))]⟩)),
  .inl (142, [(.int .u64 (.ofNat 1000000)), (.int .u64 (.ofNat 1000000))], (.tuple ⟨[(.int .u64 (.ofNat 0)), (.int .u64 (.ofNat 1000000000000))]⟩)),
  .inl (142, [(.int .u64 (.ofNat 1000000)), (.int .u64 (.ofNat 2))], (.tuple ⟨[(.int .u64 (.ofNat 0)), (.int .u64 (.ofNat 2000000))]⟩)),
  .inl (142, [(.int .u64 (.ofNat 1000001)), (.int .u64 (.ofNat 1000000))], (.tuple ⟨[(.int .u64 (.ofNat 0)), (.int .u64 (.ofNat 1000001000000))]⟩)),
  .inl (142, [(.int .u64 (.ofNat 1000001000000)), (.int .u64 (.ofNat 1000001000000))], (.tuple ⟨[(.int .u64 (.ofNat 54210)), (.int .u64 (.ofNat 4003765205206896640))]⟩)),
  .inl (144, [(.int .u64 (.ofNat 54210)), (.int .u64 (.ofNat 4003765205206896640)), (.int .u64 (.ofNat 1000000000000000000))], (.tuple ⟨[(.int .u64 (.ofNat 1000002)), (.int .u64 (.ofNat 1000000000000))]⟩)),
  .inl (142, [(.int .u64 (.ofNat 1)), (.int .u64 (.ofNat 1000002))], (.tuple ⟨[(.int .u64 (.ofNat 0)), (.int .u64 (.ofNat 1000002))]⟩)),
  .inl (142, [(.int .u64 (.ofNat 0)), (.int .u64 (.ofNat 999997000008))], (.tuple ⟨[(.int .u64 (.ofNat 0)), (.int .u64 (.ofNat 0))]⟩)),
  .inl (142, [(.int .u64 (.ofNat 1)), (.int .u64 (.ofNat 999997000008))], (.tuple ⟨[(.int .u64 (.ofNat 0)), (.int .u64 (.ofNat 999997000008))]⟩)),
  .inl (142, [(.int .u64 (.ofNat 1000000000000)), (.int .u64 (.ofNat 999997000008))], (.tuple ⟨[(.int .u64 (.ofNat 54209)), (.int .u64 (.ofNat 17450516278916448256))]⟩)),
  .inl (144, [(.int .u64 (.ofNat 54209)), (.int .u64 (.ofNat 17450516278916448256)), (.int .u64 (.ofNat 1000000000000000000))], (.tuple ⟨[(.int .u64 (.ofNat 999997)), (.int .u64 (.ofNat 8000000000000))]⟩)),
  .inl (142, [(.int .u64 (.ofNat 1000002)), (.int .u64 (.ofNat 999997000008))], (.tuple ⟨[(.int .u64 (.ofNat 0)), (.int .u64 (.ofNat 999999000002000016))]⟩)),
  .inl (142, [(.int .u64 (.ofNat 0)), (.int .u64 (.ofNat 8000000000000))], (.tuple ⟨[(.int .u64 (.ofNat 0)), (.int .u64 (.ofNat 0))]⟩)),
  .inl (142, [(.int .u64 (.ofNat 999997000008)), (.int .u64 (.ofNat 1000000000000000000))], (.tuple ⟨[(.int .u64 (.ofNat 54209945994)), (.int .u64 (.ofNat 7065651654684573696))]⟩)),
  .inl (142, [(.int .u64 (.ofNat 8000000000000)), (.int .u64 (.ofNat 0))], (.tuple ⟨[(.int .u64 (.ofNat 0)), (.int .u64 (.ofNat 0))]⟩)),
  .inl (142, [(.int .u64 (.ofNat 999999000003000013)), (.int .u64 (.ofNat 0))], (.tuple ⟨[(.int .u64 (.ofNat 0)), (.int .u64 (.ofNat 0))]⟩))]
def T4 : Tab := pushT T3 L4
def L5 : List (Sum (FuncId × List Value × Value) KC) := [.inl (144, [(.int .u64 (.ofNat 54209945994)), (.int .u64 (.ofNat 7065651654684573696)), (.int .u64 (.ofNat 999999000003000013))], (.tuple ⟨[(.int .u64 (.ofNat 999998000002)), (.int .u64 (.ofNat 999995000019999974))]⟩)),
  .inl (142, [(.int .u64 (.ofNat 999998000002)), (.int .u64 (.ofNat 8000000000000))], (.tuple ⟨[(.int .u64 (.ofNat 433680)), (.int .u64 (.ofNat 30129641655173120))]⟩)),
  .inl (142, [(.int .u64 (.ofNat 999995000019999974)), (.int .u64 (.ofNat 1000000000000000000))], (.tuple ⟨[(.int .u64 (.ofNat 54209837574816301)), (.int .u64 (.ofNat 1610157599722307584))]⟩)),
  .inl (142, [(.int .u64 (.ofNat 8000000000000)), (.int .u64 (.ofNat 999998000002))], (.tuple ⟨[(.int .u64 (.ofNat 433680)), (.int .u64 (.ofNat 30129641655173120))]⟩)),
  .inl (144, [(.int .u64 (.ofNat 433680)), (.int .u64 (.ofNat 30129641655173120)), (.int .u64 (.ofNat 1000000000000000000))], (.tuple ⟨[(.int .u64 (.ofNat 7999984)), (.int .u64 (.ofNat 16000000000000))]⟩)),
  .inl (142, [(.int .u64 (.ofNat 999999000003000013)), (.int .u64 (.ofNat 999998000002))], (.tuple ⟨[(.int .u64 (.ofNat 54209945994)), (.int .u64 (.ofNat 6065656654664573722))]⟩)),
  .inl (144, [(.int .u64 (.ofNat 54209945994)), (.int .u64 (.ofNat 6065656654672573706)), (.int .u64 (.ofNat 1000000000000000000))], (.tuple ⟨[(.int .u64 (.ofNat 999997000007)), (.int .u64 (.ofNat 4999988000010))]⟩)),
  .inl (142, [(.int .u64 (.ofNat 999995000013)), (.int .u64 (.ofNat 1000000000000000000))], (.tuple ⟨[(.int .u64 (.ofNat 54209837574)), (.int .u64 (.ofNat 8058123244270780416))]⟩)),
  .inl (144, [(.int .u64 (.ofNat 54209837574)), (.int .u64 (.ofNat 9058107244270780416)), (.int .u64 (.ofNat 999997000008))], (.tuple ⟨[(.int .u64 (.ofNat 999998000000000000)), (.int .u64 (.ofNat 0))]⟩)),
  .inl (142, [(.int .u64 (.ofNat 1000001000000)), (.int .u64 (.ofNat 2))], (.tuple ⟨[(.int .u64 (.ofNat 0)), (.int .u64 (.ofNat 2000002000000))]⟩)),
  .inl (142, [(.int .u64 (.ofNat 1000000000000)), (.int .u64 (.ofNat 1000000000000))], (.tuple ⟨[(.int .u64 (.ofNat 54210)), (.int .u64 (.ofNat 2003764205206896640))]⟩)),
  .inl (144, [(.int .u64 (.ofNat 54210)), (.int .u64 (.ofNat 2003764205206896640)), (.int .u64 (.ofNat 1000000000000000000))], (.tuple ⟨[(.int .u64 (.ofNat 1000000)), (.int .u64 (.ofNat 0))]⟩)),
  .inl (142, [(.int .u64 (.ofNat 1)), (.int .u64 (.ofNat 0))], (.tuple ⟨[(.int .u64 (.ofNat 0)), (.int .u64 (.ofNat 0))]⟩)),
  .inl (142, [(.int .u64 (.ofNat 0)), (.int .u64 (.ofNat 999999000000))], (.tuple ⟨[(.int .u64 (.ofNat 0)), (.int .u64 (.ofNat 0))]⟩)),
  .inl (142, [(.int .u64 (.ofNat 1)), (.int .u64 (.ofNat 999999000000))], (.tuple ⟨[(.int .u64 (.ofNat 0)), (.int .u64 (.ofNat 999999000000))]⟩)),
  .inl (142, [(.int .u64 (.ofNat 1000000)), (.int .u64 (.ofNat 999999000000))], (.tuple ⟨[(.int .u64 (.ofNat 0)), (.int .u64 (.ofNat 999999000000000000))]⟩)),
  .inl (142, [(.int .u64 (.ofNat 0)), (.int .u64 (.ofNat 0))], (.tuple ⟨[(.int .u64 (.ofNat 0)), (.int .u64 (.ofNat 0))]⟩)),
  .inl (142, [(.int .u64 (.ofNat 999999000000)), (.int .u64 (.ofNat 1000000000000000000))], (.tuple ⟨[(.int .u64 (.ofNat 54210054414)), (.int .u64 (.ofNat 3073180065098366976))]⟩)),
  .inl (142, [(.int .u64 (.ofNat 999999000000000000)), (.int .u64 (.ofNat 0))], (.tuple ⟨[(.int .u64 (.ofNat 0)), (.int .u64 (.ofNat 0))]⟩)),
  .inl (144, [(.int .u64 (.ofNat 54210054414)), (.int .u64 (.ofNat 3073180065098366976)), (.int .u64 (.ofNat 999999000000000000))], (.tuple ⟨[(.int .u64 (.ofNat 1000000000000)), (.int .u64 (.ofNat 0))]⟩)),
  .inl (142, [(.int .u64 (.ofNat 1000000000000)), (.int .u64 (.ofNat 0))], (.tuple ⟨[(.int .u64 (.ofNat 0)), (.int .u64 (.ofNat 0))]⟩)),
  .inl (142, [(.int .u64 (.ofNat 0)), (.int .u64 (.ofNat 1000000000000))], (.tuple ⟨[(.int .u64 (.ofNat 0)), (.int .u64 (.ofNat 0))]⟩)),
  .inl (142, [(.int .u64 (.ofNat 999999000000000000)), (.int .u64 (.ofNat 1000000000000))], (.tuple ⟨[(.int .u64 (.ofNat 54210054414)), (.int .u64 (.ofNat 3073180065098366976))]⟩)),
  .inl (144, [(.int .u64 (.ofNat 54210054414)), (.int .u64 (.ofNat 3073180065098366976)), (.int .u64 (.ofNat 1000000000000000000))], (.tuple ⟨[(.int .u64 (.ofNat 999999000000)), (.int .u64 (.ofNat 0))]⟩)),
  .inl (142, [(.int .u64 (.ofNat 1000000000000)), (.int .u64 (.ofNat 2))], (.tuple ⟨[(.int .u64 (.ofNat 0)), (.int .u64 (.ofNat 2000000000000))]⟩))]
def T5 : Tab := pushT T4 L5
def B1 : List (Nat × List Value) := [(1408, [(.int .u64 (.ofNat 2)), (.int .u64 (.ofNat 0))]), gq 256, gq 128, gq 192]
def B2 : List (Nat × List Value) := [gq 256, gq 128, gq 192, (1664, [(.int .u64 (.ofNat 8)), (.int .u64 (.ofNat 0))]), (1600, [(.int .u64 (.ofNat 4)), (.int .u64 (.ofNat 0))]), (1536, [(.int .u64 (.ofNat 2)), (.int .u64 (.ofNat 0))]), (1408, [(.int .u64 (.ofNat 2)), (.int .u64 (.ofNat 0))]), (1472, [(.int .u64 (.ofNat 1)), (.int .u64 (.ofNat 0))])]
def Q3 : KC := ⟨98, [(C 1408 0 1 1), (I 3)], 23, 704, B1, (C 1664 0 1 1), 27, B2, [], []⟩
def B4 : List (Nat × List Value) := [gq 256, gq 128, gq 192, (1856, [(.int .u64 (.ofNat 20)), (.int .u64 (.ofNat 0))])]
def B5 : List (Nat × List Value) := [gq 256, gq 128, gq 192, (2112, [(.int .u64 (.ofNat 400)), (.int .u64 (.ofNat 0))]), (2048, [(.int .u64 (.ofNat 400)), (.int .u64 (.ofNat 0))]), (1984, [(.int .u64 (.ofNat 1)), (.int .u64 (.ofNat 0))]), (1856, [(.int .u64 (.ofNat 20)), (.int .u64 (.ofNat 0))])]
def Q6 : KC := ⟨98, [(C 1856 0 1 1), (I 2)], 31, 704, B4, (C 2112 0 1 1), 34, B5, [], []⟩
def L6 : List (Sum (FuncId × List Value × Value) KC) := [.inr Q3,
  .inr Q6]
def T6 : Tab := pushT T5 L6
def B7 : List (Nat × List Value) := [(2432, [(.int .u64 (.ofNat 14))]), gq 256, gq 128, gq 192]
def B8 : List (Nat × List Value) := [gq 256, gq 128, gq 192, (2624, [(.int .u64 (.ofNat 196)), (.int .u64 (.ofNat 0))]), (2560, [(.int .u64 (.ofNat 196)), (.int .u64 (.ofNat 0))]), (2496, [(.int .u64 (.ofNat 1)), (.int .u64 (.ofNat 0))]), (2432, [(.int .u64 (.ofNat 14))])]
def Q9 : KC := ⟨98, [(C 2432 0 1 1), (I 2)], 39, 704, B7, (C 2624 0 1 1), 42, B8, [], []⟩
def B10 : List (Nat × List Value) := [(2944, [(.int .u64 (.ofNat 11))]), gq 256, gq 128, gq 192]
def B11 : List (Nat × List Value) := [gq 256, gq 128, gq 192, (3136, [(.int .u64 (.ofNat 121)), (.int .u64 (.ofNat 0))]), (3072, [(.int .u64 (.ofNat 121)), (.int .u64 (.ofNat 0))]), (3008, [(.int .u64 (.ofNat 1)), (.int .u64 (.ofNat 0))]), (2944, [(.int .u64 (.ofNat 11))])]
def Q12 : KC := ⟨98, [(C 2944 0 1 1), (I 2)], 47, 704, B10, (C 3136 0 1 1), 50, B11, [], []⟩
def B13 : List (Nat × List Value) := [(3456, [(.int .u64 (.ofNat 10))]), gq 256, gq 128, gq 192]
def B14 : List (Nat × List Value) := [gq 256, gq 128, gq 192, (3648, [(.int .u64 (.ofNat 100)), (.int .u64 (.ofNat 0))]), (3584, [(.int .u64 (.ofNat 100)), (.int .u64 (.ofNat 0))]), (3520, [(.int .u64 (.ofNat 1)), (.int .u64 (.ofNat 0))]), (3456, [(.int .u64 (.ofNat 10))])]
def Q15 : KC := ⟨98, [(C 3456 0 1 1), (I 2)], 55, 704, B13, (C 3648 0 1 1), 58, B14, [], []⟩
def L7 : List (Sum (FuncId × List Value × Value) KC) := [.inr Q9,
  .inr Q12,
  .inr Q15]
def T7 : Tab := pushT T6 L7
def B16 : List (Nat × List Value) := [(1216, [(.int .u64 (.ofNat 1000))]), gq 256, gq 128, gq 192]
def B17 : List (Nat × List Value) := [(3968, [(.int .u64 (.ofNat 10))]), gq 256, gq 128, gq 192, (3456, [(.int .u64 (.ofNat 10))]), (3904, [(.int .u64 (.ofNat 30)), (.int .u64 (.ofNat 0))]), (3840, [(.int .u64 (.ofNat 20)), (.int .u64 (.ofNat 0))]), (3712, [(.int .u64 (.ofNat 10))]), (3776, [(.int .u64 (.ofNat 0)), (.int .u64 (.ofNat 0))]), (1216, [(.int .u64 (.ofNat 1000))]), (3648, [(.int .u64 (.ofNat 100)), (.int .u64 (.ofNat 0))]), (3584, [(.int .u64 (.ofNat 100)), (.int .u64 (.ofNat 0))]), (3520, [(.int .u64 (.ofNat 1)), (.int .u64 (.ofNat 0))]), (2944, [(.int .u64 (.ofNat 11))]), (3392, [(.int .u64 (.ofNat 30)), (.int .u64 (.ofNat 0))]), (3328, [(.int .u64 (.ofNat 22)), (.int .u64 (.ofNat 0))]), (3200, [(.int .u64 (.ofNat 8))]), (3264, [(.int .u64 (.ofNat 32)), (.int .u64 (.ofNat 0))]), (3136, [(.int .u64 (.ofNat 121)), (.int .u64 (.ofNat 0))]), (3072, [(.int .u64 (.ofNat 121)), (.int .u64 (.ofNat 0))]), (3008, [(.int .u64 (.ofNat 1)), (.int .u64 (.ofNat 0))]), (2432, [(.int .u64 (.ofNat 14))]), (2880, [(.int .u64 (.ofNat 33)), (.int .u64 (.ofNat 0))]), (2816, [(.int .u64 (.ofNat 28)), (.int .u64 (.ofNat 0))]), (2688, [(.int .u64 (.ofNat 5))]), (2752, [(.int .u64 (.ofNat 20)), (.int .u64 (.ofNat 0))]), (2624, [(.int .u64 (.ofNat 196)), (.int .u64 (.ofNat 0))]), (2560, [(.int .u64 (.ofNat 196)), (.int .u64 (.ofNat 0))]), (2496, [(.int .u64 (.ofNat 1)), (.int .u64 (.ofNat 0))]), (1856, [(.int .u64 (.ofNat 20)), (.int .u64 (.ofNat 0))]), (2368, [(.int .u64 (.ofNat 42)), (.int .u64 (.ofNat 0))]), (2304, [(.int .u64 (.ofNat 40)), (.int .u64 (.ofNat 0))]), (2176, [(.int .u64 (.ofNat 2))]), (2240, [(.int .u64 (.ofNat 200)), (.int .u64 (.ofNat 0))]), (2112, [(.int .u64 (.ofNat 400)), (.int .u64 (.ofNat 0))]), (2048, [(.int .u64 (.ofNat 400)), (.int .u64 (.ofNat 0))]), (1984, [(.int .u64 (.ofNat 1)), (.int .u64 (.ofNat 0))]), (1920, [(.int .u64 (.ofNat 20)), (.int .u64 (.ofNat 0))]), (1792, [(.int .u64 (.ofNat 2)), (.int .u64 (.ofNat 0))]), (1728, [(.int .u64 (.ofNat 1)), (.int .u64 (.ofNat 0))]), (1344, [(.int .u64 (.ofNat 1)), (.int .u64 (.ofNat 0))]), (1664, [(.int .u64 (.ofNat 8)), (.int .u64 (.ofNat 0))]), (1280, [(.int .u64 (.ofNat 1))]), (1600, [(.int .u64 (.ofNat 4)), (.int .u64 (.ofNat 0))]), (1536, [(.int .u64 (.ofNat 2)), (.int .u64 (.ofNat 0))]), (1408, [(.int .u64 (.ofNat 2)), (.int .u64 (.ofNat 0))]), (1472, [(.int .u64 (.ofNat 1)), (.int .u64 (.ofNat 0))])]
def Q18 : KC := ⟨101, [(C 1216 0 1 1), (I 3)], 20, 704, B16, (C 3456 0 1 1), 63, B17, [], []⟩
def L8 : List (Sum (FuncId × List Value × Value) KC) := [.inr Q18]
def T8 : Tab := pushT T7 L8
def B19 : List (Nat × List Value) := [gq 256, gq 128, gq 192, (4160, [(.int .u64 (.ofNat 1100)), (.int .u64 (.ofNat 0))])]
def B20 : List (Nat × List Value) := [gq 256, gq 128, gq 192, (4416, [(.int .u64 (.ofNat 1210000)), (.int .u64 (.ofNat 0))]), (4352, [(.int .u64 (.ofNat 1210000)), (.int .u64 (.ofNat 0))]), (4288, [(.int .u64 (.ofNat 1)), (.int .u64 (.ofNat 0))]), (4160, [(.int .u64 (.ofNat 1100)), (.int .u64 (.ofNat 0))])]
def Q21 : KC := ⟨98, [(C 4160 0 1 1), (I 2)], 67, 704, B19, (C 4416 0 1 1), 70, B20, [], []⟩
def B22 : List (Nat × List Value) := [(4736, [(.int .u64 (.ofNat 1008))]), gq 256, gq 128, gq 192]
def B23 : List (Nat × List Value) := [gq 256, gq 128, gq 192, (4928, [(.int .u64 (.ofNat 1016064)), (.int .u64 (.ofNat 0))]), (4864, [(.int .u64 (.ofNat 1016064)), (.int .u64 (.ofNat 0))]), (4800, [(.int .u64 (.ofNat 1)), (.int .u64 (.ofNat 0))]), (4736, [(.int .u64 (.ofNat 1008))])]
def Q24 : KC := ⟨98, [(C 4736 0 1 1), (I 2)], 75, 704, B22, (C 4928 0 1 1), 78, B23, [], []⟩
def B25 : List (Nat × List Value) := [(5248, [(.int .u64 (.ofNat 1000))]), gq 256, gq 128, gq 192]
def B26 : List (Nat × List Value) := [gq 256, gq 128, gq 192, (5440, [(.int .u64 (.ofNat 1000000)), (.int .u64 (.ofNat 0))]), (5376, [(.int .u64 (.ofNat 1000000)), (.int .u64 (.ofNat 0))]), (5312, [(.int .u64 (.ofNat 1)), (.int .u64 (.ofNat 0))]), (5248, [(.int .u64 (.ofNat 1000))])]
def Q27 : KC := ⟨98, [(C 5248 0 1 1), (I 2)], 83, 704, B25, (C 5440 0 1 1), 86, B26, [], []⟩
def L9 : List (Sum (FuncId × List Value × Value) KC) := [.inr Q21,
  .inr Q24,
  .inr Q27]
def T9 : Tab := pushT T8 L9
def B28 : List (Nat × List Value) := [(1152, [(.int .u64 (.ofNat 1000000000)), (.int .u64 (.ofNat 0))]), gq 256, gq 128, gq 192]
def B29 : List (Nat × List Value) := [(5760, [(.int .u64 (.ofNat 1000))]), gq 256, gq 128, gq 192, (5248, [(.int .u64 (.ofNat 1000))]), (5696, [(.int .u64 (.ofNat 3000)), (.int .u64 (.ofNat 0))]), (5632, [(.int .u64 (.ofNat 2000)), (.int .u64 (.ofNat 0))]), (5504, [(.int .u64 (.ofNat 1000))]), (5568, [(.int .u64 (.ofNat 0)), (.int .u64 (.ofNat 0))]), (1152, [(.int .u64 (.ofNat 1000000000)), (.int .u64 (.ofNat 0))]), (5440, [(.int .u64 (.ofNat 1000000)), (.int .u64 (.ofNat 0))]), (5376, [(.int .u64 (.ofNat 1000000)), (.int .u64 (.ofNat 0))]), (5312, [(.int .u64 (.ofNat 1)), (.int .u64 (.ofNat 0))]), (4736, [(.int .u64 (.ofNat 1008))]), (5184, [(.int .u64 (.ofNat 3000)), (.int .u64 (.ofNat 0))]), (5120, [(.int .u64 (.ofNat 2016)), (.int .u64 (.ofNat 0))]), (4992, [(.int .u64 (.ofNat 984))]), (5056, [(.int .u64 (.ofNat 193024)), (.int .u64 (.ofNat 0))]), (4928, [(.int .u64 (.ofNat 1016064)), (.int .u64 (.ofNat 0))]), (4864, [(.int .u64 (.ofNat 1016064)), (.int .u64 (.ofNat 0))]), (4800, [(.int .u64 (.ofNat 1)), (.int .u64 (.ofNat 0))]), (4160, [(.int .u64 (.ofNat 1100)), (.int .u64 (.ofNat 0))]), (4672, [(.int .u64 (.ofNat 3026)), (.int .u64 (.ofNat 0))]), (4608, [(.int .u64 (.ofNat 2200)), (.int .u64 (.ofNat 0))]), (4480, [(.int .u64 (.ofNat 826))]), (4544, [(.int .u64 (.ofNat 540000)), (.int .u64 (.ofNat 0))]), (4416, [(.int .u64 (.ofNat 1210000)), (.int .u64 (.ofNat 0))]), (4352, [(.int .u64 (.ofNat 1210000)), (.int .u64 (.ofNat 0))]), (4288, [(.int .u64 (.ofNat 1)), (.int .u64 (.ofNat 0))]), (4224, [(.int .u64 (.ofNat 1100)), (.int .u64 (.ofNat 0))]), (4096, [(.int .u64 (.ofNat 11)), (.int .u64 (.ofNat 0))]), (4032, [(.int .u64 (.ofNat 1)), (.int .u64 (.ofNat 0))]), (3456, [(.int .u64 (.ofNat 10))]), (1216, [(.int .u64 (.ofNat 1000))])]
def Q30 : KC := ⟨101, [(C 1152 0 1 1), (I 3)], 19, 704, B28, (C 5248 0 1 1), 91, B29, [], []⟩
def L10 : List (Sum (FuncId × List Value × Value) KC) := [.inr Q30]
def T10 : Tab := pushT T9 L10
def B31 : List (Nat × List Value) := [gq 256, gq 128, gq 192, (5952, [(.int .u64 (.ofNat 1001000)), (.int .u64 (.ofNat 0))])]
def B32 : List (Nat × List Value) := [gq 256, gq 128, gq 192, (6208, [(.int .u64 (.ofNat 1002001000000)), (.int .u64 (.ofNat 0))]), (6144, [(.int .u64 (.ofNat 1002001000000)), (.int .u64 (.ofNat 0))]), (6080, [(.int .u64 (.ofNat 1)), (.int .u64 (.ofNat 0))]), (5952, [(.int .u64 (.ofNat 1001000)), (.int .u64 (.ofNat 0))])]
def Q33 : KC := ⟨98, [(C 5952 0 1 1), (I 2)], 95, 704, B31, (C 6208 0 1 1), 98, B32, [], []⟩
def B34 : List (Nat × List Value) := [(6528, [(.int .u64 (.ofNat 1000000))]), gq 256, gq 128, gq 192]
def B35 : List (Nat × List Value) := [gq 256, gq 128, gq 192, (6720, [(.int .u64 (.ofNat 1000000000000)), (.int .u64 (.ofNat 0))]), (6656, [(.int .u64 (.ofNat 1000000000000)), (.int .u64 (.ofNat 0))]), (6592, [(.int .u64 (.ofNat 1)), (.int .u64 (.ofNat 0))]), (6528, [(.int .u64 (.ofNat 1000000))])]
def Q36 : KC := ⟨98, [(C 6528 0 1 1), (I 2)], 103, 704, B34, (C 6720 0 1 1), 106, B35, [], []⟩
def L11 : List (Sum (FuncId × List Value × Value) KC) := [.inr Q33,
  .inr Q36]
def T11 : Tab := pushT T10 L11
def B37 : List (Nat × List Value) := [(1088, [(.int .u64 (.ofNat 0)), (.int .u64 (.ofNat 1))]), gq 256, gq 128, gq 192]
def B38 : List (Nat × List Value) := [(7040, [(.int .u64 (.ofNat 1000000))]), gq 256, gq 128, gq 192, (6528, [(.int .u64 (.ofNat 1000000))]), (6976, [(.int .u64 (.ofNat 3000000)), (.int .u64 (.ofNat 0))]), (6912, [(.int .u64 (.ofNat 2000000)), (.int .u64 (.ofNat 0))]), (6784, [(.int .u64 (.ofNat 1000000)), (.int .u64 (.ofNat 0))]), (6848, [(.int .u64 (.ofNat 0)), (.int .u64 (.ofNat 0))]), (1088, [(.int .u64 (.ofNat 0)), (.int .u64 (.ofNat 1))]), (6720, [(.int .u64 (.ofNat 1000000000000)), (.int .u64 (.ofNat 0))]), (6656, [(.int .u64 (.ofNat 1000000000000)), (.int .u64 (.ofNat 0))]), (6592, [(.int .u64 (.ofNat 1)), (.int .u64 (.ofNat 0))]), (5952, [(.int .u64 (.ofNat 1001000)), (.int .u64 (.ofNat 0))]), (6464, [(.int .u64 (.ofNat 3000002)), (.int .u64 (.ofNat 0))]), (6400, [(.int .u64 (.ofNat 2002000)), (.int .u64 (.ofNat 0))]), (6272, [(.int .u64 (.ofNat 998002)), (.int .u64 (.ofNat 0))]), (6336, [(.int .u64 (.ofNat 997998000000)), (.int .u64 (.ofNat 0))]), (6208, [(.int .u64 (.ofNat 1002001000000)), (.int .u64 (.ofNat 0))]), (6144, [(.int .u64 (.ofNat 1002001000000)), (.int .u64 (.ofNat 0))]), (6080, [(.int .u64 (.ofNat 1)), (.int .u64 (.ofNat 0))]), (6016, [(.int .u64 (.ofNat 1001000)), (.int .u64 (.ofNat 0))]), (5888, [(.int .u64 (.ofNat 1001)), (.int .u64 (.ofNat 0))]), (5824, [(.int .u64 (.ofNat 1)), (.int .u64 (.ofNat 0))]), (5248, [(.int .u64 (.ofNat 1000))]), (1152, [(.int .u64 (.ofNat 1000000000)), (.int .u64 (.ofNat 0))])]
def Q39 : KC := ⟨101, [(C 1088 0 2 2), (I 3)], 18, 704, B37, (C 6528 0 1 1), 111, B38, [], []⟩
def L12 : List (Sum (FuncId × List Value × Value) KC) := [.inr Q39]
def T12 : Tab := pushT T11 L12
def B40 : List (Nat × List Value) := [gq 256, gq 128, gq 192, (7232, [(.int .u64 (.ofNat 1000001000000)), (.int .u64 (.ofNat 0))])]
def B41 : List (Nat × List Value) := [gq 256, gq 128, gq 192, (7488, [(.int .u64 (.ofNat 1000000000000)), (.int .u64 (.ofNat 1000002)), (.int .u64 (.ofNat 0))]), (7424, [(.int .u64 (.ofNat 1000000000000)), (.int .u64 (.ofNat 1000002))]), (7360, [(.int .u64 (.ofNat 1)), (.int .u64 (.ofNat 0))]), (7232, [(.int .u64 (.ofNat 1000001000000)), (.int .u64 (.ofNat 0))])]
def Q42 : KC := ⟨98, [(C 7232 0 1 1), (I 2)], 115, 704, B40, (C 7488 0 2 2), 118, B41, [], []⟩
def B43 : List (Nat × List Value) := [gq 256, gq 128, gq 192, (7488, [(.int .u64 (.ofNat 1000000000000)), (.int .u64 (.ofNat 1000002)), (.int .u64 (.ofNat 0))]), (960, [(.int .u64 (.ofNat 0)), (.int .u64 (.ofNat 0)), (.int .u64 (.ofNat 1))])]
def B44 : List (Nat × List Value) := [gq 256, gq 128, gq 192, (7680, [(.int .u64 (.ofNat 999998000002)), (.int .u64 (.ofNat 0))]), (7744, [(.int .u64 (.ofNat 999998000000000000)), (.int .u64 (.ofNat 999997))]), (7552, [(.int .u64 (.ofNat 999984000000000000)), (.int .u64 (.ofNat 999995000011999989)), (.int .u64 (.ofNat 0)), (.int .u64 (.ofNat 0))]), (7616, [(.int .u64 (.ofNat 8000000000000)), (.int .u64 (.ofNat 999999000003000013)), (.int .u64 (.ofNat 0))]), (7488, [(.int .u64 (.ofNat 1000000000000)), (.int .u64 (.ofNat 1000002)), (.int .u64 (.ofNat 0))]), (960, [(.int .u64 (.ofNat 0)), (.int .u64 (.ofNat 0)), (.int .u64 (.ofNat 1))])]
def Q45 : KC := ⟨202, [(C 960 0 3 3), (C 7488 0 2 2)], 118, 704, B43, (.tuple ⟨[(C 7680 0 1 1), (C 7744 0 2 2)]⟩), 122, B44, [], []⟩
def L13 : List (Sum (FuncId × List Value × Value) KC) := [.inr Q42,
  .inr Q45]
def T13 : Tab := pushT T12 L13
def B46 : List (Nat × List Value) := [(7936, [(.int .u64 (.ofNat 1000000000000))]), gq 256, gq 128, gq 192]
def B47 : List (Nat × List Value) := [gq 256, gq 128, gq 192, (8128, [(.int .u64 (.ofNat 0)), (.int .u64 (.ofNat 1000000)), (.int .u64 (.ofNat 0))]), (8064, [(.int .u64 (.ofNat 0)), (.int .u64 (.ofNat 1000000))]), (8000, [(.int .u64 (.ofNat 1)), (.int .u64 (.ofNat 0))]), (7936, [(.int .u64 (.ofNat 1000000000000))])]
def Q48 : KC := ⟨98, [(C 7936 0 1 1), (I 2)], 125, 704, B46, (C 8128 0 2 2), 128, B47, [], []⟩
def B49 : List (Nat × List Value) := [gq 256, gq 128, gq 192, (8128, [(.int .u64 (.ofNat 0)), (.int .u64 (.ofNat 1000000)), (.int .u64 (.ofNat 0))]), (960, [(.int .u64 (.ofNat 0)), (.int .u64 (.ofNat 0)), (.int .u64 (.ofNat 1))])]
def B50 : List (Nat × List Value) := [gq 256, gq 128, gq 192, (8320, [(.int .u64 (.ofNat 1000000000000)), (.int .u64 (.ofNat 0))]), (8384, []), (8192, [(.int .u64 (.ofNat 0)), (.int .u64 (.ofNat 0)), (.int .u64 (.ofNat 0)), (.int .u64 (.ofNat 0))]), (8256, [(.int .u64 (.ofNat 0)), (.int .u64 (.ofNat 999999000000000000)), (.int .u64 (.ofNat 0))]), (8128, [(.int .u64 (.ofNat 0)), (.int .u64 (.ofNat 1000000)), (.int .u64 (.ofNat 0))]), (960, [(.int .u64 (.ofNat 0)), (.int .u64 (.ofNat 0)), (.int .u64 (.ofNat 1))])]
def Q51 : KC := ⟨202, [(C 960 0 3 3), (C 8128 0 2 2)], 128, 704, B49, (.tuple ⟨[(C 8320 0 1 1), (C 8384 0 0 0)]⟩), 132, B50, [], []⟩
def L14 : List (Sum (FuncId × List Value × Value) KC) := [.inr Q48,
  .inr Q51]
def T14 : Tab := pushT T13 L14
def B52 : List (Nat × List Value) := [gq 256, gq 128, gq 192, (960, [(.int .u64 (.ofNat 0)), (.int .u64 (.ofNat 0)), (.int .u64 (.ofNat 1))])]
def B53 : List (Nat × List Value) := [(8576, [(.int .u64 (.ofNat 1000000000000))]), gq 256, gq 128, gq 192, (7936, [(.int .u64 (.ofNat 1000000000000))]), (8512, [(.int .u64 (.ofNat 3000000000000)), (.int .u64 (.ofNat 0))]), (8448, [(.int .u64 (.ofNat 2000000000000)), (.int .u64 (.ofNat 0))]), (8320, [(.int .u64 (.ofNat 1000000000000)), (.int .u64 (.ofNat 0))]), (8384, []), (8192, [(.int .u64 (.ofNat 0)), (.int .u64 (.ofNat 0)), (.int .u64 (.ofNat 0)), (.int .u64 (.ofNat 0))]), (8256, [(.int .u64 (.ofNat 0)), (.int .u64 (.ofNat 999999000000000000)), (.int .u64 (.ofNat 0))]), (8128, [(.int .u64 (.ofNat 0)), (.int .u64 (.ofNat 1000000)), (.int .u64 (.ofNat 0))]), (960, [(.int .u64 (.ofNat 0)), (.int .u64 (.ofNat 0)), (.int .u64 (.ofNat 1))]), (8064, [(.int .u64 (.ofNat 0)), (.int .u64 (.ofNat 1000000))]), (8000, [(.int .u64 (.ofNat 1)), (.int .u64 (.ofNat 0))]), (7232, [(.int .u64 (.ofNat 1000001000000)), (.int .u64 (.ofNat 0))]), (7872, [(.int .u64 (.ofNat 3000000000002)), (.int .u64 (.ofNat 0))]), (7808, [(.int .u64 (.ofNat 2000002000000)), (.int .u64 (.ofNat 0))]), (7680, [(.int .u64 (.ofNat 999998000002)), (.int .u64 (.ofNat 0))]), (7744, [(.int .u64 (.ofNat 999998000000000000)), (.int .u64 (.ofNat 999997))]), (7552, [(.int .u64 (.ofNat 999984000000000000)), (.int .u64 (.ofNat 999995000011999989)), (.int .u64 (.ofNat 0)), (.int .u64 (.ofNat 0))]), (7616, [(.int .u64 (.ofNat 8000000000000)), (.int .u64 (.ofNat 999999000003000013)), (.int .u64 (.ofNat 0))]), (7488, [(.int .u64 (.ofNat 1000000000000)), (.int .u64 (.ofNat 1000002)), (.int .u64 (.ofNat 0))]), (7424, [(.int .u64 (.ofNat 1000000000000)), (.int .u64 (.ofNat 1000002))]), (7360, [(.int .u64 (.ofNat 1)), (.int .u64 (.ofNat 0))]), (7296, [(.int .u64 (.ofNat 1000001000000)), (.int .u64 (.ofNat 0))]), (7168, [(.int .u64 (.ofNat 1000001)), (.int .u64 (.ofNat 0))]), (7104, [(.int .u64 (.ofNat 1)), (.int .u64 (.ofNat 0))]), (6528, [(.int .u64 (.ofNat 1000000))]), (1088, [(.int .u64 (.ofNat 0)), (.int .u64 (.ofNat 1))])]
def Q54 : KC := ⟨101, [(C 960 0 3 3), (I 3)], 17, 704, B52, (C 7936 0 1 1), 135, B53, [], []⟩
def L15 : List (Sum (FuncId × List Value × Value) KC) := [.inr Q54]
def T15 : Tab := pushT T14 L15
def B55 : List (Nat × List Value) := [gq 256, gq 128, gq 192, (7936, [(.int .u64 (.ofNat 1000000000000))])]
def B56 : List (Nat × List Value) := [gq 256, gq 128, gq 192, (8832, [(.int .u64 (.ofNat 0)), (.int .u64 (.ofNat 0)), (.int .u64 (.ofNat 1))]), (8768, [(.int .u64 (.ofNat 0)), (.int .u64 (.ofNat 1000000))]), (8704, [(.int .u64 (.ofNat 1000000000000)), (.int .u64 (.ofNat 0))]), (7936, [(.int .u64 (.ofNat 1000000000000))]), (8640, [(.int .u64 (.ofNat 1)), (.int .u64 (.ofNat 0))])]
def Q57 : KC := ⟨98, [(C 7936 0 1 1), (I 3)], 135, 704, B55, (C 8832 0 3 3), 139, B56, [], []⟩
def B58 : List (Nat × List Value) := [(576, [(I 1), (I 3)]), gq 256, gq 128, gq 192]
def Q59 : KC := ⟨167, [(I 1000000000000), (Z 576 0)], 11, 320, B58, (.tuple ⟨[(C 7936 0 1 1), (.bool true)]⟩), 139, ([(8832, [(.int .u64 (.ofNat 0)), (.int .u64 (.ofNat 0)), (.int .u64 (.ofNat 1))]), (960, [(.int .u64 (.ofNat 0)), (.int .u64 (.ofNat 0)), (.int .u64 (.ofNat 1))]), (8768, [(.int .u64 (.ofNat 0)), (.int .u64 (.ofNat 1000000))]), (8704, [(.int .u64 (.ofNat 1000000000000)), (.int .u64 (.ofNat 0))]), (7936, [(.int .u64 (.ofNat 1000000000000))]), (8640, [(.int .u64 (.ofNat 1)), (.int .u64 (.ofNat 0))]), (1024, [(.int .u64 (.ofNat 0)), (.int .u64 (.ofNat 1))]), (896, [(.int .u64 (.ofNat 1000000000000)), (.int .u64 (.ofNat 0))]), (832, [(.int .u64 (.ofNat 1)), (.int .u64 (.ofNat 0))]), (768, [(.int .u64 (.ofNat 1000000000000)), (.int .u64 (.ofNat 0))]), (704, [(I 1), (I 3)])] ++ B58), [], []⟩
def L16 : List (Sum (FuncId × List Value × Value) KC) := [.inr Q57,
  .inr Q59]
def T16 : Tab := pushT T15 L16
def B60 : List (Nat × List Value) := [(9600, [(.int .u64 (.ofNat 2)), (.int .u64 (.ofNat 0))]), gq 256, gq 128, gq 192]
def B61 : List (Nat × List Value) := [gq 256, gq 128, gq 192, (9856, [(.int .u64 (.ofNat 8)), (.int .u64 (.ofNat 0))]), (9792, [(.int .u64 (.ofNat 4)), (.int .u64 (.ofNat 0))]), (9728, [(.int .u64 (.ofNat 2)), (.int .u64 (.ofNat 0))]), (9600, [(.int .u64 (.ofNat 2)), (.int .u64 (.ofNat 0))]), (9664, [(.int .u64 (.ofNat 1)), (.int .u64 (.ofNat 0))])]
def Q62 : KC := ⟨98, [(C 9600 0 1 1), (I 3)], 151, 8896, B60, (C 9856 0 1 1), 155, B61, [], []⟩
def B63 : List (Nat × List Value) := [gq 256, gq 128, gq 192, (10048, [(.int .u64 (.ofNat 20)), (.int .u64 (.ofNat 0))])]
def B64 : List (Nat × List Value) := [gq 256, gq 128, gq 192, (10304, [(.int .u64 (.ofNat 400)), (.int .u64 (.ofNat 0))]), (10240, [(.int .u64 (.ofNat 400)), (.int .u64 (.ofNat 0))]), (10176, [(.int .u64 (.ofNat 1)), (.int .u64 (.ofNat 0))]), (10048, [(.int .u64 (.ofNat 20)), (.int .u64 (.ofNat 0))])]
def Q65 : KC := ⟨98, [(C 10048 0 1 1), (I 2)], 159, 8896, B63, (C 10304 0 1 1), 162, B64, [], []⟩
def L17 : List (Sum (FuncId × List Value × Value) KC) := [.inr Q62,
  .inr Q65]
def T17 : Tab := pushT T16 L17
def B66 : List (Nat × List Value) := [(10624, [(.int .u64 (.ofNat 14))]), gq 256, gq 128, gq 192]
def B67 : List (Nat × List Value) := [gq 256, gq 128, gq 192, (10816, [(.int .u64 (.ofNat 196)), (.int .u64 (.ofNat 0))]), (10752, [(.int .u64 (.ofNat 196)), (.int .u64 (.ofNat 0))]), (10688, [(.int .u64 (.ofNat 1)), (.int .u64 (.ofNat 0))]), (10624, [(.int .u64 (.ofNat 14))])]
def Q68 : KC := ⟨98, [(C 10624 0 1 1), (I 2)], 167, 8896, B66, (C 10816 0 1 1), 170, B67, [], []⟩
def B69 : List (Nat × List Value) := [(11136, [(.int .u64 (.ofNat 11))]), gq 256, gq 128, gq 192]
def B70 : List (Nat × List Value) := [gq 256, gq 128, gq 192, (11328, [(.int .u64 (.ofNat 121)), (.int .u64 (.ofNat 0))]), (11264, [(.int .u64 (.ofNat 121)), (.int .u64 (.ofNat 0))]), (11200, [(.int .u64 (.ofNat 1)), (.int .u64 (.ofNat 0))]), (11136, [(.int .u64 (.ofNat 11))])]
def Q71 : KC := ⟨98, [(C 11136 0 1 1), (I 2)], 175, 8896, B69, (C 11328 0 1 1), 178, B70, [], []⟩
def B72 : List (Nat × List Value) := [(11648, [(.int .u64 (.ofNat 10))]), gq 256, gq 128, gq 192]
def B73 : List (Nat × List Value) := [gq 256, gq 128, gq 192, (11840, [(.int .u64 (.ofNat 100)), (.int .u64 (.ofNat 0))]), (11776, [(.int .u64 (.ofNat 100)), (.int .u64 (.ofNat 0))]), (11712, [(.int .u64 (.ofNat 1)), (.int .u64 (.ofNat 0))]), (11648, [(.int .u64 (.ofNat 10))])]
def Q74 : KC := ⟨98, [(C 11648 0 1 1), (I 2)], 183, 8896, B72, (C 11840 0 1 1), 186, B73, [], []⟩
def L18 : List (Sum (FuncId × List Value × Value) KC) := [.inr Q68,
  .inr Q71,
  .inr Q74]
def T18 : Tab := pushT T17 L18
def B75 : List (Nat × List Value) := [(9408, [(.int .u64 (.ofNat 1000))]), gq 256, gq 128, gq 192]
def B76 : List (Nat × List Value) := [(12160, [(.int .u64 (.ofNat 10))]), gq 256, gq 128, gq 192, (11648, [(.int .u64 (.ofNat 10))]), (12096, [(.int .u64 (.ofNat 30)), (.int .u64 (.ofNat 0))]), (12032, [(.int .u64 (.ofNat 20)), (.int .u64 (.ofNat 0))]), (11904, [(.int .u64 (.ofNat 10))]), (11968, [(.int .u64 (.ofNat 0)), (.int .u64 (.ofNat 0))]), (9408, [(.int .u64 (.ofNat 1000))]), (11840, [(.int .u64 (.ofNat 100)), (.int .u64 (.ofNat 0))]), (11776, [(.int .u64 (.ofNat 100)), (.int .u64 (.ofNat 0))]), (11712, [(.int .u64 (.ofNat 1)), (.int .u64 (.ofNat 0))]), (11136, [(.int .u64 (.ofNat 11))]), (11584, [(.int .u64 (.ofNat 30)), (.int .u64 (.ofNat 0))]), (11520, [(.int .u64 (.ofNat 22)), (.int .u64 (.ofNat 0))]), (11392, [(.int .u64 (.ofNat 8))]), (11456, [(.int .u64 (.ofNat 32)), (.int .u64 (.ofNat 0))]), (11328, [(.int .u64 (.ofNat 121)), (.int .u64 (.ofNat 0))]), (11264, [(.int .u64 (.ofNat 121)), (.int .u64 (.ofNat 0))]), (11200, [(.int .u64 (.ofNat 1)), (.int .u64 (.ofNat 0))]), (10624, [(.int .u64 (.ofNat 14))]), (11072, [(.int .u64 (.ofNat 33)), (.int .u64 (.ofNat 0))]), (11008, [(.int .u64 (.ofNat 28)), (.int .u64 (.ofNat 0))]), (10880, [(.int .u64 (.ofNat 5))]), (10944, [(.int .u64 (.ofNat 20)), (.int .u64 (.ofNat 0))]), (10816, [(.int .u64 (.ofNat 196)), (.int .u64 (.ofNat 0))]), (10752, [(.int .u64 (.ofNat 196)), (.int .u64 (.ofNat 0))]), (10688, [(.int .u64 (.ofNat 1)), (.int .u64 (.ofNat 0))]), (10048, [(.int .u64 (.ofNat 20)), (.int .u64 (.ofNat 0))]), (10560, [(.int .u64 (.ofNat 42)), (.int .u64 (.ofNat 0))]), (10496, [(.int .u64 (.ofNat 40)), (.int .u64 (.ofNat 0))]), (10368, [(.int .u64 (.ofNat 2))]), (10432, [(.int .u64 (.ofNat 200)), (.int .u64 (.ofNat 0))]), (10304, [(.int .u64 (.ofNat 400)), (.int .u64 (.ofNat 0))]), (10240, [(.int .u64 (.ofNat 400)), (.int .u64 (.ofNat 0))]), (10176, [(.int .u64 (.ofNat 1)), (.int .u64 (.ofNat 0))]), (10112, [(.int .u64 (.ofNat 20)), (.int .u64 (.ofNat 0))]), (9984, [(.int .u64 (.ofNat 2)), (.int .u64 (.ofNat 0))]), (9920, [(.int .u64 (.ofNat 1)), (.int .u64 (.ofNat 0))]), (9536, [(.int .u64 (.ofNat 1)), (.int .u64 (.ofNat 0))]), (9856, [(.int .u64 (.ofNat 8)), (.int .u64 (.ofNat 0))]), (9472, [(.int .u64 (.ofNat 1))]), (9792, [(.int .u64 (.ofNat 4)), (.int .u64 (.ofNat 0))]), (9728, [(.int .u64 (.ofNat 2)), (.int .u64 (.ofNat 0))]), (9600, [(.int .u64 (.ofNat 2)), (.int .u64 (.ofNat 0))]), (9664, [(.int .u64 (.ofNat 1)), (.int .u64 (.ofNat 0))])]
def Q77 : KC := ⟨101, [(C 9408 0 1 1), (I 3)], 148, 8896, B75, (C 11648 0 1 1), 191, B76, [], []⟩
def L19 : List (Sum (FuncId × List Value × Value) KC) := [.inr Q77]
def T19 : Tab := pushT T18 L19
def B78 : List (Nat × List Value) := [gq 256, gq 128, gq 192, (12352, [(.int .u64 (.ofNat 1100)), (.int .u64 (.ofNat 0))])]
def B79 : List (Nat × List Value) := [gq 256, gq 128, gq 192, (12608, [(.int .u64 (.ofNat 1210000)), (.int .u64 (.ofNat 0))]), (12544, [(.int .u64 (.ofNat 1210000)), (.int .u64 (.ofNat 0))]), (12480, [(.int .u64 (.ofNat 1)), (.int .u64 (.ofNat 0))]), (12352, [(.int .u64 (.ofNat 1100)), (.int .u64 (.ofNat 0))])]
def Q80 : KC := ⟨98, [(C 12352 0 1 1), (I 2)], 195, 8896, B78, (C 12608 0 1 1), 198, B79, [], []⟩
def B81 : List (Nat × List Value) := [(12928, [(.int .u64 (.ofNat 1008))]), gq 256, gq 128, gq 192]
def B82 : List (Nat × List Value) := [gq 256, gq 128, gq 192, (13120, [(.int .u64 (.ofNat 1016064)), (.int .u64 (.ofNat 0))]), (13056, [(.int .u64 (.ofNat 1016064)), (.int .u64 (.ofNat 0))]), (12992, [(.int .u64 (.ofNat 1)), (.int .u64 (.ofNat 0))]), (12928, [(.int .u64 (.ofNat 1008))])]
def Q83 : KC := ⟨98, [(C 12928 0 1 1), (I 2)], 203, 8896, B81, (C 13120 0 1 1), 206, B82, [], []⟩
def B84 : List (Nat × List Value) := [(13440, [(.int .u64 (.ofNat 1000))]), gq 256, gq 128, gq 192]
def B85 : List (Nat × List Value) := [gq 256, gq 128, gq 192, (13632, [(.int .u64 (.ofNat 1000000)), (.int .u64 (.ofNat 0))]), (13568, [(.int .u64 (.ofNat 1000000)), (.int .u64 (.ofNat 0))]), (13504, [(.int .u64 (.ofNat 1)), (.int .u64 (.ofNat 0))]), (13440, [(.int .u64 (.ofNat 1000))])]
def Q86 : KC := ⟨98, [(C 13440 0 1 1), (I 2)], 211, 8896, B84, (C 13632 0 1 1), 214, B85, [], []⟩
def L20 : List (Sum (FuncId × List Value × Value) KC) := [.inr Q80,
  .inr Q83,
  .inr Q86]
def T20 : Tab := pushT T19 L20
def B87 : List (Nat × List Value) := [(9344, [(.int .u64 (.ofNat 1000000000)), (.int .u64 (.ofNat 0))]), gq 256, gq 128, gq 192]
def B88 : List (Nat × List Value) := [(13952, [(.int .u64 (.ofNat 1000))]), gq 256, gq 128, gq 192, (13440, [(.int .u64 (.ofNat 1000))]), (13888, [(.int .u64 (.ofNat 3000)), (.int .u64 (.ofNat 0))]), (13824, [(.int .u64 (.ofNat 2000)), (.int .u64 (.ofNat 0))]), (13696, [(.int .u64 (.ofNat 1000))]), (13760, [(.int .u64 (.ofNat 0)), (.int .u64 (.ofNat 0))]), (9344, [(.int .u64 (.ofNat 1000000000)), (.int .u64 (.ofNat 0))]), (13632, [(.int .u64 (.ofNat 1000000)), (.int .u64 (.ofNat 0))]), (13568, [(.int .u64 (.ofNat 1000000)), (.int .u64 (.ofNat 0))]), (13504, [(.int .u64 (.ofNat 1)), (.int .u64 (.ofNat 0))]), (12928, [(.int .u64 (.ofNat 1008))]), (13376, [(.int .u64 (.ofNat 3000)), (.int .u64 (.ofNat 0))]), (13312, [(.int .u64 (.ofNat 2016)), (.int .u64 (.ofNat 0))]), (13184, [(.int .u64 (.ofNat 984))]), (13248, [(.int .u64 (.ofNat 193024)), (.int .u64 (.ofNat 0))]), (13120, [(.int .u64 (.ofNat 1016064)), (.int .u64 (.ofNat 0))]), (13056, [(.int .u64 (.ofNat 1016064)), (.int .u64 (.ofNat 0))]), (12992, [(.int .u64 (.ofNat 1)), (.int .u64 (.ofNat 0))]), (12352, [(.int .u64 (.ofNat 1100)), (.int .u64 (.ofNat 0))]), (12864, [(.int .u64 (.ofNat 3026)), (.int .u64 (.ofNat 0))]), (12800, [(.int .u64 (.ofNat 2200)), (.int .u64 (.ofNat 0))]), (12672, [(.int .u64 (.ofNat 826))]), (12736, [(.int .u64 (.ofNat 540000)), (.int .u64 (.ofNat 0))]), (12608, [(.int .u64 (.ofNat 1210000)), (.int .u64 (.ofNat 0))]), (12544, [(.int .u64 (.ofNat 1210000)), (.int .u64 (.ofNat 0))]), (12480, [(.int .u64 (.ofNat 1)), (.int .u64 (.ofNat 0))]), (12416, [(.int .u64 (.ofNat 1100)), (.int .u64 (.ofNat 0))]), (12288, [(.int .u64 (.ofNat 11)), (.int .u64 (.ofNat 0))]), (12224, [(.int .u64 (.ofNat 1)), (.int .u64 (.ofNat 0))]), (11648, [(.int .u64 (.ofNat 10))]), (9408, [(.int .u64 (.ofNat 1000))])]
def Q89 : KC := ⟨101, [(C 9344 0 1 1), (I 3)], 147, 8896, B87, (C 13440 0 1 1), 219, B88, [], []⟩
def L21 : List (Sum (FuncId × List Value × Value) KC) := [.inr Q89]
def T21 : Tab := pushT T20 L21
def B90 : List (Nat × List Value) := [gq 256, gq 128, gq 192, (14144, [(.int .u64 (.ofNat 1001000)), (.int .u64 (.ofNat 0))])]
def B91 : List (Nat × List Value) := [gq 256, gq 128, gq 192, (14400, [(.int .u64 (.ofNat 1002001000000)), (.int .u64 (.ofNat 0))]), (14336, [(.int .u64 (.ofNat 1002001000000)), (.int .u64 (.ofNat 0))]), (14272, [(.int .u64 (.ofNat 1)), (.int .u64 (.ofNat 0))]), (14144, [(.int .u64 (.ofNat 1001000)), (.int .u64 (.ofNat 0))])]
def Q92 : KC := ⟨98, [(C 14144 0 1 1), (I 2)], 223, 8896, B90, (C 14400 0 1 1), 226, B91, [], []⟩
def B93 : List (Nat × List Value) := [(14720, [(.int .u64 (.ofNat 1000000))]), gq 256, gq 128, gq 192]
def B94 : List (Nat × List Value) := [gq 256, gq 128, gq 192, (14912, [(.int .u64 (.ofNat 1000000000000)), (.int .u64 (.ofNat 0))]), (14848, [(.int .u64 (.ofNat 1000000000000)), (.int .u64 (.ofNat 0))]), (14784, [(.int .u64 (.ofNat 1)), (.int .u64 (.ofNat 0))]), (14720, [(.int .u64 (.ofNat 1000000))])]
def Q95 : KC := ⟨98, [(C 14720 0 1 1), (I 2)], 231, 8896, B93, (C 14912 0 1 1), 234, B94, [], []⟩
def L22 : List (Sum (FuncId × List Value × Value) KC) := [.inr Q92,
  .inr Q95]
def T22 : Tab := pushT T21 L22
def B96 : List (Nat × List Value) := [(9280, [(.int .u64 (.ofNat 0)), (.int .u64 (.ofNat 1))]), gq 256, gq 128, gq 192]
def B97 : List (Nat × List Value) := [(15232, [(.int .u64 (.ofNat 1000000))]), gq 256, gq 128, gq 192, (14720, [(.int .u64 (.ofNat 1000000))]), (15168, [(.int .u64 (.ofNat 3000000)), (.int .u64 (.ofNat 0))]), (15104, [(.int .u64 (.ofNat 2000000)), (.int .u64 (.ofNat 0))]), (14976, [(.int .u64 (.ofNat 1000000)), (.int .u64 (.ofNat 0))]), (15040, [(.int .u64 (.ofNat 0)), (.int .u64 (.ofNat 0))]), (9280, [(.int .u64 (.ofNat 0)), (.int .u64 (.ofNat 1))]), (14912, [(.int .u64 (.ofNat 1000000000000)), (.int .u64 (.ofNat 0))]), (14848, [(.int .u64 (.ofNat 1000000000000)), (.int .u64 (.ofNat 0))]), (14784, [(.int .u64 (.ofNat 1)), (.int .u64 (.ofNat 0))]), (14144, [(.int .u64 (.ofNat 1001000)), (.int .u64 (.ofNat 0))]), (14656, [(.int .u64 (.ofNat 3000002)), (.int .u64 (.ofNat 0))]), (14592, [(.int .u64 (.ofNat 2002000)), (.int .u64 (.ofNat 0))]), (14464, [(.int .u64 (.ofNat 998002)), (.int .u64 (.ofNat 0))]), (14528, [(.int .u64 (.ofNat 997998000000)), (.int .u64 (.ofNat 0))]), (14400, [(.int .u64 (.ofNat 1002001000000)), (.int .u64 (.ofNat 0))]), (14336, [(.int .u64 (.ofNat 1002001000000)), (.int .u64 (.ofNat 0))]), (14272, [(.int .u64 (.ofNat 1)), (.int .u64 (.ofNat 0))]), (14208, [(.int .u64 (.ofNat 1001000)), (.int .u64 (.ofNat 0))]), (14080, [(.int .u64 (.ofNat 1001)), (.int .u64 (.ofNat 0))]), (14016, [(.int .u64 (.ofNat 1)), (.int .u64 (.ofNat 0))]), (13440, [(.int .u64 (.ofNat 1000))]), (9344, [(.int .u64 (.ofNat 1000000000)), (.int .u64 (.ofNat 0))])]
def Q98 : KC := ⟨101, [(C 9280 0 2 2), (I 3)], 146, 8896, B96, (C 14720 0 1 1), 239, B97, [], []⟩
def L23 : List (Sum (FuncId × List Value × Value) KC) := [.inr Q98]
def T23 : Tab := pushT T22 L23
def B99 : List (Nat × List Value) := [gq 256, gq 128, gq 192, (15424, [(.int .u64 (.ofNat 1000001000000)), (.int .u64 (.ofNat 0))])]
def B100 : List (Nat × List Value) := [gq 256, gq 128, gq 192, (15680, [(.int .u64 (.ofNat 1000000000000)), (.int .u64 (.ofNat 1000002)), (.int .u64 (.ofNat 0))]), (15616, [(.int .u64 (.ofNat 1000000000000)), (.int .u64 (.ofNat 1000002))]), (15552, [(.int .u64 (.ofNat 1)), (.int .u64 (.ofNat 0))]), (15424, [(.int .u64 (.ofNat 1000001000000)), (.int .u64 (.ofNat 0))])]
def Q101 : KC := ⟨98, [(C 15424 0 1 1), (I 2)], 243, 8896, B99, (C 15680 0 2 2), 246, B100, [], []⟩
def B102 : List (Nat × List Value) := [gq 256, gq 128, gq 192, (15680, [(.int .u64 (.ofNat 1000000000000)), (.int .u64 (.ofNat 1000002)), (.int .u64 (.ofNat 0))]), (9152, [(.int .u64 (.ofNat 0)), (.int .u64 (.ofNat 0)), (.int .u64 (.ofNat 1))])]
def B103 : List (Nat × List Value) := [gq 256, gq 128, gq 192, (15872, [(.int .u64 (.ofNat 999998000002)), (.int .u64 (.ofNat 0))]), (15936, [(.int .u64 (.ofNat 999998000000000000)), (.int .u64 (.ofNat 999997))]), (15744, [(.int .u64 (.ofNat 999984000000000000)), (.int .u64 (.ofNat 999995000011999989)), (.int .u64 (.ofNat 0)), (.int .u64 (.ofNat 0))]), (15808, [(.int .u64 (.ofNat 8000000000000)), (.int .u64 (.ofNat 999999000003000013)), (.int .u64 (.ofNat 0))]), (15680, [(.int .u64 (.ofNat 1000000000000)), (.int .u64 (.ofNat 1000002)), (.int .u64 (.ofNat 0))]), (9152, [(.int .u64 (.ofNat 0)), (.int .u64 (.ofNat 0)), (.int .u64 (.ofNat 1))])]
def Q104 : KC := ⟨202, [(C 9152 0 3 3), (C 15680 0 2 2)], 246, 8896, B102, (.tuple ⟨[(C 15872 0 1 1), (C 15936 0 2 2)]⟩), 250, B103, [], []⟩
def L24 : List (Sum (FuncId × List Value × Value) KC) := [.inr Q101,
  .inr Q104]
def T24 : Tab := pushT T23 L24
def B105 : List (Nat × List Value) := [(16128, [(.int .u64 (.ofNat 1000000000000))]), gq 256, gq 128, gq 192]
def B106 : List (Nat × List Value) := [gq 256, gq 128, gq 192, (16320, [(.int .u64 (.ofNat 0)), (.int .u64 (.ofNat 1000000)), (.int .u64 (.ofNat 0))]), (16256, [(.int .u64 (.ofNat 0)), (.int .u64 (.ofNat 1000000))]), (16192, [(.int .u64 (.ofNat 1)), (.int .u64 (.ofNat 0))]), (16128, [(.int .u64 (.ofNat 1000000000000))])]
def Q107 : KC := ⟨98, [(C 16128 0 1 1), (I 2)], 253, 8896, B105, (C 16320 0 2 2), 256, B106, [], []⟩
def B108 : List (Nat × List Value) := [gq 256, gq 128, gq 192, (16320, [(.int .u64 (.ofNat 0)), (.int .u64 (.ofNat 1000000)), (.int .u64 (.ofNat 0))]), (9152, [(.int .u64 (.ofNat 0)), (.int .u64 (.ofNat 0)), (.int .u64 (.ofNat 1))])]
def B109 : List (Nat × List Value) := [gq 256, gq 128, gq 192, (16512, [(.int .u64 (.ofNat 1000000000000)), (.int .u64 (.ofNat 0))]), (16576, []), (16384, [(.int .u64 (.ofNat 0)), (.int .u64 (.ofNat 0)), (.int .u64 (.ofNat 0)), (.int .u64 (.ofNat 0))]), (16448, [(.int .u64 (.ofNat 0)), (.int .u64 (.ofNat 999999000000000000)), (.int .u64 (.ofNat 0))]), (16320, [(.int .u64 (.ofNat 0)), (.int .u64 (.ofNat 1000000)), (.int .u64 (.ofNat 0))]), (9152, [(.int .u64 (.ofNat 0)), (.int .u64 (.ofNat 0)), (.int .u64 (.ofNat 1))])]
def Q110 : KC := ⟨202, [(C 9152 0 3 3), (C 16320 0 2 2)], 256, 8896, B108, (.tuple ⟨[(C 16512 0 1 1), (C 16576 0 0 0)]⟩), 260, B109, [], []⟩
def L25 : List (Sum (FuncId × List Value × Value) KC) := [.inr Q107,
  .inr Q110]
def T25 : Tab := pushT T24 L25
def B111 : List (Nat × List Value) := [gq 256, gq 128, gq 192, (9152, [(.int .u64 (.ofNat 0)), (.int .u64 (.ofNat 0)), (.int .u64 (.ofNat 1))])]
def B112 : List (Nat × List Value) := [(16768, [(.int .u64 (.ofNat 1000000000000))]), gq 256, gq 128, gq 192, (16128, [(.int .u64 (.ofNat 1000000000000))]), (16704, [(.int .u64 (.ofNat 3000000000000)), (.int .u64 (.ofNat 0))]), (16640, [(.int .u64 (.ofNat 2000000000000)), (.int .u64 (.ofNat 0))]), (16512, [(.int .u64 (.ofNat 1000000000000)), (.int .u64 (.ofNat 0))]), (16576, []), (16384, [(.int .u64 (.ofNat 0)), (.int .u64 (.ofNat 0)), (.int .u64 (.ofNat 0)), (.int .u64 (.ofNat 0))]), (16448, [(.int .u64 (.ofNat 0)), (.int .u64 (.ofNat 999999000000000000)), (.int .u64 (.ofNat 0))]), (16320, [(.int .u64 (.ofNat 0)), (.int .u64 (.ofNat 1000000)), (.int .u64 (.ofNat 0))]), (9152, [(.int .u64 (.ofNat 0)), (.int .u64 (.ofNat 0)), (.int .u64 (.ofNat 1))]), (16256, [(.int .u64 (.ofNat 0)), (.int .u64 (.ofNat 1000000))]), (16192, [(.int .u64 (.ofNat 1)), (.int .u64 (.ofNat 0))]), (15424, [(.int .u64 (.ofNat 1000001000000)), (.int .u64 (.ofNat 0))]), (16064, [(.int .u64 (.ofNat 3000000000002)), (.int .u64 (.ofNat 0))]), (16000, [(.int .u64 (.ofNat 2000002000000)), (.int .u64 (.ofNat 0))]), (15872, [(.int .u64 (.ofNat 999998000002)), (.int .u64 (.ofNat 0))]), (15936, [(.int .u64 (.ofNat 999998000000000000)), (.int .u64 (.ofNat 999997))]), (15744, [(.int .u64 (.ofNat 999984000000000000)), (.int .u64 (.ofNat 999995000011999989)), (.int .u64 (.ofNat 0)), (.int .u64 (.ofNat 0))]), (15808, [(.int .u64 (.ofNat 8000000000000)), (.int .u64 (.ofNat 999999000003000013)), (.int .u64 (.ofNat 0))]), (15680, [(.int .u64 (.ofNat 1000000000000)), (.int .u64 (.ofNat 1000002)), (.int .u64 (.ofNat 0))]), (15616, [(.int .u64 (.ofNat 1000000000000)), (.int .u64 (.ofNat 1000002))]), (15552, [(.int .u64 (.ofNat 1)), (.int .u64 (.ofNat 0))]), (15488, [(.int .u64 (.ofNat 1000001000000)), (.int .u64 (.ofNat 0))]), (15360, [(.int .u64 (.ofNat 1000001)), (.int .u64 (.ofNat 0))]), (15296, [(.int .u64 (.ofNat 1)), (.int .u64 (.ofNat 0))]), (14720, [(.int .u64 (.ofNat 1000000))]), (9280, [(.int .u64 (.ofNat 0)), (.int .u64 (.ofNat 1))])]
def Q113 : KC := ⟨101, [(C 9152 0 3 3), (I 3)], 145, 8896, B111, (C 16128 0 1 1), 263, B112, [], []⟩
def L26 : List (Sum (FuncId × List Value × Value) KC) := [.inr Q113]
def T26 : Tab := pushT T25 L26
def B114 : List (Nat × List Value) := [gq 256, gq 128, gq 192, (16128, [(.int .u64 (.ofNat 1000000000000))])]
def B115 : List (Nat × List Value) := [gq 256, gq 128, gq 192, (17024, [(.int .u64 (.ofNat 0)), (.int .u64 (.ofNat 0)), (.int .u64 (.ofNat 1))]), (16960, [(.int .u64 (.ofNat 0)), (.int .u64 (.ofNat 1000000))]), (16896, [(.int .u64 (.ofNat 1000000000000)), (.int .u64 (.ofNat 0))]), (16128, [(.int .u64 (.ofNat 1000000000000))]), (16832, [(.int .u64 (.ofNat 1)), (.int .u64 (.ofNat 0))])]
def Q116 : KC := ⟨98, [(C 16128 0 1 1), (I 3)], 263, 8896, B114, (C 17024 0 3 3), 267, B115, [], []⟩
def Q117 : KC := ⟨167, [(I 1000000000000), (Z 576 0)], 139, 320, B58, (.tuple ⟨[(C 16128 0 1 1), (.bool true)]⟩), 267, ([(17024, [(.int .u64 (.ofNat 0)), (.int .u64 (.ofNat 0)), (.int .u64 (.ofNat 1))]), (9152, [(.int .u64 (.ofNat 0)), (.int .u64 (.ofNat 0)), (.int .u64 (.ofNat 1))]), (16960, [(.int .u64 (.ofNat 0)), (.int .u64 (.ofNat 1000000))]), (16896, [(.int .u64 (.ofNat 1000000000000)), (.int .u64 (.ofNat 0))]), (16128, [(.int .u64 (.ofNat 1000000000000))]), (16832, [(.int .u64 (.ofNat 1)), (.int .u64 (.ofNat 0))]), (9216, [(.int .u64 (.ofNat 0)), (.int .u64 (.ofNat 1))]), (9088, [(.int .u64 (.ofNat 1000000000000)), (.int .u64 (.ofNat 0))]), (9024, [(.int .u64 (.ofNat 1)), (.int .u64 (.ofNat 0))]), (8960, [(.int .u64 (.ofNat 1000000000000)), (.int .u64 (.ofNat 0))]), (8896, [(I 1), (I 3)])] ++ B58), [], []⟩
def L27 : List (Sum (FuncId × List Value × Value) KC) := [.inr Q116,
  .inr Q117,
  .inl (112, [(A [(I 1000000000000), (I 1000000000000)]), (I 1), (I 3)], (.tuple ⟨[(A [(I 1000000000000), (I 1000000000000)]), (I 0)]⟩)),
  .inl (59, [(A [(S [49]), (S [49])])], (A [(I 1000000000000), (I 1000000000000)])),
  .inl (131, [(A [(I 1), (I 1)]), (A [(I 1), (I 1)])], (.tuple ⟨[(A [(S [49]), (S [49])]), (.bool true)]⟩))]
def T27 : Tab := pushT T26 L27
def B118 : List (Nat × List Value) := [(448, [(I 1)]), gq 256, gq 128, gq 192]
def B119 : List (Nat × List Value) := [gq 256, gq 128, gq 192, (1280, [(I 116000000000000), (I 116000000000000), (I 116000000000000), (I 116000000000000)]), (1216, [(I 116000000000000), (I 116000000000000), (I 116000000000000), (I 116000000000000)]), (1152, [(I 116000000000000), (I 116000000000000)]), (2432, [(.int .u64 (.ofNat 116000000000000)), (.bool false), (.bool false), (.bool true)]), (2368, [(.int .u64 (.ofNat 116000000000000)), (.bool false), (.bool false), (.bool true)]), (448, [(I 1)]), (2304, [(I 1000000000000), (I 116)]), (2112, [(.int .u64 (.ofNat 116000000000000)), (.bool false), (.bool false), (.bool true)]), (2048, [(.int .u64 (.ofNat 116000000000000)), (.bool false), (.bool false), (.bool true)]), (1984, [(I 1000000000000), (I 116)]), (1792, [(.int .u64 (.ofNat 116000000000000)), (.bool false), (.bool false), (.bool true)]), (1728, [(.int .u64 (.ofNat 116000000000000)), (.bool false), (.bool false), (.bool true)]), (1664, [(I 1000000000000), (I 116)]), (1472, [(.int .u64 (.ofNat 116000000000000)), (.bool false), (.bool false), (.bool true)]), (1408, [(.int .u64 (.ofNat 116000000000000)), (.bool false), (.bool false), (.bool true)]), (1344, [(I 1000000000000), (I 116)]), (1088, [(I 1000000000000), (I 116), (I 1000000000000), (I 116), (I 1000000000000), (I 116), (I 1000000000000), (I 116)])]
def Q120 : KC := ⟨87, [(A [(I 1000000000000), (I 116), (I 1000000000000), (I 116), (I 1000000000000), (I 116), (I 1000000000000), (I 116)]), (.func (.func 123) ⟨[]⟩ ⟨[(Z 448 0)]⟩)], 17, 320, B118, (.tuple ⟨[(A [(I 116000000000000), (I 116000000000000)]), (I 0)]⟩), 44, B119, [], []⟩
def L28 : List (Sum (FuncId × List Value × Value) KC) := [.inl (65, [(A [(S [49]), (S [49])]), (A [(S [49]), (S [49])])], (.tuple ⟨[(A [(S [49]), (S [49])]), (I 0)]⟩)),
  .inl (135, [(.int .u64 (.ofNat 11)), (.int .u64 (.ofNat 11))], (.int .u64 (.ofNat 11))),
  .inl (131, [(A [(I 11), (I 10)]), (A [(I 10), (I 11)])], (.tuple ⟨[(A [(S [49]), (S [49])]), (.bool true)]⟩)),
  .inl (65, [(A [(S [49, 49]), (S [49, 48])]), (A [(S [49, 49]), (S [49, 48])])], (.tuple ⟨[(A [(S [49]), (S [49])]), (I 0)]⟩)),
  .inl (142, [(.int .u64 (.ofNat 1000000000000)), (.int .u64 (.ofNat 116))], (.tuple ⟨[(.int .u64 (.ofNat 0)), (.int .u64 (.ofNat 116000000000000))]⟩)),
  .inl (90, [(I 1000000000000), (I 116), (I 1)], (A [(.int .u64 (.ofNat 116000000000000)), (.bool false), (.bool false), (.bool true)])),
  .inr Q120,
  .inl (70, [(A [(I 1000000000000), (I 1000000000000)]), (I 116), (I 1)], (.tuple ⟨[(A [(I 116000000000000), (I 116000000000000)]), (I 0)]⟩)),
  .inl (124, [(I 16000000000000), (I 16000000000000)], (.tuple ⟨[(A [(I 16000000000000), (I 16000000000000)]), (I 0)]⟩)),
  .inl (23, [(A [(I 116000000000000), (I 116000000000000)]), (A [(I 16000000000000), (I 16000000000000)])], (.tuple ⟨[(A [(I 100000000000000), (I 100000000000000)]), (I 0)]⟩)),
  .inl (23, [(A [(I 1000000000000), (I 1000000000000)]), (A [(I 1000000000000), (I 1000000000000)])], (.tuple ⟨[(A [(I 0), (I 0)]), (I 0)]⟩)),
  .inl (142, [(.int .u64 (.ofNat 0)), (.int .u64 (.ofNat 500))], (.tuple ⟨[(.int .u64 (.ofNat 0)), (.int .u64 (.ofNat 0))]⟩)),
  .inl (90, [(I 0), (I 500), (I 1)], (A [(.int .u64 (.ofNat 0)), (.bool false), (.bool false), (.bool true)]))]
def T28 : Tab := pushT T27 L28
def B121 : List (Nat × List Value) := [gq 256, gq 128, gq 192, (1280, [(I 0), (I 0), (I 0), (I 0)]), (1216, [(I 0), (I 0), (I 0), (I 0)]), (1152, [(I 0), (I 0)]), (2432, [(.int .u64 (.ofNat 0)), (.bool false), (.bool false), (.bool true)]), (2368, [(.int .u64 (.ofNat 0)), (.bool false), (.bool false), (.bool true)]), (448, [(I 1)]), (2304, [(I 0), (I 500)]), (2112, [(.int .u64 (.ofNat 0)), (.bool false), (.bool false), (.bool true)]), (2048, [(.int .u64 (.ofNat 0)), (.bool false), (.bool false), (.bool true)]), (1984, [(I 0), (I 500)]), (1792, [(.int .u64 (.ofNat 0)), (.bool false), (.bool false), (.bool true)]), (1728, [(.int .u64 (.ofNat 0)), (.bool false), (.bool false), (.bool true)]), (1664, [(I 0), (I 500)]), (1472, [(.int .u64 (.ofNat 0)), (.bool false), (.bool false), (.bool true)]), (1408, [(.int .u64 (.ofNat 0)), (.bool false), (.bool false), (.bool true)]), (1344, [(I 0), (I 500)]), (1088, [(I 0), (I 500), (I 0), (I 500), (I 0), (I 500), (I 0), (I 500)])]
def Q122 : KC := ⟨87, [(A [(I 0), (I 500), (I 0), (I 500), (I 0), (I 500), (I 0), (I 500)]), (.func (.func 123) ⟨[]⟩ ⟨[(Z 448 0)]⟩)], 17, 320, B118, (.tuple ⟨[(A [(I 0), (I 0)]), (I 0)]⟩), 44, B121, [], []⟩
def B123 : List (Nat × List Value) := [gq 256, gq 128, gq 192, (1280, [(I 0), (I 0), (I 0), (I 0)]), (1216, [(I 0), (I 0), (I 0), (I 0)]), (1152, [(I 0), (I 0)]), (2432, [(.int .u64 (.ofNat 0)), (.bool false), (.bool false), (.bool true)]), (2368, [(.int .u64 (.ofNat 0)), (.bool false), (.bool false), (.bool true)]), (448, [(I 1)]), (2304, [(I 0), (I 200)]), (2112, [(.int .u64 (.ofNat 0)), (.bool false), (.bool false), (.bool true)]), (2048, [(.int .u64 (.ofNat 0)), (.bool false), (.bool false), (.bool true)]), (1984, [(I 0), (I 200)]), (1792, [(.int .u64 (.ofNat 0)), (.bool false), (.bool false), (.bool true)]), (1728, [(.int .u64 (.ofNat 0)), (.bool false), (.bool false), (.bool true)]), (1664, [(I 0), (I 200)]), (1472, [(.int .u64 (.ofNat 0)), (.bool false), (.bool false), (.bool true)]), (1408, [(.int .u64 (.ofNat 0)), (.bool false), (.bool false), (.bool true)]), (1344, [(I 0), (I 200)]), (1088, [(I 0), (I 200), (I 0), (I 200), (I 0), (I 200), (I 0), (I 200)])]
def Q124 : KC := ⟨87, [(A [(I 0), (I 200), (I 0), (I 200), (I 0), (I 200), (I 0), (I 200)]), (.func (.func 123) ⟨[]⟩ ⟨[(Z 448 0)]⟩)], 17, 320, B118, (.tuple ⟨[(A [(I 0), (I 0)]), (I 0)]⟩), 44, B123, [], []⟩
def L29 : List (Sum (FuncId × List Value × Value) KC) := [.inr Q122,
  .inl (70, [(A [(I 0), (I 0)]), (I 500), (I 1)], (.tuple ⟨[(A [(I 0), (I 0)]), (I 0)]⟩)),
  .inl (142, [(.int .u64 (.ofNat 0)), (.int .u64 (.ofNat 200))], (.tuple ⟨[(.int .u64 (.ofNat 0)), (.int .u64 (.ofNat 0))]⟩)),
  .inl (90, [(I 0), (I 200), (I 1)], (A [(.int .u64 (.ofNat 0)), (.bool false), (.bool false), (.bool true)])),
  .inr Q124,
  .inl (70, [(A [(I 0), (I 0)]), (I 200), (I 1)], (.tuple ⟨[(A [(I 0), (I 0)]), (I 0)]⟩)),
  .inl (6, [(A [(S [57]), (S [49, 48]), (S [49]), (S [49]), (S [49, 49]), (S [49, 48])]), (A [(S [57]), (S [49, 48]), (S [49]), (S [49]), (S [49, 49]), (S [49, 48])])], (.tuple ⟨[(A [(I 100000000000000), (I 100000000000000), (I 0), (I 0), (I 0), (I 0)]), (I 0)]⟩)),
  .inl (135, [(.int .u64 (.ofNat 1)), (.int .u64 (.ofNat 8))], (.int .u64 (.ofNat 1))),
  .inl (137, [(A [(I 1), (I 8)])], (A [(S [49]), (S [56])])),
  .inl (81, [(I 1), (I 8)], (.tuple ⟨[(A [(S [49]), (S [56])]), (.bool true)]⟩)),
  .inl (5, [(I 1), (I 1), (I 1), (I 8)], (A [(S [49]), (S [56]), (S [49]), (S [56]), (S [49]), (S [56])])),
  .inl (174, [(S [56])], (.tuple ⟨[(I 8), (.bool true)]⟩)),
  .inl (125, [(A [(S [49]), (S [56])])], (.tuple ⟨[(A [(I 1), (I 8)]), (.bool true)]⟩))]
def T29 : Tab := pushT T28 L29
def L30 : List (Sum (FuncId × List Value × Value) KC) := [.inl (57, [(A [(S [49]), (S [56]), (S [49]), (S [56]), (S [49]), (S [56])]), (I 0)], (I 0)),
  .inl (57, [(A [(S [49]), (S [49]), (S [49]), (S [49]), (S [49]), (S [49])]), (I 1)], (I 0)),
  .inl (142, [(.int .u64 (.ofNat 8)), (.int .u64 (.ofNat 1))], (.tuple ⟨[(.int .u64 (.ofNat 0)), (.int .u64 (.ofNat 8))]⟩)),
  .inl (178, [(I 8), (I 1)], (.tuple ⟨[(I 8), (.bool true)]⟩)),
  .inl (131, [(A [(I 1), (I 8)]), (A [(I 1), (I 1)])], (.tuple ⟨[(A [(S [49]), (S [56])]), (.bool true)]⟩)),
  .inl (65, [(A [(S [49]), (S [56])]), (A [(S [49]), (S [49])])], (.tuple ⟨[(A [(S [49]), (S [56])]), (I 0)]⟩)),
  .inl (142, [(.int .u64 (.ofNat 216)), (.int .u64 (.ofNat 8))], (.tuple ⟨[(.int .u64 (.ofNat 0)), (.int .u64 (.ofNat 1728))]⟩)),
  .inl (162, [(A [(I 1), (I 8)]), (A [(I 216), (I 24389)])], (.tuple ⟨[(I 1), (.bool true)]⟩)),
  .inl (111, [(A [(S [49]), (S [56])]), (A [(S [50, 49, 54]), (S [50, 52, 51, 56, 57])])], (.tuple ⟨[(I 1), (I 0)]⟩)),
  .inl (193, [(A [(I 1), (I 8)]), (I 1000000000000)], (.tuple ⟨[(I 125000000000), (.bool true)]⟩)),
  .inl (147, [(A [(S [49]), (S [56])]), (I 1000000000000)], (.tuple ⟨[(I 125000000000), (I 0)]⟩)),
  .inl (135, [(.int .u64 (.ofNat 125000000000)), (.int .u64 (.ofNat 1000000000000))], (.int .u64 (.ofNat 125000000000))),
  .inl (81, [(I 125000000000), (I 1000000000000)], (.tuple ⟨[(A [(S [49]), (S [56])]), (.bool true)]⟩)),
  .inl (142, [(.int .u64 (.ofNat 1)), (.int .u64 (.ofNat 8))], (.tuple ⟨[(.int .u64 (.ofNat 0)), (.int .u64 (.ofNat 8))]⟩)),
  .inl (162, [(A [(I 1), (I 8)]), (A [(I 1), (I 8)])], (.tuple ⟨[(I 0), (.bool true)]⟩)),
  .inl (111, [(A [(S [49]), (S [56])]), (A [(S [49]), (S [56])])], (.tuple ⟨[(I 0), (I 0)]⟩)),
  .inl (93, [(A [(S [49]), (S [56])])], (.tuple ⟨[(A [(I 125000000000), (I 125000000000)]), (I 0)]⟩)),
  .inl (142, [(.int .u64 (.ofNat 1)), (.int .u64 (.ofNat 125000000000))], (.tuple ⟨[(.int .u64 (.ofNat 0)), (.int .u64 (.ofNat 125000000000))]⟩)),
  .inl (142, [(.int .u64 (.ofNat 125000000000)), (.int .u64 (.ofNat 1000000))], (.tuple ⟨[(.int .u64 (.ofNat 0)), (.int .u64 (.ofNat 125000000000000000))]⟩)),
  .inl (200, [(.int .u64 (.ofNat 125000000000000000))], (I 18)),
  .inl (200, [(.int .u64 (.ofNat 125000000))], (I 9)),
  .inl (200, [(.int .u64 (.ofNat 125000))], (I 6)),
  .inl (142, [(.int .u64 (.ofNat 1)), (.int .u64 (.ofNat 3))], (.tuple ⟨[(.int .u64 (.ofNat 0)), (.int .u64 (.ofNat 3))]⟩))]
def T30 : Tab := pushT T29 L30
def L31 : List (Sum (FuncId × List Value × Value) KC) := [.inl (142, [(.int .u64 (.ofNat 3)), (.int .u64 (.ofNat 3))], (.tuple ⟨[(.int .u64 (.ofNat 0)), (.int .u64 (.ofNat 9))]⟩)),
  .inl (142, [(.int .u64 (.ofNat 3)), (.int .u64 (.ofNat 9))], (.tuple ⟨[(.int .u64 (.ofNat 0)), (.int .u64 (.ofNat 27))]⟩)),
  .inl (142, [(.int .u64 (.ofNat 1)), (.int .u64 (.ofNat 4))], (.tuple ⟨[(.int .u64 (.ofNat 0)), (.int .u64 (.ofNat 4))]⟩)),
  .inl (142, [(.int .u64 (.ofNat 4)), (.int .u64 (.ofNat 4))], (.tuple ⟨[(.int .u64 (.ofNat 0)), (.int .u64 (.ofNat 16))]⟩)),
  .inl (142, [(.int .u64 (.ofNat 4)), (.int .u64 (.ofNat 16))], (.tuple ⟨[(.int .u64 (.ofNat 0)), (.int .u64 (.ofNat 64))]⟩)),
  .inl (142, [(.int .u64 (.ofNat 1)), (.int .u64 (.ofNat 5))], (.tuple ⟨[(.int .u64 (.ofNat 0)), (.int .u64 (.ofNat 5))]⟩)),
  .inl (142, [(.int .u64 (.ofNat 5)), (.int .u64 (.ofNat 5))], (.tuple ⟨[(.int .u64 (.ofNat 0)), (.int .u64 (.ofNat 25))]⟩)),
  .inl (142, [(.int .u64 (.ofNat 5)), (.int .u64 (.ofNat 25))], (.tuple ⟨[(.int .u64 (.ofNat 0)), (.int .u64 (.ofNat 125))]⟩)),
  .inl (142, [(.int .u64 (.ofNat 1)), (.int .u64 (.ofNat 6))], (.tuple ⟨[(.int .u64 (.ofNat 0)), (.int .u64 (.ofNat 6))]⟩)),
  .inl (142, [(.int .u64 (.ofNat 6)), (.int .u64 (.ofNat 6))], (.tuple ⟨[(.int .u64 (.ofNat 0)), (.int .u64 (.ofNat 36))]⟩)),
  .inl (142, [(.int .u64 (.ofNat 6)), (.int .u64 (.ofNat 36))], (.tuple ⟨[(.int .u64 (.ofNat 0)), (.int .u64 (.ofNat 216))]⟩)),
  .inl (142, [(.int .u64 (.ofNat 6)), (.int .u64 (.ofNat 10))], (.tuple ⟨[(.int .u64 (.ofNat 0)), (.int .u64 (.ofNat 60))]⟩)),
  .inl (142, [(.int .u64 (.ofNat 60)), (.int .u64 (.ofNat 60))], (.tuple ⟨[(.int .u64 (.ofNat 0)), (.int .u64 (.ofNat 3600))]⟩)),
  .inl (142, [(.int .u64 (.ofNat 1)), (.int .u64 (.ofNat 3600))], (.tuple ⟨[(.int .u64 (.ofNat 0)), (.int .u64 (.ofNat 3600))]⟩)),
  .inl (142, [(.int .u64 (.ofNat 60)), (.int .u64 (.ofNat 2))], (.tuple ⟨[(.int .u64 (.ofNat 0)), (.int .u64 (.ofNat 120))]⟩)),
  .inl (142, [(.int .u64 (.ofNat 51)), (.int .u64 (.ofNat 51))], (.tuple ⟨[(.int .u64 (.ofNat 0)), (.int .u64 (.ofNat 2601))]⟩)),
  .inl (142, [(.int .u64 (.ofNat 1)), (.int .u64 (.ofNat 2601))], (.tuple ⟨[(.int .u64 (.ofNat 0)), (.int .u64 (.ofNat 2601))]⟩)),
  .inl (142, [(.int .u64 (.ofNat 51)), (.int .u64 (.ofNat 2))], (.tuple ⟨[(.int .u64 (.ofNat 0)), (.int .u64 (.ofNat 102))]⟩)),
  .inl (142, [(.int .u64 (.ofNat 50)), (.int .u64 (.ofNat 50))], (.tuple ⟨[(.int .u64 (.ofNat 0)), (.int .u64 (.ofNat 2500))]⟩)),
  .inl (142, [(.int .u64 (.ofNat 1)), (.int .u64 (.ofNat 2500))], (.tuple ⟨[(.int .u64 (.ofNat 0)), (.int .u64 (.ofNat 2500))]⟩)),
  .inl (142, [(.int .u64 (.ofNat 50)), (.int .u64 (.ofNat 2))], (.tuple ⟨[(.int .u64 (.ofNat 0)), (.int .u64 (.ofNat 100))]⟩)),
  .inl (142, [(.int .u64 (.ofNat 51)), (.int .u64 (.ofNat 10))], (.tuple ⟨[(.int .u64 (.ofNat 0)), (.int .u64 (.ofNat 510))]⟩)),
  .inl (142, [(.int .u64 (.ofNat 510)), (.int .u64 (.ofNat 510))], (.tuple ⟨[(.int .u64 (.ofNat 0)), (.int .u64 (.ofNat 260100))]⟩)),
  .inl (142, [(.int .u64 (.ofNat 1)), (.int .u64 (.ofNat 260100))], (.tuple ⟨[(.int .u64 (.ofNat 0)), (.int .u64 (.ofNat 260100))]⟩)),
  .inl (142, [(.int .u64 (.ofNat 510)), (.int .u64 (.ofNat 2))], (.tuple ⟨[(.int .u64 (.ofNat 0)), (.int .u64 (.ofNat 1020))]⟩)),
  .inl (142, [(.int .u64 (.ofNat 500)), (.int .u64 (.ofNat 500))], (.tuple ⟨[(.int .u64 (.ofNat 0)), (.int .u64 (.ofNat 250000))]⟩)),
  .inl (142, [(.int .u64 (.ofNat 1)), (.int .u64 (.ofNat 250000))], (.tuple ⟨[(.int .u64 (.ofNat 0)), (.int .u64 (.ofNat 250000))]⟩)),
  .inl (142, [(.int .u64 (.ofNat 500)), (.int .u64 (.ofNat 2))], (.tuple ⟨[(.int .u64 (.ofNat 0)), (.int .u64 (.ofNat 1000))]⟩)),
  .inl (142, [(.int .u64 (.ofNat 501)), (.int .u64 (.ofNat 1000))], (.tuple ⟨[(.int .u64 (.ofNat 0)), (.int .u64 (.ofNat 501000))]⟩)),
  .inl (142, [(.int .u64 (.ofNat 501000)), (.int .u64 (.ofNat 501000))], (.tuple ⟨[(.int .u64 (.ofNat 0)), (.int .u64 (.ofNat 251001000000))]⟩)),
  .inl (142, [(.int .u64 (.ofNat 1)), (.int .u64 (.ofNat 251001000000))], (.tuple ⟨[(.int .u64 (.ofNat 0)), (.int .u64 (.ofNat 251001000000))]⟩)),
  .inl (142, [(.int .u64 (.ofNat 501000)), (.int .u64 (.ofNat 2))], (.tuple ⟨[(.int .u64 (.ofNat 0)), (.int .u64 (.ofNat 1002000))]⟩)),
  .inl (142, [(.int .u64 (.ofNat 500001)), (.int .u64 (.ofNat 500001))], (.tuple ⟨[(.int .u64 (.ofNat 0)), (.int .u64 (.ofNat 250001000001))]⟩)),
  .inl (142, [(.int .u64 (.ofNat 1)), (.int .u64 (.ofNat 250001000001))], (.tuple ⟨[(.int .u64 (.ofNat 0)), (.int .u64 (.ofNat 250001000001))]⟩)),
  .inl (142, [(.int .u64 (.ofNat 500001)), (.int .u64 (.ofNat 2))], (.tuple ⟨[(.int .u64 (.ofNat 0)), (.int .u64 (.ofNat 1000002))]⟩)),
  .inl (142, [(.int .u64 (.ofNat 500000)), (.int .u64 (.ofNat 500000))], (.tuple ⟨[(.int .u64 (.ofNat 0)), (.int .u64 (.ofNat 250000000000))]⟩)),
  .inl (142, [(.int .u64 (.ofNat 1)), (.int .u64 (.ofNat 250000000000))], (.tuple ⟨[(.int .u64 (.ofNat 0)), (.int .u64 (.ofNat 250000000000))]⟩)),
  .inl (142, [(.int .u64 (.ofNat 500000)), (.int .u64 (.ofNat 2))], (.tuple ⟨[(.int .u64 (.ofNat 0)), (.int .u64 (.ofNat 1000000))]⟩)),
  .inl (142, [(.int .u64 (.ofNat 500001)), (.int .u64 (.ofNat 1000000))], (.tuple ⟨[(.int .u64 (.ofNat 0)), (.int .u64 (.ofNat 500001000000))]⟩)),
  .inl (142, [(.int .u64 (.ofNat 500001000000)), (.int .u64 (.ofNat 500001000000))], (.tuple ⟨[(.int .u64 (.ofNat 13552)), (.int .u64 (.ofNat 10724314088156499968))]⟩))]
def T31 : Tab := pushT T30 L31
def L32 : List (Sum (FuncId × List Value × Value) KC) := [.inl (144, [(.int .u64 (.ofNat 13552)), (.int .u64 (.ofNat 10724314088156499968)), (.int .u64 (.ofNat 1000000000000000000))], (.tuple ⟨[(.int .u64 (.ofNat 250001)), (.int .u64 (.ofNat 1000000000000))]⟩)),
  .inl (142, [(.int .u64 (.ofNat 1)), (.int .u64 (.ofNat 250001))], (.tuple ⟨[(.int .u64 (.ofNat 0)), (.int .u64 (.ofNat 250001))]⟩)),
  .inl (142, [(.int .u64 (.ofNat 0)), (.int .u64 (.ofNat 3999968000255))], (.tuple ⟨[(.int .u64 (.ofNat 0)), (.int .u64 (.ofNat 0))]⟩)),
  .inl (142, [(.int .u64 (.ofNat 125000000000000000)), (.int .u64 (.ofNat 3999968000255))], (.tuple ⟨[(.int .u64 (.ofNat 27104837473)), (.int .u64 (.ofNat 7951671240615493632))]⟩)),
  .inl (144, [(.int .u64 (.ofNat 27104837473)), (.int .u64 (.ofNat 7951671240615493632)), (.int .u64 (.ofNat 1000000000000000000))], (.tuple ⟨[(.int .u64 (.ofNat 499996000031)), (.int .u64 (.ofNat 875000000000000000))]⟩)),
  .inl (142, [(.int .u64 (.ofNat 1000000000000)), (.int .u64 (.ofNat 3999968000255))], (.tuple ⟨[(.int .u64 (.ofNat 216838)), (.int .u64 (.ofNat 12908799968246689792))]⟩)),
  .inl (144, [(.int .u64 (.ofNat 216838)), (.int .u64 (.ofNat 12908799968246689792)), (.int .u64 (.ofNat 1000000000000000000))], (.tuple ⟨[(.int .u64 (.ofNat 3999968)), (.int .u64 (.ofNat 255000000000000))]⟩)),
  .inl (142, [(.int .u64 (.ofNat 250001)), (.int .u64 (.ofNat 3999968000255))], (.tuple ⟨[(.int .u64 (.ofNat 0)), (.int .u64 (.ofNat 999996000031750255))]⟩)),
  .inl (142, [(.int .u64 (.ofNat 499996000031)), (.int .u64 (.ofNat 1000000000000000000))], (.tuple ⟨[(.int .u64 (.ofNat 27104837473)), (.int .u64 (.ofNat 7076671240615493632))]⟩)),
  .inl (144, [(.int .u64 (.ofNat 27104837473)), (.int .u64 (.ofNat 7951671240615493632)), (.int .u64 (.ofNat 999996000035750223))], (.tuple ⟨[(.int .u64 (.ofNat 499998000005)), (.int .u64 (.ofNat 999980000267248885))]⟩)),
  .inl (142, [(.int .u64 (.ofNat 499998000005)), (.int .u64 (.ofNat 255000000000000))], (.tuple ⟨[(.int .u64 (.ofNat 6911761)), (.int .u64 (.ofNat 3735628195813044224))]⟩)),
  .inl (142, [(.int .u64 (.ofNat 999980000267248885)), (.int .u64 (.ofNat 1000000000000000000))], (.tuple ⟨[(.int .u64 (.ofNat 54209024436590327)), (.int .u64 (.ofNat 5192851972947181568))]⟩)),
  .inl (142, [(.int .u64 (.ofNat 255000000000000)), (.int .u64 (.ofNat 499998000005))], (.tuple ⟨[(.int .u64 (.ofNat 6911761)), (.int .u64 (.ofNat 3735628195813044224))]⟩)),
  .inl (144, [(.int .u64 (.ofNat 6911761)), (.int .u64 (.ofNat 3735628195813044224)), (.int .u64 (.ofNat 1000000000000000000))], (.tuple ⟨[(.int .u64 (.ofNat 127499490)), (.int .u64 (.ofNat 1275000000000000))]⟩)),
  .inl (142, [(.int .u64 (.ofNat 999996000035750223)), (.int .u64 (.ofNat 499998000005))], (.tuple ⟨[(.int .u64 (.ofNat 27104837473)), (.int .u64 (.ofNat 6951691240348244747))]⟩)),
  .inl (144, [(.int .u64 (.ofNat 27104837473)), (.int .u64 (.ofNat 6951691240475744237)), (.int .u64 (.ofNat 1000000000000000000))], (.tuple ⟨[(.int .u64 (.ofNat 499996000030)), (.int .u64 (.ofNat 875019999860250605))]⟩)),
  .inl (142, [(.int .u64 (.ofNat 3999948000414)), (.int .u64 (.ofNat 1000000000000000000))], (.tuple ⟨[(.int .u64 (.ofNat 216837615593)), (.int .u64 (.ofNat 16517389157400051712))]⟩)),
  .inl (144, [(.int .u64 (.ofNat 216837615593)), (.int .u64 (.ofNat 17516114157400051712)), (.int .u64 (.ofNat 3999968000255))], (.tuple ⟨[(.int .u64 (.ofNat 999995000000000000)), (.int .u64 (.ofNat 0))]⟩)),
  .inl (142, [(.int .u64 (.ofNat 500001000000)), (.int .u64 (.ofNat 2))], (.tuple ⟨[(.int .u64 (.ofNat 0)), (.int .u64 (.ofNat 1000002000000))]⟩)),
  .inl (142, [(.int .u64 (.ofNat 500000000001)), (.int .u64 (.ofNat 500000000001))], (.tuple ⟨[(.int .u64 (.ofNat 13552)), (.int .u64 (.ofNat 9724314088156499969))]⟩)),
  .inl (144, [(.int .u64 (.ofNat 13552)), (.int .u64 (.ofNat 9724314088156499969)), (.int .u64 (.ofNat 1000000000000000000))], (.tuple ⟨[(.int .u64 (.ofNat 250000)), (.int .u64 (.ofNat 1000000000001))]⟩)),
  .inl (142, [(.int .u64 (.ofNat 1)), (.int .u64 (.ofNat 1000000000001))], (.tuple ⟨[(.int .u64 (.ofNat 0)), (.int .u64 (.ofNat 1000000000001))]⟩)),
  .inl (142, [(.int .u64 (.ofNat 0)), (.int .u64 (.ofNat 3999984000063))], (.tuple ⟨[(.int .u64 (.ofNat 0)), (.int .u64 (.ofNat 0))]⟩))]
def T32 : Tab := pushT T31 L32
def L33 : List (Sum (FuncId × List Value × Value) KC) := [.inl (142, [(.int .u64 (.ofNat 125000000000000000)), (.int .u64 (.ofNat 3999984000063))], (.tuple ⟨[(.int .u64 (.ofNat 27104945892)), (.int .u64 (.ofNat 6405943724738838528))]⟩)),
  .inl (144, [(.int .u64 (.ofNat 27104945892)), (.int .u64 (.ofNat 6405943724738838528)), (.int .u64 (.ofNat 1000000000000000000))], (.tuple ⟨[(.int .u64 (.ofNat 499998000007)), (.int .u64 (.ofNat 875000000000000000))]⟩)),
  .inl (142, [(.int .u64 (.ofNat 1000000000001)), (.int .u64 (.ofNat 3999984000063))], (.tuple ⟨[(.int .u64 (.ofNat 216839)), (.int .u64 (.ofNat 10461867894521138239))]⟩)),
  .inl (144, [(.int .u64 (.ofNat 216839)), (.int .u64 (.ofNat 10461867894521138239)), (.int .u64 (.ofNat 1000000000000000000))], (.tuple ⟨[(.int .u64 (.ofNat 3999984)), (.int .u64 (.ofNat 66999984000063))]⟩)),
  .inl (142, [(.int .u64 (.ofNat 250000)), (.int .u64 (.ofNat 3999984000063))], (.tuple ⟨[(.int .u64 (.ofNat 0)), (.int .u64 (.ofNat 999996000015750000))]⟩)),
  .inl (142, [(.int .u64 (.ofNat 499998000007)), (.int .u64 (.ofNat 1000000000000000000))], (.tuple ⟨[(.int .u64 (.ofNat 27104945892)), (.int .u64 (.ofNat 5530943724738838528))]⟩)),
  .inl (144, [(.int .u64 (.ofNat 27104945892)), (.int .u64 (.ofNat 6405943724738838528)), (.int .u64 (.ofNat 999996000019749984))], (.tuple ⟨[(.int .u64 (.ofNat 499999999998)), (.int .u64 (.ofNat 39499968))]⟩)),
  .inl (142, [(.int .u64 (.ofNat 499999999998)), (.int .u64 (.ofNat 66999984000063))], (.tuple ⟨[(.int .u64 (.ofNat 1816038)), (.int .u64 (.ofNat 3785766153334382466))]⟩)),
  .inl (142, [(.int .u64 (.ofNat 39499968)), (.int .u64 (.ofNat 1000000000000000000))], (.tuple ⟨[(.int .u64 (.ofNat 2141297)), (.int .u64 (.ofNat 10255197958253314048))]⟩)),
  .inl (142, [(.int .u64 (.ofNat 66999984000063)), (.int .u64 (.ofNat 499999999998))], (.tuple ⟨[(.int .u64 (.ofNat 1816038)), (.int .u64 (.ofNat 3785766153334382466))]⟩)),
  .inl (144, [(.int .u64 (.ofNat 1816038)), (.int .u64 (.ofNat 3785766153334382466)), (.int .u64 (.ofNat 1000000000000000000))], (.tuple ⟨[(.int .u64 (.ofNat 33499991)), (.int .u64 (.ofNat 999897500031999874))]⟩)),
  .inl (142, [(.int .u64 (.ofNat 999996000019749984)), (.int .u64 (.ofNat 499999999998))], (.tuple ⟨[(.int .u64 (.ofNat 27104945892)), (.int .u64 (.ofNat 6405943724699338560))]⟩)),
  .inl (144, [(.int .u64 (.ofNat 27104945892)), (.int .u64 (.ofNat 6405943724732838551)), (.int .u64 (.ofNat 1000000000000000000))], (.tuple ⟨[(.int .u64 (.ofNat 499998000007)), (.int .u64 (.ofNat 874999999994000023))]⟩)),
  .inl (142, [(.int .u64 (.ofNat 5999976)), (.int .u64 (.ofNat 1000000000000000000))], (.tuple ⟨[(.int .u64 (.ofNat 325259)), (.int .u64 (.ofNat 6469329304950931456))]⟩)),
  .inl (144, [(.int .u64 (.ofNat 325259)), (.int .u64 (.ofNat 6469431804918931582)), (.int .u64 (.ofNat 3999984000063))], (.tuple ⟨[(.int .u64 (.ofNat 1500000000002)), (.int .u64 (.ofNat 0))]⟩)),
  .inl (142, [(.int .u64 (.ofNat 500000000001)), (.int .u64 (.ofNat 2))], (.tuple ⟨[(.int .u64 (.ofNat 0)), (.int .u64 (.ofNat 1000000000002))]⟩)),
  .inl (142, [(.int .u64 (.ofNat 500000000000)), (.int .u64 (.ofNat 500000000000))], (.tuple ⟨[(.int .u64 (.ofNat 13552)), (.int .u64 (.ofNat 9724313088156499968))]⟩)),
  .inl (144, [(.int .u64 (.ofNat 13552)), (.int .u64 (.ofNat 9724313088156499968)), (.int .u64 (.ofNat 1000000000000000000))], (.tuple ⟨[(.int .u64 (.ofNat 250000)), (.int .u64 (.ofNat 0))]⟩)),
  .inl (144, [(.int .u64 (.ofNat 27104945892)), (.int .u64 (.ofNat 6405943724738838528)), (.int .u64 (.ofNat 999996000015750000))], (.tuple ⟨[(.int .u64 (.ofNat 500000000000)), (.int .u64 (.ofNat 0))]⟩)),
  .inl (142, [(.int .u64 (.ofNat 500000000000)), (.int .u64 (.ofNat 0))], (.tuple ⟨[(.int .u64 (.ofNat 0)), (.int .u64 (.ofNat 0))]⟩)),
  .inl (142, [(.int .u64 (.ofNat 0)), (.int .u64 (.ofNat 500000000000))], (.tuple ⟨[(.int .u64 (.ofNat 0)), (.int .u64 (.ofNat 0))]⟩)),
  .inl (142, [(.int .u64 (.ofNat 999996000015750000)), (.int .u64 (.ofNat 500000000000))], (.tuple ⟨[(.int .u64 (.ofNat 27104945892)), (.int .u64 (.ofNat 6405943724738838528))]⟩)),
  .inl (142, [(.int .u64 (.ofNat 500000000000)), (.int .u64 (.ofNat 2))], (.tuple ⟨[(.int .u64 (.ofNat 0)), (.int .u64 (.ofNat 1000000000000))]⟩))]
def T33 : Tab := pushT T32 L33
def Q125 : KC := ⟨98, [(C 1408 0 1 1), (I 3)], 23, 704, B1, (C 1664 0 1 1), 27, B2, [], []⟩
def B126 : List (Nat × List Value) := [(1792, [(.int .u64 (.ofNat 3)), (.int .u64 (.ofNat 0))]), gq 256, gq 128, gq 192]
def B127 : List (Nat × List Value) := [gq 256, gq 128, gq 192, (2048, [(.int .u64 (.ofNat 27)), (.int .u64 (.ofNat 0))]), (1984, [(.int .u64 (.ofNat 9)), (.int .u64 (.ofNat 0))]), (1920, [(.int .u64 (.ofNat 3)), (.int .u64 (.ofNat 0))]), (1792, [(.int .u64 (.ofNat 3)), (.int .u64 (.ofNat 0))]), (1856, [(.int .u64 (.ofNat 1)), (.int .u64 (.ofNat 0))])]
def Q128 : KC := ⟨98, [(C 1792 0 1 1), (I 3)], 29, 704, B126, (C 2048 0 1 1), 33, B127, [], []⟩
def L34 : List (Sum (FuncId × List Value × Value) KC) := [.inl (142, [(.int .u64 (.ofNat 1)), (.int .u64 (.ofNat 500000000000))], (.tuple ⟨[(.int .u64 (.ofNat 0)), (.int .u64 (.ofNat 500000000000))]⟩)),
  .inl (142, [(.int .u64 (.ofNat 500000000000)), (.int .u64 (.ofNat 250000))], (.tuple ⟨[(.int .u64 (.ofNat 0)), (.int .u64 (.ofNat 125000000000000000))]⟩)),
  .inr Q125,
  .inr Q128]
def T34 : Tab := pushT T33 L34
def B129 : List (Nat × List Value) := [(2176, [(.int .u64 (.ofNat 4)), (.int .u64 (.ofNat 0))]), gq 256, gq 128, gq 192]
def B130 : List (Nat × List Value) := [gq 256, gq 128, gq 192, (2432, [(.int .u64 (.ofNat 64)), (.int .u64 (.ofNat 0))]), (2368, [(.int .u64 (.ofNat 16)), (.int .u64 (.ofNat 0))]), (2304, [(.int .u64 (.ofNat 4)), (.int .u64 (.ofNat 0))]), (2176, [(.int .u64 (.ofNat 4)), (.int .u64 (.ofNat 0))]), (2240, [(.int .u64 (.ofNat 1)), (.int .u64 (.ofNat 0))])]
def Q131 : KC := ⟨98, [(C 2176 0 1 1), (I 3)], 35, 704, B129, (C 2432 0 1 1), 39, B130, [], []⟩
def B132 : List (Nat × List Value) := [(2560, [(.int .u64 (.ofNat 5)), (.int .u64 (.ofNat 0))]), gq 256, gq 128, gq 192]
def B133 : List (Nat × List Value) := [gq 256, gq 128, gq 192, (2816, [(.int .u64 (.ofNat 125)), (.int .u64 (.ofNat 0))]), (2752, [(.int .u64 (.ofNat 25)), (.int .u64 (.ofNat 0))]), (2688, [(.int .u64 (.ofNat 5)), (.int .u64 (.ofNat 0))]), (2560, [(.int .u64 (.ofNat 5)), (.int .u64 (.ofNat 0))]), (2624, [(.int .u64 (.ofNat 1)), (.int .u64 (.ofNat 0))])]
def Q134 : KC := ⟨98, [(C 2560 0 1 1), (I 3)], 41, 704, B132, (C 2816 0 1 1), 45, B133, [], []⟩
def L35 : List (Sum (FuncId × List Value × Value) KC) := [.inr Q131,
  .inr Q134]
def T35 : Tab := pushT T34 L35
def B135 : List (Nat × List Value) := [(2944, [(.int .u64 (.ofNat 6)), (.int .u64 (.ofNat 0))]), gq 256, gq 128, gq 192]
def B136 : List (Nat × List Value) := [gq 256, gq 128, gq 192, (3200, [(.int .u64 (.ofNat 216)), (.int .u64 (.ofNat 0))]), (3136, [(.int .u64 (.ofNat 36)), (.int .u64 (.ofNat 0))]), (3072, [(.int .u64 (.ofNat 6)), (.int .u64 (.ofNat 0))]), (2944, [(.int .u64 (.ofNat 6)), (.int .u64 (.ofNat 0))]), (3008, [(.int .u64 (.ofNat 1)), (.int .u64 (.ofNat 0))])]
def Q137 : KC := ⟨98, [(C 2944 0 1 1), (I 3)], 47, 704, B135, (C 3200 0 1 1), 51, B136, [], []⟩
def B138 : List (Nat × List Value) := [(1280, [(.int .u64 (.ofNat 125))]), gq 256, gq 128, gq 192]
def B139 : List (Nat × List Value) := [gq 256, gq 128, gq 192, (3200, [(.int .u64 (.ofNat 216)), (.int .u64 (.ofNat 0))]), (1280, [(.int .u64 (.ofNat 125))]), (3136, [(.int .u64 (.ofNat 36)), (.int .u64 (.ofNat 0))]), (3072, [(.int .u64 (.ofNat 6)), (.int .u64 (.ofNat 0))]), (2944, [(.int .u64 (.ofNat 6)), (.int .u64 (.ofNat 0))]), (3008, [(.int .u64 (.ofNat 1)), (.int .u64 (.ofNat 0))]), (2880, [(.int .u64 (.ofNat 5)), (.int .u64 (.ofNat 0))]), (2816, [(.int .u64 (.ofNat 125)), (.int .u64 (.ofNat 0))]), (2752, [(.int .u64 (.ofNat 25)), (.int .u64 (.ofNat 0))]), (2688, [(.int .u64 (.ofNat 5)), (.int .u64 (.ofNat 0))]), (2560, [(.int .u64 (.ofNat 5)), (.int .u64 (.ofNat 0))]), (2624, [(.int .u64 (.ofNat 1)), (.int .u64 (.ofNat 0))]), (2496, [(.int .u64 (.ofNat 4)), (.int .u64 (.ofNat 0))]), (2432, [(.int .u64 (.ofNat 64)), (.int .u64 (.ofNat 0))]), (2368, [(.int .u64 (.ofNat 16)), (.int .u64 (.ofNat 0))]), (2304, [(.int .u64 (.ofNat 4)), (.int .u64 (.ofNat 0))]), (2176, [(.int .u64 (.ofNat 4)), (.int .u64 (.ofNat 0))]), (2240, [(.int .u64 (.ofNat 1)), (.int .u64 (.ofNat 0))]), (2112, [(.int .u64 (.ofNat 3)), (.int .u64 (.ofNat 0))]), (2048, [(.int .u64 (.ofNat 27)), (.int .u64 (.ofNat 0))]), (1984, [(.int .u64 (.ofNat 9)), (.int .u64 (.ofNat 0))]), (1920, [(.int .u64 (.ofNat 3)), (.int .u64 (.ofNat 0))]), (1792, [(.int .u64 (.ofNat 3)), (.int .u64 (.ofNat 0))]), (1856, [(.int .u64 (.ofNat 1)), (.int .u64 (.ofNat 0))]), (1728, [(.int .u64 (.ofNat 2)), (.int .u64 (.ofNat 0))]), (1664, [(.int .u64 (.ofNat 8)), (.int .u64 (.ofNat 0))]), (1600, [(.int .u64 (.ofNat 4)), (.int .u64 (.ofNat 0))]), (1536, [(.int .u64 (.ofNat 2)), (.int .u64 (.ofNat 0))]), (1408, [(.int .u64 (.ofNat 2)), (.int .u64 (.ofNat 0))]), (1472, [(.int .u64 (.ofNat 1)), (.int .u64 (.ofNat 0))]), (1344, [(.int .u64 (.ofNat 1)), (.int .u64 (.ofNat 0))])]
def Q140 : KC := ⟨154, [(C 1280 0 1 1), (I 3)], 21, 704, B138, (C 2880 0 1 1), 51, B139, [], []⟩
def L36 : List (Sum (FuncId × List Value × Value) KC) := [.inr Q137,
  .inr Q140]
def T36 : Tab := pushT T35 L36
def B141 : List (Nat × List Value) := [gq 256, gq 128, gq 192, (3392, [(.int .u64 (.ofNat 60)), (.int .u64 (.ofNat 0))])]
def B142 : List (Nat × List Value) := [gq 256, gq 128, gq 192, (3648, [(.int .u64 (.ofNat 3600)), (.int .u64 (.ofNat 0))]), (3584, [(.int .u64 (.ofNat 3600)), (.int .u64 (.ofNat 0))]), (3520, [(.int .u64 (.ofNat 1)), (.int .u64 (.ofNat 0))]), (3392, [(.int .u64 (.ofNat 60)), (.int .u64 (.ofNat 0))])]
def Q143 : KC := ⟨98, [(C 3392 0 1 1), (I 2)], 55, 704, B141, (C 3648 0 1 1), 58, B142, [], []⟩
def B144 : List (Nat × List Value) := [(3968, [(.int .u64 (.ofNat 51))]), gq 256, gq 128, gq 192]
def B145 : List (Nat × List Value) := [gq 256, gq 128, gq 192, (4160, [(.int .u64 (.ofNat 2601)), (.int .u64 (.ofNat 0))]), (4096, [(.int .u64 (.ofNat 2601)), (.int .u64 (.ofNat 0))]), (4032, [(.int .u64 (.ofNat 1)), (.int .u64 (.ofNat 0))]), (3968, [(.int .u64 (.ofNat 51))])]
def Q146 : KC := ⟨98, [(C 3968 0 1 1), (I 2)], 63, 704, B144, (C 4160 0 1 1), 66, B145, [], []⟩
def B147 : List (Nat × List Value) := [(4480, [(.int .u64 (.ofNat 50))]), gq 256, gq 128, gq 192]
def B148 : List (Nat × List Value) := [gq 256, gq 128, gq 192, (4672, [(.int .u64 (.ofNat 2500)), (.int .u64 (.ofNat 0))]), (4608, [(.int .u64 (.ofNat 2500)), (.int .u64 (.ofNat 0))]), (4544, [(.int .u64 (.ofNat 1)), (.int .u64 (.ofNat 0))]), (4480, [(.int .u64 (.ofNat 50))])]
def Q149 : KC := ⟨98, [(C 4480 0 1 1), (I 2)], 71, 704, B147, (C 4672 0 1 1), 74, B148, [], []⟩
def L37 : List (Sum (FuncId × List Value × Value) KC) := [.inr Q143,
  .inr Q146,
  .inr Q149]
def T37 : Tab := pushT T36 L37
def B150 : List (Nat × List Value) := [(1216, [(.int .u64 (.ofNat 125000))]), gq 256, gq 128, gq 192]
def B151 : List (Nat × List Value) := [(4992, [(.int .u64 (.ofNat 50))]), gq 256, gq 128, gq 192, (4480, [(.int .u64 (.ofNat 50))]), (4928, [(.int .u64 (.ofNat 150)), (.int .u64 (.ofNat 0))]), (4864, [(.int .u64 (.ofNat 100)), (.int .u64 (.ofNat 0))]), (4736, [(.int .u64 (.ofNat 50))]), (4800, [(.int .u64 (.ofNat 0)), (.int .u64 (.ofNat 0))]), (1216, [(.int .u64 (.ofNat 125000))]), (4672, [(.int .u64 (.ofNat 2500)), (.int .u64 (.ofNat 0))]), (4608, [(.int .u64 (.ofNat 2500)), (.int .u64 (.ofNat 0))]), (4544, [(.int .u64 (.ofNat 1)), (.int .u64 (.ofNat 0))]), (3968, [(.int .u64 (.ofNat 51))]), (4416, [(.int .u64 (.ofNat 150)), (.int .u64 (.ofNat 0))]), (4352, [(.int .u64 (.ofNat 102)), (.int .u64 (.ofNat 0))]), (4224, [(.int .u64 (.ofNat 48))]), (4288, [(.int .u64 (.ofNat 152)), (.int .u64 (.ofNat 0))]), (4160, [(.int .u64 (.ofNat 2601)), (.int .u64 (.ofNat 0))]), (4096, [(.int .u64 (.ofNat 2601)), (.int .u64 (.ofNat 0))]), (4032, [(.int .u64 (.ofNat 1)), (.int .u64 (.ofNat 0))]), (3392, [(.int .u64 (.ofNat 60)), (.int .u64 (.ofNat 0))]), (3904, [(.int .u64 (.ofNat 154)), (.int .u64 (.ofNat 0))]), (3840, [(.int .u64 (.ofNat 120)), (.int .u64 (.ofNat 0))]), (3712, [(.int .u64 (.ofNat 34))]), (3776, [(.int .u64 (.ofNat 2600)), (.int .u64 (.ofNat 0))]), (3648, [(.int .u64 (.ofNat 3600)), (.int .u64 (.ofNat 0))]), (3584, [(.int .u64 (.ofNat 3600)), (.int .u64 (.ofNat 0))]), (3520, [(.int .u64 (.ofNat 1)), (.int .u64 (.ofNat 0))]), (3456, [(.int .u64 (.ofNat 60)), (.int .u64 (.ofNat 0))]), (3328, [(.int .u64 (.ofNat 6)), (.int .u64 (.ofNat 0))]), (3264, [(.int .u64 (.ofNat 1)), (.int .u64 (.ofNat 0))]), (2880, [(.int .u64 (.ofNat 5)), (.int .u64 (.ofNat 0))]), (1280, [(.int .u64 (.ofNat 125))])]
def Q152 : KC := ⟨101, [(C 1216 0 1 1), (I 3)], 20, 704, B150, (C 4480 0 1 1), 79, B151, [], []⟩
def L38 : List (Sum (FuncId × List Value × Value) KC) := [.inr Q152]
def T38 : Tab := pushT T37 L38
def B153 : List (Nat × List Value) := [gq 256, gq 128, gq 192, (5184, [(.int .u64 (.ofNat 510)), (.int .u64 (.ofNat 0))])]
def B154 : List (Nat × List Value) := [gq 256, gq 128, gq 192, (5440, [(.int .u64 (.ofNat 260100)), (.int .u64 (.ofNat 0))]), (5376, [(.int .u64 (.ofNat 260100)), (.int .u64 (.ofNat 0))]), (5312, [(.int .u64 (.ofNat 1)), (.int .u64 (.ofNat 0))]), (5184, [(.int .u64 (.ofNat 510)), (.int .u64 (.ofNat 0))])]
def Q155 : KC := ⟨98, [(C 5184 0 1 1), (I 2)], 83, 704, B153, (C 5440 0 1 1), 86, B154, [], []⟩
def B156 : List (Nat × List Value) := [(5760, [(.int .u64 (.ofNat 500))]), gq 256, gq 128, gq 192]
def B157 : List (Nat × List Value) := [gq 256, gq 128, gq 192, (5952, [(.int .u64 (.ofNat 250000)), (.int .u64 (.ofNat 0))]), (5888, [(.int .u64 (.ofNat 250000)), (.int .u64 (.ofNat 0))]), (5824, [(.int .u64 (.ofNat 1)), (.int .u64 (.ofNat 0))]), (5760, [(.int .u64 (.ofNat 500))])]
def Q158 : KC := ⟨98, [(C 5760 0 1 1), (I 2)], 91, 704, B156, (C 5952 0 1 1), 94, B157, [], []⟩
def L39 : List (Sum (FuncId × List Value × Value) KC) := [.inr Q155,
  .inr Q158]
def T39 : Tab := pushT T38 L39
def B159 : List (Nat × List Value) := [(1152, [(.int .u64 (.ofNat 125000000))]), gq 256, gq 128, gq 192]
def B160 : List (Nat × List Value) := [(6272, [(.int .u64 (.ofNat 500))]), gq 256, gq 128, gq 192, (5760, [(.int .u64 (.ofNat 500))]), (6208, [(.int .u64 (.ofNat 1500)), (.int .u64 (.ofNat 0))]), (6144, [(.int .u64 (.ofNat 1000)), (.int .u64 (.ofNat 0))]), (6016, [(.int .u64 (.ofNat 500))]), (6080, [(.int .u64 (.ofNat 0)), (.int .u64 (.ofNat 0))]), (1152, [(.int .u64 (.ofNat 125000000))]), (5952, [(.int .u64 (.ofNat 250000)), (.int .u64 (.ofNat 0))]), (5888, [(.int .u64 (.ofNat 250000)), (.int .u64 (.ofNat 0))]), (5824, [(.int .u64 (.ofNat 1)), (.int .u64 (.ofNat 0))]), (5184, [(.int .u64 (.ofNat 510)), (.int .u64 (.ofNat 0))]), (5696, [(.int .u64 (.ofNat 1500)), (.int .u64 (.ofNat 0))]), (5632, [(.int .u64 (.ofNat 1020)), (.int .u64 (.ofNat 0))]), (5504, [(.int .u64 (.ofNat 480))]), (5568, [(.int .u64 (.ofNat 152000)), (.int .u64 (.ofNat 0))]), (5440, [(.int .u64 (.ofNat 260100)), (.int .u64 (.ofNat 0))]), (5376, [(.int .u64 (.ofNat 260100)), (.int .u64 (.ofNat 0))]), (5312, [(.int .u64 (.ofNat 1)), (.int .u64 (.ofNat 0))]), (5248, [(.int .u64 (.ofNat 510)), (.int .u64 (.ofNat 0))]), (5120, [(.int .u64 (.ofNat 51)), (.int .u64 (.ofNat 0))]), (5056, [(.int .u64 (.ofNat 1)), (.int .u64 (.ofNat 0))]), (4480, [(.int .u64 (.ofNat 50))]), (1216, [(.int .u64 (.ofNat 125000))])]
def Q161 : KC := ⟨101, [(C 1152 0 1 1), (I 3)], 19, 704, B159, (C 5760 0 1 1), 99, B160, [], []⟩
def L40 : List (Sum (FuncId × List Value × Value) KC) := [.inr Q161]
def T40 : Tab := pushT T39 L40
def B162 : List (Nat × List Value) := [gq 256, gq 128, gq 192, (6464, [(.int .u64 (.ofNat 501000)), (.int .u64 (.ofNat 0))])]
def B163 : List (Nat × List Value) := [gq 256, gq 128, gq 192, (6720, [(.int .u64 (.ofNat 251001000000)), (.int .u64 (.ofNat 0))]), (6656, [(.int .u64 (.ofNat 251001000000)), (.int .u64 (.ofNat 0))]), (6592, [(.int .u64 (.ofNat 1)), (.int .u64 (.ofNat 0))]), (6464, [(.int .u64 (.ofNat 501000)), (.int .u64 (.ofNat 0))])]
def Q164 : KC := ⟨98, [(C 6464 0 1 1), (I 2)], 103, 704, B162, (C 6720 0 1 1), 106, B163, [], []⟩
def B165 : List (Nat × List Value) := [(7040, [(.int .u64 (.ofNat 500001))]), gq 256, gq 128, gq 192]
def B166 : List (Nat × List Value) := [gq 256, gq 128, gq 192, (7232, [(.int .u64 (.ofNat 250001000001)), (.int .u64 (.ofNat 0))]), (7168, [(.int .u64 (.ofNat 250001000001)), (.int .u64 (.ofNat 0))]), (7104, [(.int .u64 (.ofNat 1)), (.int .u64 (.ofNat 0))]), (7040, [(.int .u64 (.ofNat 500001))])]
def Q167 : KC := ⟨98, [(C 7040 0 1 1), (I 2)], 111, 704, B165, (C 7232 0 1 1), 114, B166, [], []⟩
def B168 : List (Nat × List Value) := [(7552, [(.int .u64 (.ofNat 500000))]), gq 256, gq 128, gq 192]
def B169 : List (Nat × List Value) := [gq 256, gq 128, gq 192, (7744, [(.int .u64 (.ofNat 250000000000)), (.int .u64 (.ofNat 0))]), (7680, [(.int .u64 (.ofNat 250000000000)), (.int .u64 (.ofNat 0))]), (7616, [(.int .u64 (.ofNat 1)), (.int .u64 (.ofNat 0))]), (7552, [(.int .u64 (.ofNat 500000))])]
def Q170 : KC := ⟨98, [(C 7552 0 1 1), (I 2)], 119, 704, B168, (C 7744 0 1 1), 122, B169, [], []⟩
def L41 : List (Sum (FuncId × List Value × Value) KC) := [.inr Q164,
  .inr Q167,
  .inr Q170]
def T41 : Tab := pushT T40 L41
def B171 : List (Nat × List Value) := [(1088, [(.int .u64 (.ofNat 125000000000000000))]), gq 256, gq 128, gq 192]
def B172 : List (Nat × List Value) := [(8064, [(.int .u64 (.ofNat 500000))]), gq 256, gq 128, gq 192, (7552, [(.int .u64 (.ofNat 500000))]), (8000, [(.int .u64 (.ofNat 1500000)), (.int .u64 (.ofNat 0))]), (7936, [(.int .u64 (.ofNat 1000000)), (.int .u64 (.ofNat 0))]), (7808, [(.int .u64 (.ofNat 500000))]), (7872, [(.int .u64 (.ofNat 0)), (.int .u64 (.ofNat 0))]), (1088, [(.int .u64 (.ofNat 125000000000000000))]), (7744, [(.int .u64 (.ofNat 250000000000)), (.int .u64 (.ofNat 0))]), (7680, [(.int .u64 (.ofNat 250000000000)), (.int .u64 (.ofNat 0))]), (7616, [(.int .u64 (.ofNat 1)), (.int .u64 (.ofNat 0))]), (7040, [(.int .u64 (.ofNat 500001))]), (7488, [(.int .u64 (.ofNat 1500000)), (.int .u64 (.ofNat 0))]), (7424, [(.int .u64 (.ofNat 1000002)), (.int .u64 (.ofNat 0))]), (7296, [(.int .u64 (.ofNat 499998))]), (7360, [(.int .u64 (.ofNat 1500002)), (.int .u64 (.ofNat 0))]), (7232, [(.int .u64 (.ofNat 250001000001)), (.int .u64 (.ofNat 0))]), (7168, [(.int .u64 (.ofNat 250001000001)), (.int .u64 (.ofNat 0))]), (7104, [(.int .u64 (.ofNat 1)), (.int .u64 (.ofNat 0))]), (6464, [(.int .u64 (.ofNat 501000)), (.int .u64 (.ofNat 0))]), (6976, [(.int .u64 (.ofNat 1500005)), (.int .u64 (.ofNat 0))]), (6912, [(.int .u64 (.ofNat 1002000)), (.int .u64 (.ofNat 0))]), (6784, [(.int .u64 (.ofNat 498005))]), (6848, [(.int .u64 (.ofNat 246995000000)), (.int .u64 (.ofNat 0))]), (6720, [(.int .u64 (.ofNat 251001000000)), (.int .u64 (.ofNat 0))]), (6656, [(.int .u64 (.ofNat 251001000000)), (.int .u64 (.ofNat 0))]), (6592, [(.int .u64 (.ofNat 1)), (.int .u64 (.ofNat 0))]), (6528, [(.int .u64 (.ofNat 501000)), (.int .u64 (.ofNat 0))]), (6400, [(.int .u64 (.ofNat 501)), (.int .u64 (.ofNat 0))]), (6336, [(.int .u64 (.ofNat 1)), (.int .u64 (.ofNat 0))]), (5760, [(.int .u64 (.ofNat 500))]), (1152, [(.int .u64 (.ofNat 125000000))])]
def Q173 : KC := ⟨101, [(C 1088 0 1 1), (I 3)], 18, 704, B171, (C 7552 0 1 1), 127, B172, [], []⟩
def L42 : List (Sum (FuncId × List Value × Value) KC) := [.inr Q173]
def T42 : Tab := pushT T41 L42
def B174 : List (Nat × List Value) := [gq 256, gq 128, gq 192, (8256, [(.int .u64 (.ofNat 500001000000)), (.int .u64 (.ofNat 0))])]
def B175 : List (Nat × List Value) := [gq 256, gq 128, gq 192, (8512, [(.int .u64 (.ofNat 1000000000000)), (.int .u64 (.ofNat 250001)), (.int .u64 (.ofNat 0))]), (8448, [(.int .u64 (.ofNat 1000000000000)), (.int .u64 (.ofNat 250001))]), (8384, [(.int .u64 (.ofNat 1)), (.int .u64 (.ofNat 0))]), (8256, [(.int .u64 (.ofNat 500001000000)), (.int .u64 (.ofNat 0))])]
def Q176 : KC := ⟨98, [(C 8256 0 1 1), (I 2)], 131, 704, B174, (C 8512 0 2 2), 134, B175, [], []⟩
def B177 : List (Nat × List Value) := [gq 256, gq 128, gq 192, (8512, [(.int .u64 (.ofNat 1000000000000)), (.int .u64 (.ofNat 250001)), (.int .u64 (.ofNat 0))]), (960, [(.int .u64 (.ofNat 0)), (.int .u64 (.ofNat 125000000000000000)), (.int .u64 (.ofNat 0))])]
def B178 : List (Nat × List Value) := [gq 256, gq 128, gq 192, (8704, [(.int .u64 (.ofNat 499998000005))]), (8768, [(.int .u64 (.ofNat 999995000000000000)), (.int .u64 (.ofNat 249996))]), (8576, [(.int .u64 (.ofNat 998725000000000000)), (.int .u64 (.ofNat 999980000139749394)), (.int .u64 (.ofNat 0))]), (8640, [(.int .u64 (.ofNat 255000000000000)), (.int .u64 (.ofNat 999996000035750223)), (.int .u64 (.ofNat 0))]), (8512, [(.int .u64 (.ofNat 1000000000000)), (.int .u64 (.ofNat 250001)), (.int .u64 (.ofNat 0))]), (960, [(.int .u64 (.ofNat 0)), (.int .u64 (.ofNat 125000000000000000)), (.int .u64 (.ofNat 0))])]
def Q179 : KC := ⟨202, [(C 960 0 2 2), (C 8512 0 2 2)], 134, 704, B177, (.tuple ⟨[(C 8704 0 1 1), (C 8768 0 2 2)]⟩), 138, B178, [], []⟩
def L43 : List (Sum (FuncId × List Value × Value) KC) := [.inr Q176,
  .inr Q179]
def T43 : Tab := pushT T42 L43
def B180 : List (Nat × List Value) := [(8960, [(.int .u64 (.ofNat 500000000001))]), gq 256, gq 128, gq 192]
def B181 : List (Nat × List Value) := [gq 256, gq 128, gq 192, (9152, [(.int .u64 (.ofNat 1000000000001)), (.int .u64 (.ofNat 250000)), (.int .u64 (.ofNat 0))]), (9088, [(.int .u64 (.ofNat 1000000000001)), (.int .u64 (.ofNat 250000))]), (9024, [(.int .u64 (.ofNat 1)), (.int .u64 (.ofNat 0))]), (8960, [(.int .u64 (.ofNat 500000000001))])]
def Q182 : KC := ⟨98, [(C 8960 0 1 1), (I 2)], 141, 704, B180, (C 9152 0 2 2), 144, B181, [], []⟩
def B183 : List (Nat × List Value) := [gq 256, gq 128, gq 192, (9152, [(.int .u64 (.ofNat 1000000000001)), (.int .u64 (.ofNat 250000)), (.int .u64 (.ofNat 0))]), (960, [(.int .u64 (.ofNat 0)), (.int .u64 (.ofNat 125000000000000000)), (.int .u64 (.ofNat 0))])]
def B184 : List (Nat × List Value) := [gq 256, gq 128, gq 192, (9344, [(.int .u64 (.ofNat 499999999998))]), (9408, [(.int .u64 (.ofNat 1500000000002)), (.int .u64 (.ofNat 0))]), (9216, [(.int .u64 (.ofNat 102499968000126)), (.int .u64 (.ofNat 5999976)), (.int .u64 (.ofNat 0))]), (9280, [(.int .u64 (.ofNat 66999984000063)), (.int .u64 (.ofNat 999996000019749984)), (.int .u64 (.ofNat 0))]), (9152, [(.int .u64 (.ofNat 1000000000001)), (.int .u64 (.ofNat 250000)), (.int .u64 (.ofNat 0))]), (960, [(.int .u64 (.ofNat 0)), (.int .u64 (.ofNat 125000000000000000)), (.int .u64 (.ofNat 0))])]
def Q185 : KC := ⟨202, [(C 960 0 2 2), (C 9152 0 2 2)], 144, 704, B183, (.tuple ⟨[(C 9344 0 1 1), (C 9408 0 1 1)]⟩), 148, B184, [], []⟩
def L44 : List (Sum (FuncId × List Value × Value) KC) := [.inr Q182,
  .inr Q185]
def T44 : Tab := pushT T43 L44
def B186 : List (Nat × List Value) := [(9600, [(.int .u64 (.ofNat 500000000000))]), gq 256, gq 128, gq 192]
def B187 : List (Nat × List Value) := [gq 256, gq 128, gq 192, (9792, [(.int .u64 (.ofNat 0)), (.int .u64 (.ofNat 250000)), (.int .u64 (.ofNat 0))]), (9728, [(.int .u64 (.ofNat 0)), (.int .u64 (.ofNat 250000))]), (9664, [(.int .u64 (.ofNat 1)), (.int .u64 (.ofNat 0))]), (9600, [(.int .u64 (.ofNat 500000000000))])]
def Q188 : KC := ⟨98, [(C 9600 0 1 1), (I 2)], 151, 704, B186, (C 9792 0 2 2), 154, B187, [], []⟩
def B189 : List (Nat × List Value) := [gq 256, gq 128, gq 192, (9792, [(.int .u64 (.ofNat 0)), (.int .u64 (.ofNat 250000)), (.int .u64 (.ofNat 0))]), (960, [(.int .u64 (.ofNat 0)), (.int .u64 (.ofNat 125000000000000000)), (.int .u64 (.ofNat 0))])]
def B190 : List (Nat × List Value) := [gq 256, gq 128, gq 192, (9984, [(.int .u64 (.ofNat 500000000000))]), (10048, []), (9856, [(.int .u64 (.ofNat 0)), (.int .u64 (.ofNat 0)), (.int .u64 (.ofNat 0))]), (9920, [(.int .u64 (.ofNat 0)), (.int .u64 (.ofNat 999996000015750000)), (.int .u64 (.ofNat 0))]), (9792, [(.int .u64 (.ofNat 0)), (.int .u64 (.ofNat 250000)), (.int .u64 (.ofNat 0))]), (960, [(.int .u64 (.ofNat 0)), (.int .u64 (.ofNat 125000000000000000)), (.int .u64 (.ofNat 0))])]
def Q191 : KC := ⟨202, [(C 960 0 2 2), (C 9792 0 2 2)], 154, 704, B189, (.tuple ⟨[(C 9984 0 1 1), (C 10048 0 0 0)]⟩), 158, B190, [], []⟩
def L45 : List (Sum (FuncId × List Value × Value) KC) := [.inr Q188,
  .inr Q191]
def T45 : Tab := pushT T44 L45
def B192 : List (Nat × List Value) := [gq 256, gq 128, gq 192, (960, [(.int .u64 (.ofNat 0)), (.int .u64 (.ofNat 125000000000000000)), (.int .u64 (.ofNat 0))])]
def B193 : List (Nat × List Value) := [(10240, [(.int .u64 (.ofNat 500000000000))]), gq 256, gq 128, gq 192, (9600, [(.int .u64 (.ofNat 500000000000))]), (10176, [(.int .u64 (.ofNat 1500000000000)), (.int .u64 (.ofNat 0))]), (10112, [(.int .u64 (.ofNat 1000000000000)), (.int .u64 (.ofNat 0))]), (9984, [(.int .u64 (.ofNat 500000000000))]), (10048, []), (9856, [(.int .u64 (.ofNat 0)), (.int .u64 (.ofNat 0)), (.int .u64 (.ofNat 0))]), (9920, [(.int .u64 (.ofNat 0)), (.int .u64 (.ofNat 999996000015750000)), (.int .u64 (.ofNat 0))]), (9792, [(.int .u64 (.ofNat 0)), (.int .u64 (.ofNat 250000)), (.int .u64 (.ofNat 0))]), (960, [(.int .u64 (.ofNat 0)), (.int .u64 (.ofNat 125000000000000000)), (.int .u64 (.ofNat 0))]), (9728, [(.int .u64 (.ofNat 0)), (.int .u64 (.ofNat 250000))]), (9664, [(.int .u64 (.ofNat 1)), (.int .u64 (.ofNat 0))]), (8960, [(.int .u64 (.ofNat 500000000001))]), (9536, [(.int .u64 (.ofNat 1500000000000)), (.int .u64 (.ofNat 0))]), (9472, [(.int .u64 (.ofNat 1000000000002)), (.int .u64 (.ofNat 0))]), (9344, [(.int .u64 (.ofNat 499999999998))]), (9408, [(.int .u64 (.ofNat 1500000000002)), (.int .u64 (.ofNat 0))]), (9216, [(.int .u64 (.ofNat 102499968000126)), (.int .u64 (.ofNat 5999976)), (.int .u64 (.ofNat 0))]), (9280, [(.int .u64 (.ofNat 66999984000063)), (.int .u64 (.ofNat 999996000019749984)), (.int .u64 (.ofNat 0))]), (9152, [(.int .u64 (.ofNat 1000000000001)), (.int .u64 (.ofNat 250000)), (.int .u64 (.ofNat 0))]), (9088, [(.int .u64 (.ofNat 1000000000001)), (.int .u64 (.ofNat 250000))]), (9024, [(.int .u64 (.ofNat 1)), (.int .u64 (.ofNat 0))]), (8256, [(.int .u64 (.ofNat 500001000000)), (.int .u64 (.ofNat 0))]), (8896, [(.int .u64 (.ofNat 1500000000005)), (.int .u64 (.ofNat 0))]), (8832, [(.int .u64 (.ofNat 1000002000000)), (.int .u64 (.ofNat 0))]), (8704, [(.int .u64 (.ofNat 499998000005))]), (8768, [(.int .u64 (.ofNat 999995000000000000)), (.int .u64 (.ofNat 249996))]), (8576, [(.int .u64 (.ofNat 998725000000000000)), (.int .u64 (.ofNat 999980000139749394)), (.int .u64 (.ofNat 0))]), (8640, [(.int .u64 (.ofNat 255000000000000)), (.int .u64 (.ofNat 999996000035750223)), (.int .u64 (.ofNat 0))]), (8512, [(.int .u64 (.ofNat 1000000000000)), (.int .u64 (.ofNat 250001)), (.int .u64 (.ofNat 0))]), (8448, [(.int .u64 (.ofNat 1000000000000)), (.int .u64 (.ofNat 250001))]), (8384, [(.int .u64 (.ofNat 1)), (.int .u64 (.ofNat 0))]), (8320, [(.int .u64 (.ofNat 500001000000)), (.int .u64 (.ofNat 0))]), (8192, [(.int .u64 (.ofNat 500001)), (.int .u64 (.ofNat 0))]), (8128, [(.int .u64 (.ofNat 1)), (.int .u64 (.ofNat 0))]), (7552, [(.int .u64 (.ofNat 500000))]), (1088, [(.int .u64 (.ofNat 125000000000000000))])]
def Q194 : KC := ⟨101, [(C 960 0 2 2), (I 3)], 17, 704, B192, (C 9600 0 1 1), 161, B193, [], []⟩
def L46 : List (Sum (FuncId × List Value × Value) KC) := [.inr Q194]
def T46 : Tab := pushT T45 L46
def B195 : List (Nat × List Value) := [gq 256, gq 128, gq 192, (9600, [(.int .u64 (.ofNat 500000000000))])]
def B196 : List (Nat × List Value) := [gq 256, gq 128, gq 192, (10496, [(.int .u64 (.ofNat 0)), (.int .u64 (.ofNat 125000000000000000)), (.int .u64 (.ofNat 0))]), (10432, [(.int .u64 (.ofNat 0)), (.int .u64 (.ofNat 250000))]), (10368, [(.int .u64 (.ofNat 500000000000)), (.int .u64 (.ofNat 0))]), (9600, [(.int .u64 (.ofNat 500000000000))]), (10304, [(.int .u64 (.ofNat 1)), (.int .u64 (.ofNat 0))])]
def Q197 : KC := ⟨98, [(C 9600 0 1 1), (I 3)], 161, 704, B195, (C 10496 0 2 2), 165, B196, [], []⟩
def Q198 : KC := ⟨167, [(I 125000000000), (Z 576 0)], 11, 320, B58, (.tuple ⟨[(C 9600 0 1 1), (.bool true)]⟩), 165, ([(10496, [(.int .u64 (.ofNat 0)), (.int .u64 (.ofNat 125000000000000000)), (.int .u64 (.ofNat 0))]), (960, [(.int .u64 (.ofNat 0)), (.int .u64 (.ofNat 125000000000000000)), (.int .u64 (.ofNat 0))]), (10432, [(.int .u64 (.ofNat 0)), (.int .u64 (.ofNat 250000))]), (10368, [(.int .u64 (.ofNat 500000000000)), (.int .u64 (.ofNat 0))]), (9600, [(.int .u64 (.ofNat 500000000000))]), (10304, [(.int .u64 (.ofNat 1)), (.int .u64 (.ofNat 0))]), (1024, [(.int .u64 (.ofNat 125000000000000000)), (.int .u64 (.ofNat 0))]), (896, [(.int .u64 (.ofNat 125000000000)), (.int .u64 (.ofNat 0))]), (832, [(.int .u64 (.ofNat 1)), (.int .u64 (.ofNat 0))]), (768, [(.int .u64 (.ofNat 125000000000)), (.int .u64 (.ofNat 0))]), (704, [(I 1), (I 3)])] ++ B58), [], []⟩
def L47 : List (Sum (FuncId × List Value × Value) KC) := [.inr Q197,
  .inr Q198]
def T47 : Tab := pushT T46 L47
def B199 : List (Nat × List Value) := [(11264, [(.int .u64 (.ofNat 2)), (.int .u64 (.ofNat 0))]), gq 256, gq 128, gq 192]
def B200 : List (Nat × List Value) := [gq 256, gq 128, gq 192, (11520, [(.int .u64 (.ofNat 8)), (.int .u64 (.ofNat 0))]), (11456, [(.int .u64 (.ofNat 4)), (.int .u64 (.ofNat 0))]), (11392, [(.int .u64 (.ofNat 2)), (.int .u64 (.ofNat 0))]), (11264, [(.int .u64 (.ofNat 2)), (.int .u64 (.ofNat 0))]), (11328, [(.int .u64 (.ofNat 1)), (.int .u64 (.ofNat 0))])]
def Q201 : KC := ⟨98, [(C 11264 0 1 1), (I 3)], 177, 10560, B199, (C 11520 0 1 1), 181, B200, [], []⟩
def B202 : List (Nat × List Value) := [(11648, [(.int .u64 (.ofNat 3)), (.int .u64 (.ofNat 0))]), gq 256, gq 128, gq 192]
def B203 : List (Nat × List Value) := [gq 256, gq 128, gq 192, (11904, [(.int .u64 (.ofNat 27)), (.int .u64 (.ofNat 0))]), (11840, [(.int .u64 (.ofNat 9)), (.int .u64 (.ofNat 0))]), (11776, [(.int .u64 (.ofNat 3)), (.int .u64 (.ofNat 0))]), (11648, [(.int .u64 (.ofNat 3)), (.int .u64 (.ofNat 0))]), (11712, [(.int .u64 (.ofNat 1)), (.int .u64 (.ofNat 0))])]
def Q204 : KC := ⟨98, [(C 11648 0 1 1), (I 3)], 183, 10560, B202, (C 11904 0 1 1), 187, B203, [], []⟩
def L48 : List (Sum (FuncId × List Value × Value) KC) := [.inr Q201,
  .inr Q204]
def T48 : Tab := pushT T47 L48
def B205 : List (Nat × List Value) := [(12032, [(.int .u64 (.ofNat 4)), (.int .u64 (.ofNat 0))]), gq 256, gq 128, gq 192]
def B206 : List (Nat × List Value) := [gq 256, gq 128, gq 192, (12288, [(.int .u64 (.ofNat 64)), (.int .u64 (.ofNat 0))]), (12224, [(.int .u64 (.ofNat 16)), (.int .u64 (.ofNat 0))]), (12160, [(.int .u64 (.ofNat 4)), (.int .u64 (.ofNat 0))]), (12032, [(.int .u64 (.ofNat 4)), (.int .u64 (.ofNat 0))]), (12096, [(.int .u64 (.ofNat 1)), (.int .u64 (.ofNat 0))])]
def Q207 : KC := ⟨98, [(C 12032 0 1 1), (I 3)], 189, 10560, B205, (C 12288 0 1 1), 193, B206, [], []⟩
def B208 : List (Nat × List Value) := [(12416, [(.int .u64 (.ofNat 5)), (.int .u64 (.ofNat 0))]), gq 256, gq 128, gq 192]
def B209 : List (Nat × List Value) := [gq 256, gq 128, gq 192, (12672, [(.int .u64 (.ofNat 125)), (.int .u64 (.ofNat 0))]), (12608, [(.int .u64 (.ofNat 25)), (.int .u64 (.ofNat 0))]), (12544, [(.int .u64 (.ofNat 5)), (.int .u64 (.ofNat 0))]), (12416, [(.int .u64 (.ofNat 5)), (.int .u64 (.ofNat 0))]), (12480, [(.int .u64 (.ofNat 1)), (.int .u64 (.ofNat 0))])]
def Q210 : KC := ⟨98, [(C 12416 0 1 1), (I 3)], 195, 10560, B208, (C 12672 0 1 1), 199, B209, [], []⟩
def L49 : List (Sum (FuncId × List Value × Value) KC) := [.inr Q207,
  .inr Q210]
def T49 : Tab := pushT T48 L49
def B211 : List (Nat × List Value) := [(12800, [(.int .u64 (.ofNat 6)), (.int .u64 (.ofNat 0))]), gq 256, gq 128, gq 192]
def B212 : List (Nat × List Value) := [gq 256, gq 128, gq 192, (13056, [(.int .u64 (.ofNat 216)), (.int .u64 (.ofNat 0))]), (12992, [(.int .u64 (.ofNat 36)), (.int .u64 (.ofNat 0))]), (12928, [(.int .u64 (.ofNat 6)), (.int .u64 (.ofNat 0))]), (12800, [(.int .u64 (.ofNat 6)), (.int .u64 (.ofNat 0))]), (12864, [(.int .u64 (.ofNat 1)), (.int .u64 (.ofNat 0))])]
def Q213 : KC := ⟨98, [(C 12800 0 1 1), (I 3)], 201, 10560, B211, (C 13056 0 1 1), 205, B212, [], []⟩
def B214 : List (Nat × List Value) := [(11136, [(.int .u64 (.ofNat 125))]), gq 256, gq 128, gq 192]
def B215 : List (Nat × List Value) := [gq 256, gq 128, gq 192, (13056, [(.int .u64 (.ofNat 216)), (.int .u64 (.ofNat 0))]), (11136, [(.int .u64 (.ofNat 125))]), (12992, [(.int .u64 (.ofNat 36)), (.int .u64 (.ofNat 0))]), (12928, [(.int .u64 (.ofNat 6)), (.int .u64 (.ofNat 0))]), (12800, [(.int .u64 (.ofNat 6)), (.int .u64 (.ofNat 0))]), (12864, [(.int .u64 (.ofNat 1)), (.int .u64 (.ofNat 0))]), (12736, [(.int .u64 (.ofNat 5)), (.int .u64 (.ofNat 0))]), (12672, [(.int .u64 (.ofNat 125)), (.int .u64 (.ofNat 0))]), (12608, [(.int .u64 (.ofNat 25)), (.int .u64 (.ofNat 0))]), (12544, [(.int .u64 (.ofNat 5)), (.int .u64 (.ofNat 0))]), (12416, [(.int .u64 (.ofNat 5)), (.int .u64 (.ofNat 0))]), (12480, [(.int .u64 (.ofNat 1)), (.int .u64 (.ofNat 0))]), (12352, [(.int .u64 (.ofNat 4)), (.int .u64 (.ofNat 0))]), (12288, [(.int .u64 (.ofNat 64)), (.int .u64 (.ofNat 0))]), (12224, [(.int .u64 (.ofNat 16)), (.int .u64 (.ofNat 0))]), (12160, [(.int .u64 (.ofNat 4)), (.int .u64 (.ofNat 0))]), (12032, [(.int .u64 (.ofNat 4)), (.int .u64 (.ofNat 0))]), (12096, [(.int .u64 (.ofNat 1)), (.int .u64 (.ofNat 0))]), (11968, [(.int .u64 (.ofNat 3)), (.int .u64 (.ofNat 0))]), (11904, [(.int .u64 (.ofNat 27)), (.int .u64 (.ofNat 0))]), (11840, [(.int .u64 (.ofNat 9)), (.int .u64 (.ofNat 0))]), (11776, [(.int .u64 (.ofNat 3)), (.int .u64 (.ofNat 0))]), (11648, [(.int .u64 (.ofNat 3)), (.int .u64 (.ofNat 0))]), (11712, [(.int .u64 (.ofNat 1)), (.int .u64 (.ofNat 0))]), (11584, [(.int .u64 (.ofNat 2)), (.int .u64 (.ofNat 0))]), (11520, [(.int .u64 (.ofNat 8)), (.int .u64 (.ofNat 0))]), (11456, [(.int .u64 (.ofNat 4)), (.int .u64 (.ofNat 0))]), (11392, [(.int .u64 (.ofNat 2)), (.int .u64 (.ofNat 0))]), (11264, [(.int .u64 (.ofNat 2)), (.int .u64 (.ofNat 0))]), (11328, [(.int .u64 (.ofNat 1)), (.int .u64 (.ofNat 0))]), (11200, [(.int .u64 (.ofNat 1)), (.int .u64 (.ofNat 0))])]
def Q216 : KC := ⟨154, [(C 11136 0 1 1), (I 3)], 175, 10560, B214, (C 12736 0 1 1), 205, B215, [], []⟩
def L50 : List (Sum (FuncId × List Value × Value) KC) := [.inr Q213,
  .inr Q216]
def T50 : Tab := pushT T49 L50
def B217 : List (Nat × List Value) := [gq 256, gq 128, gq 192, (13248, [(.int .u64 (.ofNat 60)), (.int .u64 (.ofNat 0))])]
def B218 : List (Nat × List Value) := [gq 256, gq 128, gq 192, (13504, [(.int .u64 (.ofNat 3600)), (.int .u64 (.ofNat 0))]), (13440, [(.int .u64 (.ofNat 3600)), (.int .u64 (.ofNat 0))]), (13376, [(.int .u64 (.ofNat 1)), (.int .u64 (.ofNat 0))]), (13248, [(.int .u64 (.ofNat 60)), (.int .u64 (.ofNat 0))])]
def Q219 : KC := ⟨98, [(C 13248 0 1 1), (I 2)], 209, 10560, B217, (C 13504 0 1 1), 212, B218, [], []⟩
def B220 : List (Nat × List Value) := [(13824, [(.int .u64 (.ofNat 51))]), gq 256, gq 128, gq 192]
def B221 : List (Nat × List Value) := [gq 256, gq 128, gq 192, (14016, [(.int .u64 (.ofNat 2601)), (.int .u64 (.ofNat 0))]), (13952, [(.int .u64 (.ofNat 2601)), (.int .u64 (.ofNat 0))]), (13888, [(.int .u64 (.ofNat 1)), (.int .u64 (.ofNat 0))]), (13824, [(.int .u64 (.ofNat 51))])]
def Q222 : KC := ⟨98, [(C 13824 0 1 1), (I 2)], 217, 10560, B220, (C 14016 0 1 1), 220, B221, [], []⟩
def B223 : List (Nat × List Value) := [(14336, [(.int .u64 (.ofNat 50))]), gq 256, gq 128, gq 192]
def B224 : List (Nat × List Value) := [gq 256, gq 128, gq 192, (14528, [(.int .u64 (.ofNat 2500)), (.int .u64 (.ofNat 0))]), (14464, [(.int .u64 (.ofNat 2500)), (.int .u64 (.ofNat 0))]), (14400, [(.int .u64 (.ofNat 1)), (.int .u64 (.ofNat 0))]), (14336, [(.int .u64 (.ofNat 50))])]
def Q225 : KC := ⟨98, [(C 14336 0 1 1), (I 2)], 225, 10560, B223, (C 14528 0 1 1), 228, B224, [], []⟩
def L51 : List (Sum (FuncId × List Value × Value) KC) := [.inr Q219,
  .inr Q222,
  .inr Q225]
def T51 : Tab := pushT T50 L51
def B226 : List (Nat × List Value) := [(11072, [(.int .u64 (.ofNat 125000))]), gq 256, gq 128, gq 192]
def B227 : List (Nat × List Value) := [(14848, [(.int .u64 (.ofNat 50))]), gq 256, gq 128, gq 192, (14336, [(.int .u64 (.ofNat 50))]), (14784, [(.int .u64 (.ofNat 150)), (.int .u64 (.ofNat 0))]), (14720, [(.int .u64 (.ofNat 100)), (.int .u64 (.ofNat 0))]), (14592, [(.int .u64 (.ofNat 50))]), (14656, [(.int .u64 (.ofNat 0)), (.int .u64 (.ofNat 0))]), (11072, [(.int .u64 (.ofNat 125000))]), (14528, [(.int .u64 (.ofNat 2500)), (.int .u64 (.ofNat 0))]), (14464, [(.int .u64 (.ofNat 2500)), (.int .u64 (.ofNat 0))]), (14400, [(.int .u64 (.ofNat 1)), (.int .u64 (.ofNat 0))]), (13824, [(.int .u64 (.ofNat 51))]), (14272, [(.int .u64 (.ofNat 150)), (.int .u64 (.ofNat 0))]), (14208, [(.int .u64 (.ofNat 102)), (.int .u64 (.ofNat 0))]), (14080, [(.int .u64 (.ofNat 48))]), (14144, [(.int .u64 (.ofNat 152)), (.int .u64 (.ofNat 0))]), (14016, [(.int .u64 (.ofNat 2601)), (.int .u64 (.ofNat 0))]), (13952, [(.int .u64 (.ofNat 2601)), (.int .u64 (.ofNat 0))]), (13888, [(.int .u64 (.ofNat 1)), (.int .u64 (.ofNat 0))]), (13248, [(.int .u64 (.ofNat 60)), (.int .u64 (.ofNat 0))]), (13760, [(.int .u64 (.ofNat 154)), (.int .u64 (.ofNat 0))]), (13696, [(.int .u64 (.ofNat 120)), (.int .u64 (.ofNat 0))]), (13568, [(.int .u64 (.ofNat 34))]), (13632, [(.int .u64 (.ofNat 2600)), (.int .u64 (.ofNat 0))]), (13504, [(.int .u64 (.ofNat 3600)), (.int .u64 (.ofNat 0))]), (13440, [(.int .u64 (.ofNat 3600)), (.int .u64 (.ofNat 0))]), (13376, [(.int .u64 (.ofNat 1)), (.int .u64 (.ofNat 0))]), (13312, [(.int .u64 (.ofNat 60)), (.int .u64 (.ofNat 0))]), (13184, [(.int .u64 (.ofNat 6)), (.int .u64 (.ofNat 0))]), (13120, [(.int .u64 (.ofNat 1)), (.int .u64 (.ofNat 0))]), (12736, [(.int .u64 (.ofNat 5)), (.int .u64 (.ofNat 0))]), (11136, [(.int .u64 (.ofNat 125))])]
def Q228 : KC := ⟨101, [(C 11072 0 1 1), (I 3)], 174, 10560, B226, (C 14336 0 1 1), 233, B227, [], []⟩
def L52 : List (Sum (FuncId × List Value × Value) KC) := [.inr Q228]
def T52 : Tab := pushT T51 L52
def B229 : List (Nat × List Value) := [gq 256, gq 128, gq 192, (15040, [(.int .u64 (.ofNat 510)), (.int .u64 (.ofNat 0))])]
def B230 : List (Nat × List Value) := [gq 256, gq 128, gq 192, (15296, [(.int .u64 (.ofNat 260100)), (.int .u64 (.ofNat 0))]), (15232, [(.int .u64 (.ofNat 260100)), (.int .u64 (.ofNat 0))]), (15168, [(.int .u64 (.ofNat 1)), (.int .u64 (.ofNat 0))]), (15040, [(.int .u64 (.ofNat 510)), (.int .u64 (.ofNat 0))])]
def Q231 : KC := ⟨98, [(C 15040 0 1 1), (I 2)], 237, 10560, B229, (C 15296 0 1 1), 240, B230, [], []⟩
def B232 : List (Nat × List Value) := [(15616, [(.int .u64 (.ofNat 500))]), gq 256, gq 128, gq 192]
def B233 : List (Nat × List Value) := [gq 256, gq 128, gq 192, (15808, [(.int .u64 (.ofNat 250000)), (.int .u64 (.ofNat 0))]), (15744, [(.int .u64 (.ofNat 250000)), (.int .u64 (.ofNat 0))]), (15680, [(.int .u64 (.ofNat 1)), (.int .u64 (.ofNat 0))]), (15616, [(.int .u64 (.ofNat 500))])]
def Q234 : KC := ⟨98, [(C 15616 0 1 1), (I 2)], 245, 10560, B232, (C 15808 0 1 1), 248, B233, [], []⟩
def L53 : List (Sum (FuncId × List Value × Value) KC) := [.inr Q231,
  .inr Q234]
def T53 : Tab := pushT T52 L53
def B235 : List (Nat × List Value) := [(11008, [(.int .u64 (.ofNat 125000000))]), gq 256, gq 128, gq 192]
def B236 : List (Nat × List Value) := [(16128, [(.int .u64 (.ofNat 500))]), gq 256, gq 128, gq 192, (15616, [(.int .u64 (.ofNat 500))]), (16064, [(.int .u64 (.ofNat 1500)), (.int .u64 (.ofNat 0))]), (16000, [(.int .u64 (.ofNat 1000)), (.int .u64 (.ofNat 0))]), (15872, [(.int .u64 (.ofNat 500))]), (15936, [(.int .u64 (.ofNat 0)), (.int .u64 (.ofNat 0))]), (11008, [(.int .u64 (.ofNat 125000000))]), (15808, [(.int .u64 (.ofNat 250000)), (.int .u64 (.ofNat 0))]), (15744, [(.int .u64 (.ofNat 250000)), (.int .u64 (.ofNat 0))]), (15680, [(.int .u64 (.ofNat 1)), (.int .u64 (.ofNat 0))]), (15040, [(.int .u64 (.ofNat 510)), (.int .u64 (.ofNat 0))]), (15552, [(.int .u64 (.ofNat 1500)), (.int .u64 (.ofNat 0))]), (15488, [(.int .u64 (.ofNat 1020)), (.int .u64 (.ofNat 0))]), (15360, [(.int .u64 (.ofNat 480))]), (15424, [(.int .u64 (.ofNat 152000)), (.int .u64 (.ofNat 0))]), (15296, [(.int .u64 (.ofNat 260100)), (.int .u64 (.ofNat 0))]), (15232, [(.int .u64 (.ofNat 260100)), (.int .u64 (.ofNat 0))]), (15168, [(.int .u64 (.ofNat 1)), (.int .u64 (.ofNat 0))]), (15104, [(.int .u64 (.ofNat 510)), (.int .u64 (.ofNat 0))]), (14976, [(.int .u64 (.ofNat 51)), (.int .u64 (.ofNat 0))]), (14912, [(.int .u64 (.ofNat 1)), (.int .u64 (.ofNat 0))]), (14336, [(.int .u64 (.ofNat 50))]), (11072, [(.int .u64 (.ofNat 125000))])]
def Q237 : KC := ⟨101, [(C 11008 0 1 1), (I 3)], 173, 10560, B235, (C 15616 0 1 1), 253, B236, [], []⟩
def L54 : List (Sum (FuncId × List Value × Value) KC) := [.inr Q237]
def T54 : Tab := pushT T53 L54
def B238 : List (Nat × List Value) := [gq 256, gq 128, gq 192, (16320, [(.int .u64 (.ofNat 501000)), (.int .u64 (.ofNat 0))])]
def B239 : List (Nat × List Value) := [gq 256, gq 128, gq 192, (16576, [(.int .u64 (.ofNat 251001000000)), (.int .u64 (.ofNat 0))]), (16512, [(.int .u64 (.ofNat 251001000000)), (.int .u64 (.ofNat 0))]), (16448, [(.int .u64 (.ofNat 1)), (.int .u64 (.ofNat 0))]), (16320, [(.int .u64 (.ofNat 501000)), (.int .u64 (.ofNat 0))])]
def Q240 : KC := ⟨98, [(C 16320 0 1 1), (I 2)], 257, 10560, B238, (C 16576 0 1 1), 260, B239, [], []⟩
def B241 : List (Nat × List Value) := [(16896, [(.int .u64 (.ofNat 500001))]), gq 256, gq 128, gq 192]
def B242 : List (Nat × List Value) := [gq 256, gq 128, gq 192, (17088, [(.int .u64 (.ofNat 250001000001)), (.int .u64 (.ofNat 0))]), (17024, [(.int .u64 (.ofNat 250001000001)), (.int .u64 (.ofNat 0))]), (16960, [(.int .u64 (.ofNat 1)), (.int .u64 (.ofNat 0))]), (16896, [(.int .u64 (.ofNat 500001))])]
def Q243 : KC := ⟨98, [(C 16896 0 1 1), (I 2)], 265, 10560, B241, (C 17088 0 1 1), 268, B242, [], []⟩
def B244 : List (Nat × List Value) := [(17408, [(.int .u64 (.ofNat 500000))]), gq 256, gq 128, gq 192]
def B245 : List (Nat × List Value) := [gq 256, gq 128, gq 192, (17600, [(.int .u64 (.ofNat 250000000000)), (.int .u64 (.ofNat 0))]), (17536, [(.int .u64 (.ofNat 250000000000)), (.int .u64 (.ofNat 0))]), (17472, [(.int .u64 (.ofNat 1)), (.int .u64 (.ofNat 0))]), (17408, [(.int .u64 (.ofNat 500000))])]
def Q246 : KC := ⟨98, [(C 17408 0 1 1), (I 2)], 273, 10560, B244, (C 17600 0 1 1), 276, B245, [], []⟩
def L55 : List (Sum (FuncId × List Value × Value) KC) := [.inr Q240,
  .inr Q243,
  .inr Q246]
def T55 : Tab := pushT T54 L55
def B247 : List (Nat × List Value) := [(10944, [(.int .u64 (.ofNat 125000000000000000))]), gq 256, gq 128, gq 192]
def B248 : List (Nat × List Value) := [(17920, [(.int .u64 (.ofNat 500000))]), gq 256, gq 128, gq 192, (17408, [(.int .u64 (.ofNat 500000))]), (17856, [(.int .u64 (.ofNat 1500000)), (.int .u64 (.ofNat 0))]), (17792, [(.int .u64 (.ofNat 1000000)), (.int .u64 (.ofNat 0))]), (17664, [(.int .u64 (.ofNat 500000))]), (17728, [(.int .u64 (.ofNat 0)), (.int .u64 (.ofNat 0))]), (10944, [(.int .u64 (.ofNat 125000000000000000))]), (17600, [(.int .u64 (.ofNat 250000000000)), (.int .u64 (.ofNat 0))]), (17536, [(.int .u64 (.ofNat 250000000000)), (.int .u64 (.ofNat 0))]), (17472, [(.int .u64 (.ofNat 1)), (.int .u64 (.ofNat 0))]), (16896, [(.int .u64 (.ofNat 500001))]), (17344, [(.int .u64 (.ofNat 1500000)), (.int .u64 (.ofNat 0))]), (17280, [(.int .u64 (.ofNat 1000002)), (.int .u64 (.ofNat 0))]), (17152, [(.int .u64 (.ofNat 499998))]), (17216, [(.int .u64 (.ofNat 1500002)), (.int .u64 (.ofNat 0))]), (17088, [(.int .u64 (.ofNat 250001000001)), (.int .u64 (.ofNat 0))]), (17024, [(.int .u64 (.ofNat 250001000001)), (.int .u64 (.ofNat 0))]), (16960, [(.int .u64 (.ofNat 1)), (.int .u64 (.ofNat 0))]), (16320, [(.int .u64 (.ofNat 501000)), (.int .u64 (.ofNat 0))]), (16832, [(.int .u64 (.ofNat 1500005)), (.int .u64 (.ofNat 0))]), (16768, [(.int .u64 (.ofNat 1002000)), (.int .u64 (.ofNat 0))]), (16640, [(.int .u64 (.ofNat 498005))]), (16704, [(.int .u64 (.ofNat 246995000000)), (.int .u64 (.ofNat 0))]), (16576, [(.int .u64 (.ofNat 251001000000)), (.int .u64 (.ofNat 0))]), (16512, [(.int .u64 (.ofNat 251001000000)), (.int .u64 (.ofNat 0))]), (16448, [(.int .u64 (.ofNat 1)), (.int .u64 (.ofNat 0))]), (16384, [(.int .u64 (.ofNat 501000)), (.int .u64 (.ofNat 0))]), (16256, [(.int .u64 (.ofNat 501)), (.int .u64 (.ofNat 0))]), (16192, [(.int .u64 (.ofNat 1)), (.int .u64 (.ofNat 0))]), (15616, [(.int .u64 (.ofNat 500))]), (11008, [(.int .u64 (.ofNat 125000000))])]
def Q249 : KC := ⟨101, [(C 10944 0 1 1), (I 3)], 172, 10560, B247, (C 17408 0 1 1), 281, B248, [], []⟩
def L56 : List (Sum (FuncId × List Value × Value) KC) := [.inr Q249]
def T56 : Tab := pushT T55 L56
def B250 : List (Nat × List Value) := [gq 256, gq 128, gq 192, (18112, [(.int .u64 (.ofNat 500001000000)), (.int .u64 (.ofNat 0))])]
def B251 : List (Nat × List Value) := [gq 256, gq 128, gq 192, (18368, [(.int .u64 (.ofNat 1000000000000)), (.int .u64 (.ofNat 250001)), (.int .u64 (.ofNat 0))]), (18304, [(.int .u64 (.ofNat 1000000000000)), (.int .u64 (.ofNat 250001))]), (18240, [(.int .u64 (.ofNat 1)), (.int .u64 (.ofNat 0))]), (18112, [(.int .u64 (.ofNat 500001000000)), (.int .u64 (.ofNat 0))])]
def Q252 : KC := ⟨98, [(C 18112 0 1 1), (I 2)], 285, 10560, B250, (C 18368 0 2 2), 288, B251, [], []⟩
def B253 : List (Nat × List Value) := [gq 256, gq 128, gq 192, (18368, [(.int .u64 (.ofNat 1000000000000)), (.int .u64 (.ofNat 250001)), (.int .u64 (.ofNat 0))]), (10816, [(.int .u64 (.ofNat 0)), (.int .u64 (.ofNat 125000000000000000)), (.int .u64 (.ofNat 0))])]
def B254 : List (Nat × List Value) := [gq 256, gq 128, gq 192, (18560, [(.int .u64 (.ofNat 499998000005))]), (18624, [(.int .u64 (.ofNat 999995000000000000)), (.int .u64 (.ofNat 249996))]), (18432, [(.int .u64 (.ofNat 998725000000000000)), (.int .u64 (.ofNat 999980000139749394)), (.int .u64 (.ofNat 0))]), (18496, [(.int .u64 (.ofNat 255000000000000)), (.int .u64 (.ofNat 999996000035750223)), (.int .u64 (.ofNat 0))]), (18368, [(.int .u64 (.ofNat 1000000000000)), (.int .u64 (.ofNat 250001)), (.int .u64 (.ofNat 0))]), (10816, [(.int .u64 (.ofNat 0)), (.int .u64 (.ofNat 125000000000000000)), (.int .u64 (.ofNat 0))])]
def Q255 : KC := ⟨202, [(C 10816 0 2 2), (C 18368 0 2 2)], 288, 10560, B253, (.tuple ⟨[(C 18560 0 1 1), (C 18624 0 2 2)]⟩), 292, B254, [], []⟩
def L57 : List (Sum (FuncId × List Value × Value) KC) := [.inr Q252,
  .inr Q255]
def T57 : Tab := pushT T56 L57
def B256 : List (Nat × List Value) := [(18816, [(.int .u64 (.ofNat 500000000001))]), gq 256, gq 128, gq 192]
def B257 : List (Nat × List Value) := [gq 256, gq 128, gq 192, (19008, [(.int .u64 (.ofNat 1000000000001)), (.int .u64 (.ofNat 250000)), (.int .u64 (.ofNat 0))]), (18944, [(.int .u64 (.ofNat 1000000000001)), (.int .u64 (.ofNat 250000))]), (18880, [(.int .u64 (.ofNat 1)), (.int .u64 (.ofNat 0))]), (18816, [(.int .u64 (.ofNat 500000000001))])]
def Q258 : KC := ⟨98, [(C 18816 0 1 1), (I 2)], 295, 10560, B256, (C 19008 0 2 2), 298, B257, [], []⟩
def B259 : List (Nat × List Value) := [gq 256, gq 128, gq 192, (19008, [(.int .u64 (.ofNat 1000000000001)), (.int .u64 (.ofNat 250000)), (.int .u64 (.ofNat 0))]), (10816, [(.int .u64 (.ofNat 0)), (.int .u64 (.ofNat 125000000000000000)), (.int .u64 (.ofNat 0))])]
def B260 : List (Nat × List Value) := [gq 256, gq 128, gq 192, (19200, [(.int .u64 (.ofNat 499999999998))]), (19264, [(.int .u64 (.ofNat 1500000000002)), (.int .u64 (.ofNat 0))]), (19072, [(.int .u64 (.ofNat 102499968000126)), (.int .u64 (.ofNat 5999976)), (.int .u64 (.ofNat 0))]), (19136, [(.int .u64 (.ofNat 66999984000063)), (.int .u64 (.ofNat 999996000019749984)), (.int .u64 (.ofNat 0))]), (19008, [(.int .u64 (.ofNat 1000000000001)), (.int .u64 (.ofNat 250000)), (.int .u64 (.ofNat 0))]), (10816, [(.int .u64 (.ofNat 0)), (.int .u64 (.ofNat 125000000000000000)), (.int .u64 (.ofNat 0))])]
def Q261 : KC := ⟨202, [(C 10816 0 2 2), (C 19008 0 2 2)], 298, 10560, B259, (.tuple ⟨[(C 19200 0 1 1), (C 19264 0 1 1)]⟩), 302, B260, [], []⟩
def L58 : List (Sum (FuncId × List Value × Value) KC) := [.inr Q258,
  .inr Q261]
def T58 : Tab := pushT T57 L58
def B262 : List (Nat × List Value) := [(19456, [(.int .u64 (.ofNat 500000000000))]), gq 256, gq 128, gq 192]
def B263 : List (Nat × List Value) := [gq 256, gq 128, gq 192, (19648, [(.int .u64 (.ofNat 0)), (.int .u64 (.ofNat 250000)), (.int .u64 (.ofNat 0))]), (19584, [(.int .u64 (.ofNat 0)), (.int .u64 (.ofNat 250000))]), (19520, [(.int .u64 (.ofNat 1)), (.int .u64 (.ofNat 0))]), (19456, [(.int .u64 (.ofNat 500000000000))])]
def Q264 : KC := ⟨98, [(C 19456 0 1 1), (I 2)], 305, 10560, B262, (C 19648 0 2 2), 308, B263, [], []⟩
def B265 : List (Nat × List Value) := [gq 256, gq 128, gq 192, (19648, [(.int .u64 (.ofNat 0)), (.int .u64 (.ofNat 250000)), (.int .u64 (.ofNat 0))]), (10816, [(.int .u64 (.ofNat 0)), (.int .u64 (.ofNat 125000000000000000)), (.int .u64 (.ofNat 0))])]
def B266 : List (Nat × List Value) := [gq 256, gq 128, gq 192, (19840, [(.int .u64 (.ofNat 500000000000))]), (19904, []), (19712, [(.int .u64 (.ofNat 0)), (.int .u64 (.ofNat 0)), (.int .u64 (.ofNat 0))]), (19776, [(.int .u64 (.ofNat 0)), (.int .u64 (.ofNat 999996000015750000)), (.int .u64 (.ofNat 0))]), (19648, [(.int .u64 (.ofNat 0)), (.int .u64 (.ofNat 250000)), (.int .u64 (.ofNat 0))]), (10816, [(.int .u64 (.ofNat 0)), (.int .u64 (.ofNat 125000000000000000)), (.int .u64 (.ofNat 0))])]
def Q267 : KC := ⟨202, [(C 10816 0 2 2), (C 19648 0 2 2)], 308, 10560, B265, (.tuple ⟨[(C 19840 0 1 1), (C 19904 0 0 0)]⟩), 312, B266, [], []⟩
def L59 : List (Sum (FuncId × List Value × Value) KC) := [.inr Q264,
  .inr Q267]
def T59 : Tab := pushT T58 L59
def B268 : List (Nat × List Value) := [gq 256, gq 128, gq 192, (10816, [(.int .u64 (.ofNat 0)), (.int .u64 (.ofNat 125000000000000000)), (.int .u64 (.ofNat 0))])]
def B269 : List (Nat × List Value) := [(20096, [(.int .u64 (.ofNat 500000000000))]), gq 256, gq 128, gq 192, (19456, [(.int .u64 (.ofNat 500000000000))]), (20032, [(.int .u64 (.ofNat 1500000000000)), (.int .u64 (.ofNat 0))]), (19968, [(.int .u64 (.ofNat 1000000000000)), (.int .u64 (.ofNat 0))]), (19840, [(.int .u64 (.ofNat 500000000000))]), (19904, []), (19712, [(.int .u64 (.ofNat 0)), (.int .u64 (.ofNat 0)), (.int .u64 (.ofNat 0))]), (19776, [(.int .u64 (.ofNat 0)), (.int .u64 (.ofNat 999996000015750000)), (.int .u64 (.ofNat 0))]), (19648, [(.int .u64 (.ofNat 0)), (.int .u64 (.ofNat 250000)), (.int .u64 (.ofNat 0))]), (10816, [(.int .u64 (.ofNat 0)), (.int .u64 (.ofNat 125000000000000000)), (.int .u64 (.ofNat 0))]), (19584, [(.int .u64 (.ofNat 0)), (.int .u64 (.ofNat 250000))]), (19520, [(.int .u64 (.ofNat 1)), (.int .u64 (.ofNat 0))]), (18816, [(.int .u64 (.ofNat 500000000001))]), (19392, [(.int .u64 (.ofNat 1500000000000)), (.int .u64 (.ofNat 0))]), (19328, [(.int .u64 (.ofNat 1000000000002)), (.int .u64 (.ofNat 0))]), (19200, [(.int .u64 (.ofNat 499999999998))]), (19264, [(.int .u64 (.ofNat 1500000000002)), (.int .u64 (.ofNat 0))]), (19072, [(.int .u64 (.ofNat 102499968000126)), (.int .u64 (.ofNat 5999976)), (.int .u64 (.ofNat 0))]), (19136, [(.int .u64 (.ofNat 66999984000063)), (.int .u64 (.ofNat 999996000019749984)), (.int .u64 (.ofNat 0))]), (19008, [(.int .u64 (.ofNat 1000000000001)), (.int .u64 (.ofNat 250000)), (.int .u64 (.ofNat 0))]), (18944, [(.int .u64 (.ofNat 1000000000001)), (.int .u64 (.ofNat 250000))]), (18880, [(.int .u64 (.ofNat 1)), (.int .u64 (.ofNat 0))]), (18112, [(.int .u64 (.ofNat 500001000000)), (.int .u64 (.ofNat 0))]), (18752, [(.int .u64 (.ofNat 1500000000005)), (.int .u64 (.ofNat 0))]), (18688, [(.int .u64 (.ofNat 1000002000000)), (.int .u64 (.ofNat 0))]), (18560, [(.int .u64 (.ofNat 499998000005))]), (18624, [(.int .u64 (.ofNat 999995000000000000)), (.int .u64 (.ofNat 249996))]), (18432, [(.int .u64 (.ofNat 998725000000000000)), (.int .u64 (.ofNat 999980000139749394)), (.int .u64 (.ofNat 0))]), (18496, [(.int .u64 (.ofNat 255000000000000)), (.int .u64 (.ofNat 999996000035750223)), (.int .u64 (.ofNat 0))]), (18368, [(.int .u64 (.ofNat 1000000000000)), (.int .u64 (.ofNat 250001)), (.int .u64 (.ofNat 0))]), (18304, [(.int .u64 (.ofNat 1000000000000)), (.int .u64 (.ofNat 250001))]), (18240, [(.int .u64 (.ofNat 1)), (.int .u64 (.ofNat 0))]), (18176, [(.int .u64 (.ofNat 500001000000)), (.int .u64 (.ofNat 0))]), (18048, [(.int .u64 (.ofNat 500001)), (.int .u64 (.ofNat 0))]), (17984, [(.int .u64 (.ofNat 1)), (.int .u64 (.ofNat 0))]), (17408, [(.int .u64 (.ofNat 500000))]), (10944, [(.int .u64 (.ofNat 125000000000000000))])]
def Q270 : KC := ⟨101, [(C 10816 0 2 2), (I 3)], 171, 10560, B268, (C 19456 0 1 1), 315, B269, [], []⟩
def L60 : List (Sum (FuncId × List Value × Value) KC) := [.inr Q270]
def T60 : Tab := pushT T59 L60
def B271 : List (Nat × List Value) := [gq 256, gq 128, gq 192, (19456, [(.int .u64 (.ofNat 500000000000))])]
def B272 : List (Nat × List Value) := [gq 256, gq 128, gq 192, (20352, [(.int .u64 (.ofNat 0)), (.int .u64 (.ofNat 125000000000000000)), (.int .u64 (.ofNat 0))]), (20288, [(.int .u64 (.ofNat 0)), (.int .u64 (.ofNat 250000))]), (20224, [(.int .u64 (.ofNat 500000000000)), (.int .u64 (.ofNat 0))]), (19456, [(.int .u64 (.ofNat 500000000000))]), (20160, [(.int .u64 (.ofNat 1)), (.int .u64 (.ofNat 0))])]
def Q273 : KC := ⟨98, [(C 19456 0 1 1), (I 3)], 315, 10560, B271, (C 20352 0 2 2), 319, B272, [], []⟩
def Q274 : KC := ⟨167, [(I 125000000000), (Z 576 0)], 165, 320, B58, (.tuple ⟨[(C 19456 0 1 1), (.bool true)]⟩), 319, ([(20352, [(.int .u64 (.ofNat 0)), (.int .u64 (.ofNat 125000000000000000)), (.int .u64 (.ofNat 0))]), (10816, [(.int .u64 (.ofNat 0)), (.int .u64 (.ofNat 125000000000000000)), (.int .u64 (.ofNat 0))]), (20288, [(.int .u64 (.ofNat 0)), (.int .u64 (.ofNat 250000))]), (20224, [(.int .u64 (.ofNat 500000000000)), (.int .u64 (.ofNat 0))]), (19456, [(.int .u64 (.ofNat 500000000000))]), (20160, [(.int .u64 (.ofNat 1)), (.int .u64 (.ofNat 0))]), (10880, [(.int .u64 (.ofNat 125000000000000000)), (.int .u64 (.ofNat 0))]), (10752, [(.int .u64 (.ofNat 125000000000)), (.int .u64 (.ofNat 0))]), (10688, [(.int .u64 (.ofNat 1)), (.int .u64 (.ofNat 0))]), (10624, [(.int .u64 (.ofNat 125000000000)), (.int .u64 (.ofNat 0))]), (10560, [(I 1), (I 3)])] ++ B58), [], []⟩
def L61 : List (Sum (FuncId × List Value × Value) KC) := [.inr Q273,
  .inr Q274,
  .inl (112, [(A [(I 125000000000), (I 125000000000)]), (I 1), (I 3)], (.tuple ⟨[(A [(I 500000000000), (I 500000000000)]), (I 0)]⟩)),
  .inl (59, [(A [(S [49]), (S [56])])], (A [(I 500000000000), (I 500000000000)])),
  .inl (142, [(.int .u64 (.ofNat 500000000000)), (.int .u64 (.ofNat 116))], (.tuple ⟨[(.int .u64 (.ofNat 0)), (.int .u64 (.ofNat 58000000000000))]⟩)),
  .inl (90, [(I 500000000000), (I 116), (I 1)], (A [(.int .u64 (.ofNat 58000000000000)), (.bool false), (.bool false), (.bool true)]))]
def T61 : Tab := pushT T60 L61
def B275 : List (Nat × List Value) := [gq 256, gq 128, gq 192, (1280, [(I 58000000000000), (I 58000000000000), (I 58000000000000), (I 58000000000000)]), (1216, [(I 58000000000000), (I 58000000000000), (I 58000000000000), (I 58000000000000)]), (1152, [(I 58000000000000), (I 58000000000000)]), (2432, [(.int .u64 (.ofNat 58000000000000)), (.bool false), (.bool false), (.bool true)]), (2368, [(.int .u64 (.ofNat 58000000000000)), (.bool false), (.bool false), (.bool true)]), (448, [(I 1)]), (2304, [(I 500000000000), (I 116)]), (2112, [(.int .u64 (.ofNat 58000000000000)), (.bool false), (.bool false), (.bool true)]), (2048, [(.int .u64 (.ofNat 58000000000000)), (.bool false), (.bool false), (.bool true)]), (1984, [(I 500000000000), (I 116)]), (1792, [(.int .u64 (.ofNat 58000000000000)), (.bool false), (.bool false), (.bool true)]), (1728, [(.int .u64 (.ofNat 58000000000000)), (.bool false), (.bool false), (.bool true)]), (1664, [(I 500000000000), (I 116)]), (1472, [(.int .u64 (.ofNat 58000000000000)), (.bool false), (.bool false), (.bool true)]), (1408, [(.int .u64 (.ofNat 58000000000000)), (.bool false), (.bool false), (.bool true)]), (1344, [(I 500000000000), (I 116)]), (1088, [(I 500000000000), (I 116), (I 500000000000), (I 116), (I 500000000000), (I 116), (I 500000000000), (I 116)])]
def Q276 : KC := ⟨87, [(A [(I 500000000000), (I 116), (I 500000000000), (I 116), (I 500000000000), (I 116), (I 500000000000), (I 116)]), (.func (.func 123) ⟨[]⟩ ⟨[(Z 448 0)]⟩)], 17, 320, B118, (.tuple ⟨[(A [(I 58000000000000), (I 58000000000000)]), (I 0)]⟩), 44, B275, [], []⟩
def L62 : List (Sum (FuncId × List Value × Value) KC) := [.inr Q276,
  .inl (70, [(A [(I 500000000000), (I 500000000000)]), (I 116), (I 1)], (.tuple ⟨[(A [(I 58000000000000), (I 58000000000000)]), (I 0)]⟩)),
  .inl (23, [(A [(I 58000000000000), (I 58000000000000)]), (A [(I 16000000000000), (I 16000000000000)])], (.tuple ⟨[(A [(I 42000000000000), (I 42000000000000)]), (I 0)]⟩)),
  .inl (23, [(A [(I 500000000000), (I 500000000000)]), (A [(I 500000000000), (I 500000000000)])], (.tuple ⟨[(A [(I 0), (I 0)]), (I 0)]⟩)),
  .inl (6, [(A [(S [49]), (S [56]), (S [49]), (S [56]), (S [49]), (S [56])]), (A [(S [49]), (S [49]), (S [49]), (S [49]), (S [49]), (S [49])])], (.tuple ⟨[(A [(I 42000000000000), (I 42000000000000), (I 0), (I 0), (I 0), (I 0)]), (I 0)]⟩)),
  .inl (135, [(.int .u64 (.ofNat 42)), (.int .u64 (.ofNat 1))], (.int .u64 (.ofNat 1))),
  .inl (137, [(A [(I 42), (I 1)])], (A [(S [52, 50]), (S [49])])),
  .inl (81, [(I 42), (I 1)], (.tuple ⟨[(A [(S [52, 50]), (S [49])]), (.bool true)]⟩)),
  .inl (137, [(A [(I 0), (I 1)])], (A [(S [48]), (S [49])])),
  .inl (81, [(I 0), (I 1)], (.tuple ⟨[(A [(S [48]), (S [49])]), (.bool true)]⟩)),
  .inl (5, [(I 42), (I 0), (I 0), (I 1)], (A [(S [52, 50]), (S [49]), (S [48]), (S [49]), (S [48]), (S [49])])),
  .inl (174, [(S [52, 50])], (.tuple ⟨[(I 42), (.bool true)]⟩)),
  .inl (125, [(A [(S [52, 50]), (S [49])])], (.tuple ⟨[(A [(I 42), (I 1)]), (.bool true)]⟩)),
  .inl (174, [(S [48])], (.tuple ⟨[(I 0), (.bool true)]⟩)),
  .inl (125, [(A [(S [48]), (S [49])])], (.tuple ⟨[(A [(I 0), (I 1)]), (.bool true)]⟩)),
  .inl (26, [(A [(S [52, 50]), (S [49]), (S [48]), (S [49]), (S [48]), (S [49])])], (I 0))]
def T62 : Tab := pushT T61 L62
def L63 : List (Sum (FuncId × List Value × Value) KC) := [.inl (135, [(.int .u64 (.ofNat 16)), (.int .u64 (.ofNat 1))], (.int .u64 (.ofNat 1))),
  .inl (137, [(A [(I 16), (I 1)])], (A [(S [49, 54]), (S [49])])),
  .inl (81, [(I 16), (I 1)], (.tuple ⟨[(A [(S [49, 54]), (S [49])]), (.bool true)]⟩)),
  .inl (174, [(S [49, 54])], (.tuple ⟨[(I 16), (.bool true)]⟩)),
  .inl (125, [(A [(S [49, 54]), (S [49])])], (.tuple ⟨[(A [(I 16), (I 1)]), (.bool true)]⟩)),
  .inl (142, [(.int .u64 (.ofNat 42)), (.int .u64 (.ofNat 1))], (.tuple ⟨[(.int .u64 (.ofNat 0)), (.int .u64 (.ofNat 42))]⟩)),
  .inl (178, [(I 42), (I 1)], (.tuple ⟨[(I 42), (.bool true)]⟩)),
  .inl (142, [(.int .u64 (.ofNat 16)), (.int .u64 (.ofNat 1))], (.tuple ⟨[(.int .u64 (.ofNat 0)), (.int .u64 (.ofNat 16))]⟩)),
  .inl (178, [(I 16), (I 1)], (.tuple ⟨[(I 16), (.bool true)]⟩)),
  .inl (135, [(.int .u64 (.ofNat 58)), (.int .u64 (.ofNat 1))], (.int .u64 (.ofNat 1))),
  .inl (137, [(A [(I 58), (I 1)])], (A [(S [53, 56]), (S [49])])),
  .inl (127, [(A [(I 42), (I 1)]), (A [(I 16), (I 1)])], (.tuple ⟨[(A [(S [53, 56]), (S [49])]), (.bool true)]⟩)),
  .inl (74, [(A [(S [52, 50]), (S [49])]), (A [(S [49, 54]), (S [49])])], (.tuple ⟨[(A [(S [53, 56]), (S [49])]), (I 0)]⟩)),
  .inl (135, [(.int .u64 (.ofNat 116)), (.int .u64 (.ofNat 1))], (.int .u64 (.ofNat 1))),
  .inl (224, [(I 116), (I 10)], (S [49, 49, 54])),
  .inl (137, [(A [(I 116), (I 1)])], (A [(S [49, 49, 54]), (S [49])])),
  .inl (81, [(I 116), (I 1)], (.tuple ⟨[(A [(S [49, 49, 54]), (S [49])]), (.bool true)]⟩)),
  .inl (174, [(S [53, 56])], (.tuple ⟨[(I 58), (.bool true)]⟩)),
  .inl (125, [(A [(S [53, 56]), (S [49])])], (.tuple ⟨[(A [(I 58), (I 1)]), (.bool true)]⟩)),
  .inl (174, [(S [49, 49, 54])], (.tuple ⟨[(I 116), (.bool true)]⟩)),
  .inl (125, [(A [(S [49, 49, 54]), (S [49])])], (.tuple ⟨[(A [(I 116), (I 1)]), (.bool true)]⟩)),
  .inl (135, [(.int .u64 (.ofNat 58)), (.int .u64 (.ofNat 116))], (.int .u64 (.ofNat 58))),
  .inl (137, [(A [(I 1), (I 2)])], (A [(S [49]), (S [50])])),
  .inl (131, [(A [(I 58), (I 1)]), (A [(I 1), (I 116)])], (.tuple ⟨[(A [(S [49]), (S [50])]), (.bool true)]⟩)),
  .inl (65, [(A [(S [53, 56]), (S [49])]), (A [(S [49, 49, 54]), (S [49])])], (.tuple ⟨[(A [(S [49]), (S [50])]), (I 0)]⟩))]
def T63 : Tab := pushT T62 L63
def L64 : List (Sum (FuncId × List Value × Value) KC) := [.inl (135, [(.int .u64 (.ofNat 500)), (.int .u64 (.ofNat 1))], (.int .u64 (.ofNat 1))),
  .inl (227, [(.int .u64 (.ofNat 500))], (I 3)),
  .inl (224, [(I 500), (I 10)], (S [53, 48, 48])),
  .inl (137, [(A [(I 500), (I 1)])], (A [(S [53, 48, 48]), (S [49])])),
  .inl (81, [(I 500), (I 1)], (.tuple ⟨[(A [(S [53, 48, 48]), (S [49])]), (.bool true)]⟩)),
  .inl (174, [(S [53, 48, 48])], (.tuple ⟨[(I 500), (.bool true)]⟩)),
  .inl (125, [(A [(S [53, 48, 48]), (S [49])])], (.tuple ⟨[(A [(I 500), (I 1)]), (.bool true)]⟩)),
  .inl (142, [(.int .u64 (.ofNat 0)), (.int .u64 (.ofNat 1))], (.tuple ⟨[(.int .u64 (.ofNat 0)), (.int .u64 (.ofNat 0))]⟩)),
  .inl (178, [(I 0), (I 1)], (.tuple ⟨[(I 0), (.bool true)]⟩)),
  .inl (131, [(A [(I 0), (I 1)]), (A [(I 1), (I 500)])], (.tuple ⟨[(A [(S [48]), (S [49])]), (.bool true)]⟩)),
  .inl (65, [(A [(S [48]), (S [49])]), (A [(S [53, 48, 48]), (S [49])])], (.tuple ⟨[(A [(S [48]), (S [49])]), (I 0)]⟩)),
  .inl (174, [(S [50])], (.tuple ⟨[(I 2), (.bool true)]⟩)),
  .inl (135, [(.int .u64 (.ofNat 1)), (.int .u64 (.ofNat 2))], (.int .u64 (.ofNat 1))),
  .inl (125, [(A [(S [49]), (S [50])])], (.tuple ⟨[(A [(I 1), (I 2)]), (.bool true)]⟩)),
  .inl (135, [(.int .u64 (.ofNat 2)), (.int .u64 (.ofNat 1))], (.int .u64 (.ofNat 1))),
  .inl (142, [(.int .u64 (.ofNat 0)), (.int .u64 (.ofNat 2))], (.tuple ⟨[(.int .u64 (.ofNat 0)), (.int .u64 (.ofNat 0))]⟩)),
  .inl (178, [(I 0), (I 2)], (.tuple ⟨[(I 0), (.bool true)]⟩)),
  .inl (142, [(.int .u64 (.ofNat 2)), (.int .u64 (.ofNat 1))], (.tuple ⟨[(.int .u64 (.ofNat 0)), (.int .u64 (.ofNat 2))]⟩)),
  .inl (178, [(I 2), (I 1)], (.tuple ⟨[(I 2), (.bool true)]⟩)),
  .inl (127, [(A [(I 1), (I 2)]), (A [(I 0), (I 1)])], (.tuple ⟨[(A [(S [49]), (S [50])]), (.bool true)]⟩)),
  .inl (74, [(A [(S [49]), (S [50])]), (A [(S [48]), (S [49])])], (.tuple ⟨[(A [(S [49]), (S [50])]), (I 0)]⟩)),
  .inl (135, [(.int .u64 (.ofNat 200)), (.int .u64 (.ofNat 1))], (.int .u64 (.ofNat 1))),
  .inl (224, [(I 200), (I 10)], (S [50, 48, 48])),
  .inl (137, [(A [(I 200), (I 1)])], (A [(S [50, 48, 48]), (S [49])])),
  .inl (81, [(I 200), (I 1)], (.tuple ⟨[(A [(S [50, 48, 48]), (S [49])]), (.bool true)]⟩)),
  .inl (174, [(S [50, 48, 48])], (.tuple ⟨[(I 200), (.bool true)]⟩))]
def T64 : Tab := pushT T63 L64
def B277 : List (Nat × List Value) := [(1536, [(.int .u64 (.ofNat 1))]), gq 256, gq 128, gq 192]
def B278 : List (Nat × List Value) := [gq 256, gq 128, gq 192, (2944, [(.int .u64 (.ofNat 1)), (.int .u64 (.ofNat 0))]), (2880, [(.int .u64 (.ofNat 1)), (.int .u64 (.ofNat 0))]), (2816, [(.int .u64 (.ofNat 1)), (.int .u64 (.ofNat 0))]), (1536, [(.int .u64 (.ofNat 1))]), (2752, [(.int .u64 (.ofNat 1)), (.int .u64 (.ofNat 0))])]
def Q279 : KC := ⟨98, [(C 1536 0 1 1), (I 3)], 43, 2752, B277, (C 2944 0 1 1), 47, B278, [], []⟩
def L65 : List (Sum (FuncId × List Value × Value) KC) := [.inl (125, [(A [(S [50, 48, 48]), (S [49])])], (.tuple ⟨[(A [(I 200), (I 1)]), (.bool true)]⟩)),
  .inl (131, [(A [(I 0), (I 1)]), (A [(I 1), (I 200)])], (.tuple ⟨[(A [(S [48]), (S [49])]), (.bool true)]⟩)),
  .inl (65, [(A [(S [48]), (S [49])]), (A [(S [50, 48, 48]), (S [49])])], (.tuple ⟨[(A [(S [48]), (S [49])]), (I 0)]⟩)),
  .inl (75, [(A [(S [49]), (S [50])]), (A [(S [48]), (S [49])])], (.tuple ⟨[(A [(S [49]), (S [50])]), (I 0)]⟩)),
  .inl (135, [(.int .u64 (.ofNat 6)), (.int .u64 (.ofNat 29))], (.int .u64 (.ofNat 1))),
  .inl (137, [(A [(I 6), (I 29)])], (A [(S [54]), (S [50, 57])])),
  .inl (81, [(I 6), (I 29)], (.tuple ⟨[(A [(S [54]), (S [50, 57])]), (.bool true)]⟩)),
  .inl (174, [(S [54])], (.tuple ⟨[(I 6), (.bool true)]⟩)),
  .inl (174, [(S [50, 57])], (.tuple ⟨[(I 29), (.bool true)]⟩)),
  .inl (125, [(A [(S [54]), (S [50, 57])])], (.tuple ⟨[(A [(I 6), (I 29)]), (.bool true)]⟩)),
  .inl (142, [(.int .u64 (.ofNat 1)), (.int .u64 (.ofNat 29))], (.tuple ⟨[(.int .u64 (.ofNat 0)), (.int .u64 (.ofNat 29))]⟩)),
  .inl (142, [(.int .u64 (.ofNat 6)), (.int .u64 (.ofNat 2))], (.tuple ⟨[(.int .u64 (.ofNat 0)), (.int .u64 (.ofNat 12))]⟩)),
  .inl (162, [(A [(I 1), (I 2)]), (A [(I 6), (I 29)])], (.tuple ⟨[(I 1), (.bool true)]⟩)),
  .inl (161, [(A [(S [49]), (S [50])]), (A [(S [54]), (S [50, 57])]), (.func (.func 162) ⟨[]⟩ ⟨[]⟩), (.func (.func 163) ⟨[]⟩ ⟨[]⟩)], (.tuple ⟨[(I 1), (I 0)]⟩)),
  .inr Q279]
def T65 : Tab := pushT T64 L65
def B280 : List (Nat × List Value) := [gq 256, gq 128, gq 192, (1856, [(.int .u64 (.ofNat 2))])]
def B281 : List (Nat × List Value) := [gq 256, gq 128, gq 192, (3264, [(.int .u64 (.ofNat 8)), (.int .u64 (.ofNat 0))]), (3200, [(.int .u64 (.ofNat 4)), (.int .u64 (.ofNat 0))]), (3136, [(.int .u64 (.ofNat 2)), (.int .u64 (.ofNat 0))]), (1856, [(.int .u64 (.ofNat 2))]), (3072, [(.int .u64 (.ofNat 1)), (.int .u64 (.ofNat 0))])]
def Q282 : KC := ⟨98, [(C 1856 0 1 1), (I 3)], 48, 3072, B280, (C 3264 0 1 1), 52, B281, [], []⟩
def B283 : List (Nat × List Value) := [(1088, [(I 3)]), gq 256, gq 128, gq 192]
def B284 : List (Nat × List Value) := [gq 256, gq 128, gq 192, (1856, [(.int .u64 (.ofNat 2))]), (1536, [(.int .u64 (.ofNat 1))]), (1088, [(I 3)]), (2304, [(C 1536 0 1 1), (.bool false), (C 1856 0 1 1)]), (2240, [(.int .u64 (.ofNat 1)), (.int .u64 (.ofNat 0))]), (2176, [(.int .u64 (.ofNat 2))]), (2112, [(C 1856 0 1 1), (.bool false)]), (2048, [(C 1856 0 1 1), (.bool false)]), (1984, [(C 1856 0 1 1), (.bool false)]), (1920, [(.int .u64 (.ofNat 2))]), (1792, [(C 1856 0 1 1), (.bool false)]), (1728, [(C 1536 0 1 1), (.bool false)]), (1664, [(C 1536 0 1 1), (.bool false)]), (1600, [(.int .u64 (.ofNat 1))]), (1472, [(C 1536 0 1 1), (.bool false)]), (1408, [(C 1536 0 1 1), (.bool false), (C 1856 0 1 1)]), (1344, [(S [49]), (S [50])]), (1280, [(S [49]), (S [56])]), (1216, [(S [49]), (S [50])])]
def Q285 : KC := ⟨113, [(A [(S [49]), (S [50])]), (.func (.func 114) ⟨[]⟩ ⟨[(Z 1088 0)]⟩)], 19, 1024, B283, (.tuple ⟨[(A [(S [49]), (S [56])]), (I 0)]⟩), 63, B284, [], []⟩
def L66 : List (Sum (FuncId × List Value × Value) KC) := [.inr Q282,
  .inr Q285,
  .inl (62, [(A [(S [49]), (S [50])])], (A [(S [49]), (S [56])])),
  .inl (76, [(A [(S [49]), (S [56])]), (A [(S [49]), (S [49])])], (.tuple ⟨[(A [(S [49]), (S [56])]), (I 0)]⟩))]
def T66 : Tab := pushT T65 L66
def B286 : List (Nat × List Value) := [(576, [(S [49]), (S [49]), (S [49]), (S [49]), (S [49]), (S [49])]), (512, [(S [52, 50]), (S [49]), (S [48]), (S [49]), (S [48]), (S [49])]), gq 256, gq 128, gq 192]
def B287 : List (Nat × List Value) := [(4480, [(S [49]), (S [50]), (S [49]), (S [50]), (S [49]), (S [50])]), (1024, [(.func (.func 59) ⟨[]⟩ ⟨[]⟩), (.func (.func 62) ⟨[]⟩ ⟨[]⟩)]), (576, [(S [49]), (S [49]), (S [49]), (S [49]), (S [49]), (S [49])]), gq 256, gq 128, gq 192, (4416, [(S [49]), (S [50])]), (2368, [(S [49]), (S [50])]), (512, [(S [52, 50]), (S [49]), (S [48]), (S [49]), (S [48]), (S [49])]), (3392, [(S [49]), (S [50])]), (896, [(S [49]), (S [56]), (S [49]), (S [56]), (S [49]), (S [56])])]
def Q288 : KC := ⟨28, [(Z 512 0), (Z 576 0)], 14, 512, B286, (A [(S [49]), (S [56]), (S [49]), (S [56]), (S [49]), (S [56])]), 101, B287, [], []⟩
def B289 : List (Nat × List Value) := [(640, [(S [49]), (S [49]), (S [49]), (S [49]), (S [49]), (S [49])]), (576, [(S [52, 50]), (S [49]), (S [48]), (S [49]), (S [48]), (S [49])]), gq 256, gq 128, gq 192]
def B290 : List (Nat × List Value) := [(4544, [(S [49]), (S [50]), (S [49]), (S [50]), (S [49]), (S [50])]), (1088, [(.func (.func 59) ⟨[]⟩ ⟨[]⟩), (.func (.func 62) ⟨[]⟩ ⟨[]⟩)]), (640, [(S [49]), (S [49]), (S [49]), (S [49]), (S [49]), (S [49])]), gq 256, gq 128, gq 192, (4480, [(S [49]), (S [50])]), (2432, [(S [49]), (S [50])]), (576, [(S [52, 50]), (S [49]), (S [48]), (S [49]), (S [48]), (S [49])]), (3456, [(S [49]), (S [50])]), (960, [(S [49]), (S [56]), (S [49]), (S [56]), (S [49]), (S [56])])]
def Q291 : KC := ⟨28, [(Z 576 0), (Z 640 0)], 15, 576, B289, (A [(S [49]), (S [56]), (S [49]), (S [56]), (S [49]), (S [56])]), 102, B290, [], []⟩
def L67 : List (Sum (FuncId × List Value × Value) KC) := [.inr Q288,
  .inr Q291,
  .inl (224, [(.int .i64 (.negSucc 15)), (I 10)], (S [45, 49, 54])),
  .inl (137, [(A [(.int .i64 (.negSucc 15)), (I 1)])], (A [(S [45, 49, 54]), (S [49])]))]
def T67 : Tab := pushT T66 L67
def L68 : List (Sum (FuncId × List Value × Value) KC) := [.inl (81, [(.int .i64 (.negSucc 15)), (I 1)], (.tuple ⟨[(A [(S [45, 49, 54]), (S [49])]), (.bool true)]⟩)),
  .inl (5, [(.int .i64 (.negSucc 15)), (I 0), (I 0), (I 1)], (A [(S [45, 49, 54]), (S [49]), (S [48]), (S [49]), (S [48]), (S [49])])),
  .inl (174, [(S [45, 49, 54])], (.tuple ⟨[(.int .i64 (.negSucc 15)), (.bool true)]⟩)),
  .inl (125, [(A [(S [45, 49, 54]), (S [49])])], (.tuple ⟨[(A [(.int .i64 (.negSucc 15)), (I 1)]), (.bool true)]⟩)),
  .inl (26, [(A [(S [45, 49, 54]), (S [49]), (S [48]), (S [49]), (S [48]), (S [49])])], (I 0)),
  .inl (178, [(.int .i64 (.negSucc 15)), (I 1)], (.tuple ⟨[(.int .i64 (.negSucc 15)), (.bool true)]⟩)),
  .inl (127, [(A [(.int .i64 (.negSucc 15)), (I 1)]), (A [(I 16), (I 1)])], (.tuple ⟨[(A [(S [48]), (S [49])]), (.bool true)]⟩)),
  .inl (74, [(A [(S [45, 49, 54]), (S [49])]), (A [(S [49, 54]), (S [49])])], (.tuple ⟨[(A [(S [48]), (S [49])]), (I 0)]⟩)),
  .inl (131, [(A [(I 0), (I 1)]), (A [(I 1), (I 116)])], (.tuple ⟨[(A [(S [48]), (S [49])]), (.bool true)]⟩)),
  .inl (65, [(A [(S [48]), (S [49])]), (A [(S [49, 49, 54]), (S [49])])], (.tuple ⟨[(A [(S [48]), (S [49])]), (I 0)]⟩)),
  .inl (127, [(A [(I 0), (I 1)]), (A [(I 0), (I 1)])], (.tuple ⟨[(A [(S [48]), (S [49])]), (.bool true)]⟩)),
  .inl (74, [(A [(S [48]), (S [49])]), (A [(S [48]), (S [49])])], (.tuple ⟨[(A [(S [48]), (S [49])]), (I 0)]⟩)),
  .inl (75, [(A [(S [48]), (S [49])]), (A [(S [48]), (S [49])])], (.tuple ⟨[(A [(S [48]), (S [49])]), (I 0)]⟩)),
  .inl (142, [(.int .u64 (.ofNat 0)), (.int .u64 (.ofNat 29))], (.tuple ⟨[(.int .u64 (.ofNat 0)), (.int .u64 (.ofNat 0))]⟩)),
  .inl (142, [(.int .u64 (.ofNat 6)), (.int .u64 (.ofNat 1))], (.tuple ⟨[(.int .u64 (.ofNat 0)), (.int .u64 (.ofNat 6))]⟩)),
  .inl (162, [(A [(I 0), (I 1)]), (A [(I 6), (I 29)])], (.tuple ⟨[(.int .i64 (.negSucc 0)), (.bool true)]⟩)),
  .inl (111, [(A [(S [48]), (S [49])]), (A [(S [54]), (S [50, 57])])], (.tuple ⟨[(.int .i64 (.negSucc 0)), (I 0)]⟩)),
  .inl (135, [(.int .u64 (.ofNat 108)), (.int .u64 (.ofNat 841))], (.int .u64 (.ofNat 1))),
  .inl (224, [(I 108), (I 10)], (S [49, 48, 56])),
  .inl (227, [(.int .u64 (.ofNat 841))], (I 3)),
  .inl (224, [(I 841), (I 10)], (S [56, 52, 49])),
  .inl (81, [(I 108), (I 841)], (.tuple ⟨[(A [(S [49, 48, 56]), (S [56, 52, 49])]), (.bool true)]⟩))]
def T68 : Tab := pushT T67 L68
def L69 : List (Sum (FuncId × List Value × Value) KC) := [.inl (135, [(.int .u64 (.ofNat 4)), (.int .u64 (.ofNat 29))], (.int .u64 (.ofNat 1))),
  .inl (137, [(A [(I 4), (I 29)])], (A [(S [52]), (S [50, 57])])),
  .inl (81, [(I 4), (I 29)], (.tuple ⟨[(A [(S [52]), (S [50, 57])]), (.bool true)]⟩)),
  .inl (174, [(S [52])], (.tuple ⟨[(I 4), (.bool true)]⟩)),
  .inl (125, [(A [(S [52]), (S [50, 57])])], (.tuple ⟨[(A [(I 4), (I 29)]), (.bool true)]⟩)),
  .inl (135, [(.int .u64 (.ofNat 1)), (.int .u64 (.ofNat 29))], (.int .u64 (.ofNat 1))),
  .inl (142, [(.int .u64 (.ofNat 4)), (.int .u64 (.ofNat 1))], (.tuple ⟨[(.int .u64 (.ofNat 0)), (.int .u64 (.ofNat 4))]⟩)),
  .inl (178, [(.int .i64 (.negSucc 3)), (I 1)], (.tuple ⟨[(.int .i64 (.negSucc 3)), (.bool true)]⟩)),
  .inl (135, [(.int .u64 (.ofNat 4)), (.int .u64 (.ofNat 1))], (.int .u64 (.ofNat 1))),
  .inl (224, [(.int .i64 (.negSucc 3)), (I 10)], (S [45, 52])),
  .inl (137, [(A [(.int .i64 (.negSucc 3)), (I 29)])], (A [(S [45, 52]), (S [50, 57])])),
  .inl (127, [(A [(I 0), (I 1)]), (A [(.int .i64 (.negSucc 3)), (I 29)])], (.tuple ⟨[(A [(S [45, 52]), (S [50, 57])]), (.bool true)]⟩)),
  .inl (75, [(A [(S [48]), (S [49])]), (A [(S [52]), (S [50, 57])])], (.tuple ⟨[(A [(S [45, 52]), (S [50, 57])]), (I 0)]⟩)),
  .inl (174, [(S [49, 48, 56])], (.tuple ⟨[(I 108), (.bool true)]⟩)),
  .inl (174, [(S [56, 52, 49])], (.tuple ⟨[(I 841), (.bool true)]⟩)),
  .inl (125, [(A [(S [49, 48, 56]), (S [56, 52, 49])])], (.tuple ⟨[(A [(I 108), (I 841)]), (.bool true)]⟩)),
  .inl (174, [(S [45, 52])], (.tuple ⟨[(.int .i64 (.negSucc 3)), (.bool true)]⟩)),
  .inl (125, [(A [(S [45, 52]), (S [50, 57])])], (.tuple ⟨[(A [(.int .i64 (.negSucc 3)), (I 29)]), (.bool true)]⟩)),
  .inl (135, [(.int .u64 (.ofNat 108)), (.int .u64 (.ofNat 29))], (.int .u64 (.ofNat 1))),
  .inl (135, [(.int .u64 (.ofNat 4)), (.int .u64 (.ofNat 841))], (.int .u64 (.ofNat 1))),
  .inl (142, [(.int .u64 (.ofNat 108)), (.int .u64 (.ofNat 4))], (.tuple ⟨[(.int .u64 (.ofNat 0)), (.int .u64 (.ofNat 432))]⟩)),
  .inl (178, [(I 108), (.int .i64 (.negSucc 3))], (.tuple ⟨[(.int .i64 (.negSucc 431)), (.bool true)]⟩)),
  .inl (142, [(.int .u64 (.ofNat 841)), (.int .u64 (.ofNat 29))], (.tuple ⟨[(.int .u64 (.ofNat 0)), (.int .u64 (.ofNat 24389))]⟩))]
def T69 : Tab := pushT T68 L69
def L70 : List (Sum (FuncId × List Value × Value) KC) := [.inl (178, [(I 841), (I 29)], (.tuple ⟨[(I 24389), (.bool true)]⟩)),
  .inl (227, [(.int .u64 (.ofNat 432))], (I 3)),
  .inl (224, [(.int .i64 (.negSucc 431)), (I 10)], (S [45, 52, 51, 50])),
  .inl (131, [(A [(I 108), (I 841)]), (A [(.int .i64 (.negSucc 3)), (I 29)])], (.tuple ⟨[(A [(S [45, 52, 51, 50]), (S [50, 52, 51, 56, 57])]), (.bool true)]⟩)),
  .inl (76, [(A [(S [49, 48, 56]), (S [56, 52, 49])]), (A [(S [45, 52]), (S [50, 57])])], (.tuple ⟨[(A [(S [45, 52, 51, 50]), (S [50, 52, 51, 56, 57])]), (I 0)]⟩)),
  .inl (62, [(A [(S [48]), (S [49])])], (A [(S [45, 52, 51, 50]), (S [50, 52, 51, 56, 57])])),
  .inl (174, [(S [45, 52, 51, 50])], (.tuple ⟨[(.int .i64 (.negSucc 431)), (.bool true)]⟩)),
  .inl (135, [(.int .u64 (.ofNat 432)), (.int .u64 (.ofNat 24389))], (.int .u64 (.ofNat 1))),
  .inl (125, [(A [(S [45, 52, 51, 50]), (S [50, 52, 51, 56, 57])])], (.tuple ⟨[(A [(.int .i64 (.negSucc 431)), (I 24389)]), (.bool true)]⟩)),
  .inl (135, [(.int .u64 (.ofNat 432)), (.int .u64 (.ofNat 1))], (.int .u64 (.ofNat 1))),
  .inl (135, [(.int .u64 (.ofNat 1)), (.int .u64 (.ofNat 24389))], (.int .u64 (.ofNat 1))),
  .inl (142, [(.int .u64 (.ofNat 432)), (.int .u64 (.ofNat 1))], (.tuple ⟨[(.int .u64 (.ofNat 0)), (.int .u64 (.ofNat 432))]⟩)),
  .inl (178, [(.int .i64 (.negSucc 431)), (I 1)], (.tuple ⟨[(.int .i64 (.negSucc 431)), (.bool true)]⟩)),
  .inl (142, [(.int .u64 (.ofNat 24389)), (.int .u64 (.ofNat 1))], (.tuple ⟨[(.int .u64 (.ofNat 0)), (.int .u64 (.ofNat 24389))]⟩)),
  .inl (178, [(I 24389), (I 1)], (.tuple ⟨[(I 24389), (.bool true)]⟩)),
  .inl (131, [(A [(.int .i64 (.negSucc 431)), (I 24389)]), (A [(I 1), (I 1)])], (.tuple ⟨[(A [(S [45, 52, 51, 50]), (S [50, 52, 51, 56, 57])]), (.bool true)]⟩)),
  .inl (76, [(A [(S [45, 52, 51, 50]), (S [50, 52, 51, 56, 57])]), (A [(S [49]), (S [49])])], (.tuple ⟨[(A [(S [45, 52, 51, 50]), (S [50, 52, 51, 56, 57])]), (I 0)]⟩))]
def T70 : Tab := pushT T69 L70
def B292 : List (Nat × List Value) := [(6592, [(S [49]), (S [49]), (S [49]), (S [49]), (S [49]), (S [49])]), (6528, [(S [45, 49, 54]), (S [49]), (S [48]), (S [49]), (S [48]), (S [49])]), gq 256, gq 128, gq 192]
def B293 : List (Nat × List Value) := [(11264, [(I 9)]), (11200, [(S []), (S []), (S []), (S []), (S []), (S [])]), (10944, [(S [45, 52, 51, 50]), (S [50, 52, 51, 56, 57])]), (10496, [(S [48]), (S [49]), (S [48]), (S [49]), (S [48]), (S [49])]), (7040, [(.func (.func 59) ⟨[]⟩ ⟨[]⟩), (.func (.func 62) ⟨[]⟩ ⟨[]⟩)]), (6592, [(S [49]), (S [49]), (S [49]), (S [49]), (S [49]), (S [49])]), gq 256, gq 128, gq 192, (10560, [(S []), (S [])]), (10432, [(S [48]), (S [49])]), (8384, [(S [48]), (S [49])]), (6528, [(S [45, 49, 54]), (S [49]), (S [48]), (S [49]), (S [48]), (S [49])]), (9408, [(S [48]), (S [49])]), (6912, [(S []), (S []), (S []), (S []), (S []), (S [])]), (6848, [(I 9)]), (6784, [(S []), (S []), (S []), (S []), (S []), (S [])])]
def Q294 : KC := ⟨27, [(.func (.func 28) ⟨[]⟩ ⟨[(Z 6528 0), (Z 6592 0)]⟩)], 106, 6528, B292, (.tuple ⟨[(A [(S []), (S []), (S []), (S []), (S []), (S [])]), (I 9)]⟩), 177, B293, [], []⟩
def B295 : List (Nat × List Value) := [(6656, [(S [49]), (S [49]), (S [49]), (S [49]), (S [49]), (S [49])]), (6592, [(S [45, 49, 54]), (S [49]), (S [48]), (S [49]), (S [48]), (S [49])]), gq 256, gq 128, gq 192]
def B296 : List (Nat × List Value) := [(11328, [(I 9)]), (11264, [(S []), (S []), (S []), (S []), (S []), (S [])]), (11008, [(S [45, 52, 51, 50]), (S [50, 52, 51, 56, 57])]), (10560, [(S [48]), (S [49]), (S [48]), (S [49]), (S [48]), (S [49])]), (7104, [(.func (.func 59) ⟨[]⟩ ⟨[]⟩), (.func (.func 62) ⟨[]⟩ ⟨[]⟩)]), (6656, [(S [49]), (S [49]), (S [49]), (S [49]), (S [49]), (S [49])]), gq 256, gq 128, gq 192, (10624, [(S []), (S [])]), (10496, [(S [48]), (S [49])]), (8448, [(S [48]), (S [49])]), (6592, [(S [45, 49, 54]), (S [49]), (S [48]), (S [49]), (S [48]), (S [49])]), (9472, [(S [48]), (S [49])]), (6976, [(S []), (S []), (S []), (S []), (S []), (S [])]), (6912, [(I 9)]), (6848, [(S []), (S []), (S []), (S []), (S []), (S [])])]
def Q297 : KC := ⟨27, [(.func (.func 28) ⟨[]⟩ ⟨[(Z 6592 0), (Z 6656 0)]⟩)], 107, 6592, B295, (.tuple ⟨[(A [(S []), (S []), (S []), (S []), (S []), (S [])]), (I 9)]⟩), 178, B296, [], []⟩
def L71 : List (Sum (FuncId × List Value × Value) KC) := [.inl (77, [(S [45, 52, 51, 50])], (.tuple ⟨[(.int .i64 (.negSucc 0)), (I 0)]⟩)),
  .inr Q294,
  .inr Q297,
  .inl (14, [(I 50), (I 3), (I 4), (I 1)], (A [(I 50000000000000), (I 50000000000000), (I 3000000000000), (I 3000000000000), (I 4000000000000), (I 4000000000000)])),
  .inl (39, [(A [(I 50000000000000), (I 50000000000000), (I 3000000000000), (I 3000000000000), (I 4000000000000), (I 4000000000000)])], (I 0)),
  .inl (149, [(A [(I 3000000000000), (I 3000000000000)])], (.tuple ⟨[(A [(I 3000000000000), (I 3000000000000)]), (I 0)]⟩))]
def T71 : Tab := pushT T70 L71
def L72 : List (Sum (FuncId × List Value × Value) KC) := [.inl (142, [(.int .u64 (.ofNat 3000000000000)), (.int .u64 (.ofNat 3000000000000))], (.tuple ⟨[(.int .u64 (.ofNat 487890)), (.int .u64 (.ofNat 18033877846862069760))]⟩)),
  .inl (144, [(.int .u64 (.ofNat 487890)), (.int .u64 (.ofNat 18033877846862069760)), (.int .u64 (.ofNat 1000000000000000000))], (.tuple ⟨[(.int .u64 (.ofNat 9000000)), (.int .u64 (.ofNat 0))]⟩)),
  .inl (142, [(.int .u64 (.ofNat 1)), (.int .u64 (.ofNat 9000000))], (.tuple ⟨[(.int .u64 (.ofNat 0)), (.int .u64 (.ofNat 9000000))]⟩)),
  .inl (149, [(A [(I 4000000000000), (I 4000000000000)])], (.tuple ⟨[(A [(I 4000000000000), (I 4000000000000)]), (I 0)]⟩)),
  .inl (142, [(.int .u64 (.ofNat 4000000000000)), (.int .u64 (.ofNat 4000000000000))], (.tuple ⟨[(.int .u64 (.ofNat 867361)), (.int .u64 (.ofNat 13613483209600794624))]⟩)),
  .inl (144, [(.int .u64 (.ofNat 867361)), (.int .u64 (.ofNat 13613483209600794624)), (.int .u64 (.ofNat 1000000000000000000))], (.tuple ⟨[(.int .u64 (.ofNat 16000000)), (.int .u64 (.ofNat 0))]⟩)),
  .inl (142, [(.int .u64 (.ofNat 1)), (.int .u64 (.ofNat 16000000))], (.tuple ⟨[(.int .u64 (.ofNat 0)), (.int .u64 (.ofNat 16000000))]⟩)),
  .inl (200, [(.int .u64 (.ofNat 25000000))], (I 8)),
  .inl (201, [(I 12)], (.int .u64 (.ofNat 1000000000000))),
  .inl (142, [(.int .u64 (.ofNat 25000000)), (.int .u64 (.ofNat 1000000000000000000))], (.tuple ⟨[(.int .u64 (.ofNat 1355252)), (.int .u64 (.ofNat 13200616982753312768))]⟩)),
  .inl (144, [(.int .u64 (.ofNat 1355252)), (.int .u64 (.ofNat 13200616982753312768)), (.int .u64 (.ofNat 1000000000000))], (.tuple ⟨[(.int .u64 (.ofNat 25000000000000)), (.int .u64 (.ofNat 0))]⟩)),
  .inl (200, [(.int .u64 (.ofNat 25000000000000))], (I 14)),
  .inl (142, [(.int .u64 (.ofNat 1)), (.int .u64 (.ofNat 9))], (.tuple ⟨[(.int .u64 (.ofNat 0)), (.int .u64 (.ofNat 9))]⟩)),
  .inl (142, [(.int .u64 (.ofNat 1)), (.int .u64 (.ofNat 16))], (.tuple ⟨[(.int .u64 (.ofNat 0)), (.int .u64 (.ofNat 16))]⟩)),
  .inl (142, [(.int .u64 (.ofNat 1)), (.int .u64 (.ofNat 25))], (.tuple ⟨[(.int .u64 (.ofNat 0)), (.int .u64 (.ofNat 25))]⟩)),
  .inl (142, [(.int .u64 (.ofNat 1)), (.int .u64 (.ofNat 36))], (.tuple ⟨[(.int .u64 (.ofNat 0)), (.int .u64 (.ofNat 36))]⟩)),
  .inl (142, [(.int .u64 (.ofNat 1)), (.int .u64 (.ofNat 60))], (.tuple ⟨[(.int .u64 (.ofNat 0)), (.int .u64 (.ofNat 60))]⟩)),
  .inl (142, [(.int .u64 (.ofNat 60)), (.int .u64 (.ofNat 1))], (.tuple ⟨[(.int .u64 (.ofNat 0)), (.int .u64 (.ofNat 60))]⟩)),
  .inl (142, [(.int .u64 (.ofNat 1)), (.int .u64 (.ofNat 50))], (.tuple ⟨[(.int .u64 (.ofNat 0)), (.int .u64 (.ofNat 50))]⟩)),
  .inl (142, [(.int .u64 (.ofNat 50)), (.int .u64 (.ofNat 1))], (.tuple ⟨[(.int .u64 (.ofNat 0)), (.int .u64 (.ofNat 50))]⟩)),
  .inl (142, [(.int .u64 (.ofNat 51)), (.int .u64 (.ofNat 100))], (.tuple ⟨[(.int .u64 (.ofNat 0)), (.int .u64 (.ofNat 5100))]⟩)),
  .inl (142, [(.int .u64 (.ofNat 1)), (.int .u64 (.ofNat 5100))], (.tuple ⟨[(.int .u64 (.ofNat 0)), (.int .u64 (.ofNat 5100))]⟩)),
  .inl (142, [(.int .u64 (.ofNat 5100)), (.int .u64 (.ofNat 1))], (.tuple ⟨[(.int .u64 (.ofNat 0)), (.int .u64 (.ofNat 5100))]⟩)),
  .inl (142, [(.int .u64 (.ofNat 1)), (.int .u64 (.ofNat 5000))], (.tuple ⟨[(.int .u64 (.ofNat 0)), (.int .u64 (.ofNat 5000))]⟩)),
  .inl (142, [(.int .u64 (.ofNat 5000)), (.int .u64 (.ofNat 1))], (.tuple ⟨[(.int .u64 (.ofNat 0)), (.int .u64 (.ofNat 5000))]⟩)),
  .inl (142, [(.int .u64 (.ofNat 5001)), (.int .u64 (.ofNat 1000))], (.tuple ⟨[(.int .u64 (.ofNat 0)), (.int .u64 (.ofNat 5001000))]⟩)),
  .inl (142, [(.int .u64 (.ofNat 1)), (.int .u64 (.ofNat 5001000))], (.tuple ⟨[(.int .u64 (.ofNat 0)), (.int .u64 (.ofNat 5001000))]⟩)),
  .inl (142, [(.int .u64 (.ofNat 5001000)), (.int .u64 (.ofNat 1))], (.tuple ⟨[(.int .u64 (.ofNat 0)), (.int .u64 (.ofNat 5001000))]⟩)),
  .inl (142, [(.int .u64 (.ofNat 1)), (.int .u64 (.ofNat 5000000))], (.tuple ⟨[(.int .u64 (.ofNat 0)), (.int .u64 (.ofNat 5000000))]⟩))]
def T72 : Tab := pushT T71 L72
def L73 : List (Sum (FuncId × List Value × Value) KC) := [.inl (142, [(.int .u64 (.ofNat 5000000)), (.int .u64 (.ofNat 1))], (.tuple ⟨[(.int .u64 (.ofNat 0)), (.int .u64 (.ofNat 5000000))]⟩)),
  .inl (142, [(.int .u64 (.ofNat 5000001)), (.int .u64 (.ofNat 1000000))], (.tuple ⟨[(.int .u64 (.ofNat 0)), (.int .u64 (.ofNat 5000001000000))]⟩)),
  .inl (142, [(.int .u64 (.ofNat 1)), (.int .u64 (.ofNat 5000001000000))], (.tuple ⟨[(.int .u64 (.ofNat 0)), (.int .u64 (.ofNat 5000001000000))]⟩)),
  .inl (144, [(.int .u64 (.ofNat 1355252)), (.int .u64 (.ofNat 13200616982753312768)), (.int .u64 (.ofNat 5000001000000))], (.tuple ⟨[(.int .u64 (.ofNat 4999999000000)), (.int .u64 (.ofNat 1000000000000))]⟩)),
  .inl (142, [(.int .u64 (.ofNat 5000001000000)), (.int .u64 (.ofNat 1))], (.tuple ⟨[(.int .u64 (.ofNat 0)), (.int .u64 (.ofNat 5000001000000))]⟩)),
  .inl (142, [(.int .u64 (.ofNat 1)), (.int .u64 (.ofNat 5000000000000))], (.tuple ⟨[(.int .u64 (.ofNat 0)), (.int .u64 (.ofNat 5000000000000))]⟩)),
  .inl (144, [(.int .u64 (.ofNat 1355252)), (.int .u64 (.ofNat 13200616982753312768)), (.int .u64 (.ofNat 5000000000000))], (.tuple ⟨[(.int .u64 (.ofNat 5000000000000)), (.int .u64 (.ofNat 0))]⟩)),
  .inl (142, [(.int .u64 (.ofNat 5000000000000)), (.int .u64 (.ofNat 1))], (.tuple ⟨[(.int .u64 (.ofNat 0)), (.int .u64 (.ofNat 5000000000000))]⟩)),
  .inl (142, [(.int .u64 (.ofNat 5000000000000)), (.int .u64 (.ofNat 5000000000000))], (.tuple ⟨[(.int .u64 (.ofNat 1355252)), (.int .u64 (.ofNat 13200616982753312768))]⟩)),
  .inl (144, [(.int .u64 (.ofNat 1355252)), (.int .u64 (.ofNat 13200616982753312768)), (.int .u64 (.ofNat 1000000000000000000))], (.tuple ⟨[(.int .u64 (.ofNat 25000000)), (.int .u64 (.ofNat 0))]⟩)),
  .inl (142, [(.int .u64 (.ofNat 1)), (.int .u64 (.ofNat 25000000))], (.tuple ⟨[(.int .u64 (.ofNat 0)), (.int .u64 (.ofNat 25000000))]⟩)),
  .inl (142, [(.int .u64 (.ofNat 3000000000000)), (.int .u64 (.ofNat 1000000000000))], (.tuple ⟨[(.int .u64 (.ofNat 162630)), (.int .u64 (.ofNat 6011292615620689920))]⟩)),
  .inl (144, [(.int .u64 (.ofNat 162630)), (.int .u64 (.ofNat 6011292615620689920)), (.int .u64 (.ofNat 5000000000000))], (.tuple ⟨[(.int .u64 (.ofNat 600000000000)), (.int .u64 (.ofNat 0))]⟩)),
  .inl (90, [(I 3000000000000), (I 1000000000000), (I 5000000000000)], (A [(.int .u64 (.ofNat 600000000000)), (.bool false), (.bool false), (.bool true)])),
  .inl (87, [(A [(I 3000000000000), (I 5000000000000), (I 3000000000000), (I 5000000000000), (I 3000000000000), (I 5000000000000), (I 3000000000000), (I 5000000000000)]), (.func (.func 108) ⟨[]⟩ ⟨[]⟩)], (.tuple ⟨[(A [(I 600000000000), (I 600000000000)]), (I 0)]⟩)),
  .inl (51, [(A [(I 3000000000000), (I 3000000000000)]), (A [(I 5000000000000), (I 5000000000000)])], (.tuple ⟨[(A [(I 600000000000), (I 600000000000)]), (I 0)]⟩))]
def T73 : Tab := pushT T72 L73
def B298 : List (Nat × List Value) := [(448, [(I 1000000000000)]), (384, [(.int .i64 (.negSucc 999999999999))]), (320, [(I 600000000000), (I 600000000000)]), gq 256, gq 128, gq 192]
def B299 : List (Nat × List Value) := [(1152, [(I 1000000000000)]), gq 256, gq 128, gq 192, (1088, [(.int .i64 (.negSucc 999999999999))]), (1024, [(I 1000000000000)]), (960, [(.int .i64 (.negSucc 999999999999))]), (832, [(I 600000000000), (I 600000000000)]), (448, [(I 1000000000000)]), (384, [(.int .i64 (.negSucc 999999999999))]), (320, [(I 600000000000), (I 600000000000)])]
def Q300 : KC := ⟨103, [(Z 384 0), (Z 448 0), (Z 320 0)], 13, 320, B298, (.tuple ⟨[(A [(I 600000000000), (I 600000000000)]), (I 0)]⟩), 22, B299, [], []⟩
def B301 : List (Nat × List Value) := [(448, [(I 1000000000000)]), (384, [(.int .i64 (.negSucc 999999999999))]), (320, [(I 800000000000), (I 800000000000)]), gq 256, gq 128, gq 192]
def B302 : List (Nat × List Value) := [(1152, [(I 1000000000000)]), gq 256, gq 128, gq 192, (1088, [(.int .i64 (.negSucc 999999999999))]), (1024, [(I 1000000000000)]), (960, [(.int .i64 (.negSucc 999999999999))]), (832, [(I 800000000000), (I 800000000000)]), (448, [(I 1000000000000)]), (384, [(.int .i64 (.negSucc 999999999999))]), (320, [(I 800000000000), (I 800000000000)])]
def Q303 : KC := ⟨103, [(Z 384 0), (Z 448 0), (Z 320 0)], 13, 320, B301, (.tuple ⟨[(A [(I 800000000000), (I 800000000000)]), (I 0)]⟩), 22, B302, [], []⟩
def L74 : List (Sum (FuncId × List Value × Value) KC) := [.inr Q300,
  .inl (50, [(A [(I 600000000000), (I 600000000000)]), (.int .i64 (.negSucc 999999999999)), (I 1000000000000)], (.tuple ⟨[(A [(I 600000000000), (I 600000000000)]), (I 0)]⟩)),
  .inl (142, [(.int .u64 (.ofNat 4000000000000)), (.int .u64 (.ofNat 1000000000000))], (.tuple ⟨[(.int .u64 (.ofNat 216840)), (.int .u64 (.ofNat 8015056820827586560))]⟩)),
  .inl (144, [(.int .u64 (.ofNat 216840)), (.int .u64 (.ofNat 8015056820827586560)), (.int .u64 (.ofNat 5000000000000))], (.tuple ⟨[(.int .u64 (.ofNat 800000000000)), (.int .u64 (.ofNat 0))]⟩)),
  .inl (90, [(I 4000000000000), (I 1000000000000), (I 5000000000000)], (A [(.int .u64 (.ofNat 800000000000)), (.bool false), (.bool false), (.bool true)])),
  .inl (87, [(A [(I 4000000000000), (I 5000000000000), (I 4000000000000), (I 5000000000000), (I 4000000000000), (I 5000000000000), (I 4000000000000), (I 5000000000000)]), (.func (.func 108) ⟨[]⟩ ⟨[]⟩)], (.tuple ⟨[(A [(I 800000000000), (I 800000000000)]), (I 0)]⟩)),
  .inl (51, [(A [(I 4000000000000), (I 4000000000000)]), (A [(I 5000000000000), (I 5000000000000)])], (.tuple ⟨[(A [(I 800000000000), (I 800000000000)]), (I 0)]⟩)),
  .inr Q303,
  .inl (50, [(A [(I 800000000000), (I 800000000000)]), (.int .i64 (.negSucc 999999999999)), (I 1000000000000)], (.tuple ⟨[(A [(I 800000000000), (I 800000000000)]), (I 0)]⟩))]
def T74 : Tab := pushT T73 L74
def B304 : List (Nat × List Value) := [(1408, [(.int .u64 (.ofNat 3000000000000)), (.int .u64 (.ofNat 0))]), gq 256, gq 128, gq 192]
def B305 : List (Nat × List Value) := [gq 256, gq 128, gq 192, (1600, [(.int .u64 (.ofNat 0)), (.int .u64 (.ofNat 9000000)), (.int .u64 (.ofNat 0))]), (1536, [(.int .u64 (.ofNat 0)), (.int .u64 (.ofNat 9000000))]), (1472, [(.int .u64 (.ofNat 1)), (.int .u64 (.ofNat 0))]), (1408, [(.int .u64 (.ofNat 3000000000000)), (.int .u64 (.ofNat 0))])]
def Q306 : KC := ⟨98, [(C 1408 0 1 1), (I 2)], 23, 1472, B304, (C 1600 0 2 2), 26, B305, [], []⟩
def Q307 : KC := ⟨98, [(C 1408 0 1 1), (I 2)], 23, 1472, B304, (C 1600 0 2 2), 26, B305, [], []⟩
def L75 : List (Sum (FuncId × List Value × Value) KC) := [.inr Q306,
  .inr Q307]
def T75 : Tab := pushT T74 L75
def B308 : List (Nat × List Value) := [(1728, [(.int .u64 (.ofNat 3000000000000)), (.int .u64 (.ofNat 0))]), gq 256, gq 128, gq 192]
def B309 : List (Nat × List Value) := [gq 256, gq 128, gq 192, (1920, [(.int .u64 (.ofNat 0)), (.int .u64 (.ofNat 9000000)), (.int .u64 (.ofNat 0))]), (1856, [(.int .u64 (.ofNat 0)), (.int .u64 (.ofNat 9000000))]), (1792, [(.int .u64 (.ofNat 1)), (.int .u64 (.ofNat 0))]), (1728, [(.int .u64 (.ofNat 3000000000000)), (.int .u64 (.ofNat 0))])]
def Q310 : KC := ⟨98, [(C 1728 0 1 1), (I 2)], 28, 1792, B308, (C 1920 0 2 2), 31, B309, [], []⟩
def Q311 : KC := ⟨98, [(C 1728 0 1 1), (I 2)], 28, 1792, B308, (C 1920 0 2 2), 31, B309, [], []⟩
def L76 : List (Sum (FuncId × List Value × Value) KC) := [.inr Q310,
  .inr Q311]
def T76 : Tab := pushT T75 L76
def B312 : List (Nat × List Value) := [(2176, [(.int .u64 (.ofNat 4000000000000)), (.int .u64 (.ofNat 0))]), gq 256, gq 128, gq 192]
def B313 : List (Nat × List Value) := [gq 256, gq 128, gq 192, (2368, [(.int .u64 (.ofNat 0)), (.int .u64 (.ofNat 16000000)), (.int .u64 (.ofNat 0))]), (2304, [(.int .u64 (.ofNat 0)), (.int .u64 (.ofNat 16000000))]), (2240, [(.int .u64 (.ofNat 1)), (.int .u64 (.ofNat 0))]), (2176, [(.int .u64 (.ofNat 4000000000000)), (.int .u64 (.ofNat 0))])]
def Q314 : KC := ⟨98, [(C 2176 0 1 1), (I 2)], 35, 2240, B312, (C 2368 0 2 2), 38, B313, [], []⟩
def Q315 : KC := ⟨98, [(C 2176 0 1 1), (I 2)], 35, 2240, B312, (C 2368 0 2 2), 38, B313, [], []⟩
def L77 : List (Sum (FuncId × List Value × Value) KC) := [.inr Q314,
  .inr Q315]
def T77 : Tab := pushT T76 L77
def B316 : List (Nat × List Value) := [(2496, [(.int .u64 (.ofNat 4000000000000)), (.int .u64 (.ofNat 0))]), gq 256, gq 128, gq 192]
def B317 : List (Nat × List Value) := [gq 256, gq 128, gq 192, (2688, [(.int .u64 (.ofNat 0)), (.int .u64 (.ofNat 16000000)), (.int .u64 (.ofNat 0))]), (2624, [(.int .u64 (.ofNat 0)), (.int .u64 (.ofNat 16000000))]), (2560, [(.int .u64 (.ofNat 1)), (.int .u64 (.ofNat 0))]), (2496, [(.int .u64 (.ofNat 4000000000000)), (.int .u64 (.ofNat 0))])]
def Q318 : KC := ⟨98, [(C 2496 0 1 1), (I 2)], 40, 2560, B316, (C 2688 0 2 2), 43, B317, [], []⟩
def Q319 : KC := ⟨98, [(C 2496 0 1 1), (I 2)], 40, 2560, B316, (C 2688 0 2 2), 43, B317, [], []⟩
def L78 : List (Sum (FuncId × List Value × Value) KC) := [.inr Q318,
  .inr Q319]
def T78 : Tab := pushT T77 L78
def B320 : List (Nat × List Value) := [(3200, [(.int .u64 (.ofNat 2)), (.int .u64 (.ofNat 0))]), gq 256, gq 128, gq 192]
def B321 : List (Nat × List Value) := [gq 256, gq 128, gq 192, (3392, [(.int .u64 (.ofNat 4)), (.int .u64 (.ofNat 0))]), (3328, [(.int .u64 (.ofNat 4)), (.int .u64 (.ofNat 0))]), (3264, [(.int .u64 (.ofNat 1)), (.int .u64 (.ofNat 0))]), (3200, [(.int .u64 (.ofNat 2)), (.int .u64 (.ofNat 0))])]
def Q322 : KC := ⟨98, [(C 3200 0 1 1), (I 2)], 51, 320, B320, (C 3392 0 1 1), 54, B321, [], []⟩
def B323 : List (Nat × List Value) := [(3520, [(.int .u64 (.ofNat 3)), (.int .u64 (.ofNat 0))]), gq 256, gq 128, gq 192]
def B324 : List (Nat × List Value) := [gq 256, gq 128, gq 192, (3712, [(.int .u64 (.ofNat 9)), (.int .u64 (.ofNat 0))]), (3648, [(.int .u64 (.ofNat 9)), (.int .u64 (.ofNat 0))]), (3584, [(.int .u64 (.ofNat 1)), (.int .u64 (.ofNat 0))]), (3520, [(.int .u64 (.ofNat 3)), (.int .u64 (.ofNat 0))])]
def Q325 : KC := ⟨98, [(C 3520 0 1 1), (I 2)], 56, 320, B323, (C 3712 0 1 1), 59, B324, [], []⟩
def B326 : List (Nat × List Value) := [(3840, [(.int .u64 (.ofNat 4)), (.int .u64 (.ofNat 0))]), gq 256, gq 128, gq 192]
def B327 : List (Nat × List Value) := [gq 256, gq 128, gq 192, (4032, [(.int .u64 (.ofNat 16)), (.int .u64 (.ofNat 0))]), (3968, [(.int .u64 (.ofNat 16)), (.int .u64 (.ofNat 0))]), (3904, [(.int .u64 (.ofNat 1)), (.int .u64 (.ofNat 0))]), (3840, [(.int .u64 (.ofNat 4)), (.int .u64 (.ofNat 0))])]
def Q328 : KC := ⟨98, [(C 3840 0 1 1), (I 2)], 61, 320, B326, (C 4032 0 1 1), 64, B327, [], []⟩
def L79 : List (Sum (FuncId × List Value × Value) KC) := [.inr Q322,
  .inr Q325,
  .inr Q328]
def T79 : Tab := pushT T78 L79
def B329 : List (Nat × List Value) := [(4160, [(.int .u64 (.ofNat 5)), (.int .u64 (.ofNat 0))]), gq 256, gq 128, gq 192]
def B330 : List (Nat × List Value) := [gq 256, gq 128, gq 192, (4352, [(.int .u64 (.ofNat 25)), (.int .u64 (.ofNat 0))]), (4288, [(.int .u64 (.ofNat 25)), (.int .u64 (.ofNat 0))]), (4224, [(.int .u64 (.ofNat 1)), (.int .u64 (.ofNat 0))]), (4160, [(.int .u64 (.ofNat 5)), (.int .u64 (.ofNat 0))])]
def Q331 : KC := ⟨98, [(C 4160 0 1 1), (I 2)], 66, 320, B329, (C 4352 0 1 1), 69, B330, [], []⟩
def B332 : List (Nat × List Value) := [(4480, [(.int .u64 (.ofNat 6)), (.int .u64 (.ofNat 0))]), gq 256, gq 128, gq 192]
def B333 : List (Nat × List Value) := [gq 256, gq 128, gq 192, (4672, [(.int .u64 (.ofNat 36)), (.int .u64 (.ofNat 0))]), (4608, [(.int .u64 (.ofNat 36)), (.int .u64 (.ofNat 0))]), (4544, [(.int .u64 (.ofNat 1)), (.int .u64 (.ofNat 0))]), (4480, [(.int .u64 (.ofNat 6)), (.int .u64 (.ofNat 0))])]
def Q334 : KC := ⟨98, [(C 4480 0 1 1), (I 2)], 71, 320, B332, (C 4672 0 1 1), 74, B333, [], []⟩
def B335 : List (Nat × List Value) := [(3072, [(.int .u64 (.ofNat 25))]), gq 256, gq 128, gq 192]
def B336 : List (Nat × List Value) := [gq 256, gq 128, gq 192, (4672, [(.int .u64 (.ofNat 36)), (.int .u64 (.ofNat 0))]), (3072, [(.int .u64 (.ofNat 25))]), (4608, [(.int .u64 (.ofNat 36)), (.int .u64 (.ofNat 0))]), (4544, [(.int .u64 (.ofNat 1)), (.int .u64 (.ofNat 0))]), (4480, [(.int .u64 (.ofNat 6)), (.int .u64 (.ofNat 0))]), (4416, [(.int .u64 (.ofNat 5)), (.int .u64 (.ofNat 0))]), (4352, [(.int .u64 (.ofNat 25)), (.int .u64 (.ofNat 0))]), (4288, [(.int .u64 (.ofNat 25)), (.int .u64 (.ofNat 0))]), (4224, [(.int .u64 (.ofNat 1)), (.int .u64 (.ofNat 0))]), (4160, [(.int .u64 (.ofNat 5)), (.int .u64 (.ofNat 0))]), (4096, [(.int .u64 (.ofNat 4)), (.int .u64 (.ofNat 0))]), (4032, [(.int .u64 (.ofNat 16)), (.int .u64 (.ofNat 0))]), (3968, [(.int .u64 (.ofNat 16)), (.int .u64 (.ofNat 0))]), (3904, [(.int .u64 (.ofNat 1)), (.int .u64 (.ofNat 0))]), (3840, [(.int .u64 (.ofNat 4)), (.int .u64 (.ofNat 0))]), (3776, [(.int .u64 (.ofNat 3)), (.int .u64 (.ofNat 0))]), (3712, [(.int .u64 (.ofNat 9)), (.int .u64 (.ofNat 0))]), (3648, [(.int .u64 (.ofNat 9)), (.int .u64 (.ofNat 0))]), (3584, [(.int .u64 (.ofNat 1)), (.int .u64 (.ofNat 0))]), (3520, [(.int .u64 (.ofNat 3)), (.int .u64 (.ofNat 0))]), (3456, [(.int .u64 (.ofNat 2)), (.int .u64 (.ofNat 0))]), (3392, [(.int .u64 (.ofNat 4)), (.int .u64 (.ofNat 0))]), (3328, [(.int .u64 (.ofNat 4)), (.int .u64 (.ofNat 0))]), (3264, [(.int .u64 (.ofNat 1)), (.int .u64 (.ofNat 0))]), (3200, [(.int .u64 (.ofNat 2)), (.int .u64 (.ofNat 0))]), (3136, [(.int .u64 (.ofNat 1)), (.int .u64 (.ofNat 0))])]
def Q337 : KC := ⟨154, [(C 3072 0 1 1), (I 2)], 49, 320, B335, (C 4416 0 1 1), 74, B336, [], []⟩
def L80 : List (Sum (FuncId × List Value × Value) KC) := [.inr Q331,
  .inr Q334,
  .inr Q337]
def T80 : Tab := pushT T79 L80
def B338 : List (Nat × List Value) := [(3008, [(.int .u64 (.ofNat 2500))]), gq 256, gq 128, gq 192]
def B339 : List (Nat × List Value) := [(5824, [(.int .u64 (.ofNat 50))]), gq 256, gq 128, gq 192, (5376, [(.int .u64 (.ofNat 50))]), (5760, [(.int .u64 (.ofNat 100)), (.int .u64 (.ofNat 0))]), (5696, [(.int .u64 (.ofNat 50)), (.int .u64 (.ofNat 0))]), (5568, [(.int .u64 (.ofNat 50))]), (5632, [(.int .u64 (.ofNat 0)), (.int .u64 (.ofNat 0))]), (3008, [(.int .u64 (.ofNat 2500))]), (5504, [(.int .u64 (.ofNat 50)), (.int .u64 (.ofNat 0))]), (5440, [(.int .u64 (.ofNat 1)), (.int .u64 (.ofNat 0))]), (4864, [(.int .u64 (.ofNat 60)), (.int .u64 (.ofNat 0))]), (5312, [(.int .u64 (.ofNat 101)), (.int .u64 (.ofNat 0))]), (5248, [(.int .u64 (.ofNat 60)), (.int .u64 (.ofNat 0))]), (5120, [(.int .u64 (.ofNat 41))]), (5184, [(.int .u64 (.ofNat 40)), (.int .u64 (.ofNat 0))]), (5056, [(.int .u64 (.ofNat 60)), (.int .u64 (.ofNat 0))]), (4992, [(.int .u64 (.ofNat 1)), (.int .u64 (.ofNat 0))]), (4928, [(.int .u64 (.ofNat 60)), (.int .u64 (.ofNat 0))]), (4800, [(.int .u64 (.ofNat 6)), (.int .u64 (.ofNat 0))]), (4736, [(.int .u64 (.ofNat 1)), (.int .u64 (.ofNat 0))]), (4416, [(.int .u64 (.ofNat 5)), (.int .u64 (.ofNat 0))]), (3072, [(.int .u64 (.ofNat 25))])]
def Q340 : KC := ⟨101, [(C 3008 0 1 1), (I 2)], 48, 320, B338, (C 5376 0 1 1), 92, B339, [], []⟩
def L81 : List (Sum (FuncId × List Value × Value) KC) := [.inr Q340]
def T81 : Tab := pushT T80 L81
def B341 : List (Nat × List Value) := [(2944, [(.int .u64 (.ofNat 25000000))]), gq 256, gq 128, gq 192]
def B342 : List (Nat × List Value) := [(6976, [(.int .u64 (.ofNat 5000))]), gq 256, gq 128, gq 192, (6528, [(.int .u64 (.ofNat 5000))]), (6912, [(.int .u64 (.ofNat 10000)), (.int .u64 (.ofNat 0))]), (6848, [(.int .u64 (.ofNat 5000)), (.int .u64 (.ofNat 0))]), (6720, [(.int .u64 (.ofNat 5000))]), (6784, [(.int .u64 (.ofNat 0)), (.int .u64 (.ofNat 0))]), (2944, [(.int .u64 (.ofNat 25000000))]), (6656, [(.int .u64 (.ofNat 5000)), (.int .u64 (.ofNat 0))]), (6592, [(.int .u64 (.ofNat 1)), (.int .u64 (.ofNat 0))]), (6016, [(.int .u64 (.ofNat 5100)), (.int .u64 (.ofNat 0))]), (6464, [(.int .u64 (.ofNat 10001)), (.int .u64 (.ofNat 0))]), (6400, [(.int .u64 (.ofNat 5100)), (.int .u64 (.ofNat 0))]), (6272, [(.int .u64 (.ofNat 4901))]), (6336, [(.int .u64 (.ofNat 4900)), (.int .u64 (.ofNat 0))]), (6208, [(.int .u64 (.ofNat 5100)), (.int .u64 (.ofNat 0))]), (6144, [(.int .u64 (.ofNat 1)), (.int .u64 (.ofNat 0))]), (6080, [(.int .u64 (.ofNat 5100)), (.int .u64 (.ofNat 0))]), (5952, [(.int .u64 (.ofNat 51)), (.int .u64 (.ofNat 0))]), (5888, [(.int .u64 (.ofNat 1)), (.int .u64 (.ofNat 0))]), (5376, [(.int .u64 (.ofNat 50))]), (3008, [(.int .u64 (.ofNat 2500))])]
def Q343 : KC := ⟨101, [(C 2944 0 1 1), (I 2)], 47, 320, B341, (C 6528 0 1 1), 110, B342, [], []⟩
def L82 : List (Sum (FuncId × List Value × Value) KC) := [.inr Q343]
def T82 : Tab := pushT T81 L82
def B344 : List (Nat × List Value) := [(2880, [(.int .u64 (.ofNat 25000000000000)), (.int .u64 (.ofNat 0))]), gq 256, gq 128, gq 192]
def B345 : List (Nat × List Value) := [(8128, [(.int .u64 (.ofNat 5000000))]), gq 256, gq 128, gq 192, (7680, [(.int .u64 (.ofNat 5000000))]), (8064, [(.int .u64 (.ofNat 10000000)), (.int .u64 (.ofNat 0))]), (8000, [(.int .u64 (.ofNat 5000000)), (.int .u64 (.ofNat 0))]), (7872, [(.int .u64 (.ofNat 5000000))]), (7936, [(.int .u64 (.ofNat 0)), (.int .u64 (.ofNat 0))]), (2880, [(.int .u64 (.ofNat 25000000000000)), (.int .u64 (.ofNat 0))]), (7808, [(.int .u64 (.ofNat 5000000)), (.int .u64 (.ofNat 0))]), (7744, [(.int .u64 (.ofNat 1)), (.int .u64 (.ofNat 0))]), (7168, [(.int .u64 (.ofNat 5001000)), (.int .u64 (.ofNat 0))]), (7616, [(.int .u64 (.ofNat 10000000)), (.int .u64 (.ofNat 0))]), (7552, [(.int .u64 (.ofNat 5001000)), (.int .u64 (.ofNat 0))]), (7424, [(.int .u64 (.ofNat 4999000))]), (7488, [(.int .u64 (.ofNat 1000000)), (.int .u64 (.ofNat 0))]), (7360, [(.int .u64 (.ofNat 5001000)), (.int .u64 (.ofNat 0))]), (7296, [(.int .u64 (.ofNat 1)), (.int .u64 (.ofNat 0))]), (7232, [(.int .u64 (.ofNat 5001000)), (.int .u64 (.ofNat 0))]), (7104, [(.int .u64 (.ofNat 5001)), (.int .u64 (.ofNat 0))]), (7040, [(.int .u64 (.ofNat 1)), (.int .u64 (.ofNat 0))]), (6528, [(.int .u64 (.ofNat 5000))]), (2944, [(.int .u64 (.ofNat 25000000))])]
def Q346 : KC := ⟨101, [(C 2880 0 1 1), (I 2)], 46, 320, B344, (C 7680 0 1 1), 128, B345, [], []⟩
def L83 : List (Sum (FuncId × List Value × Value) KC) := [.inr Q346]
def T83 : Tab := pushT T82 L83
def B347 : List (Nat × List Value) := [gq 256, gq 128, gq 192, (2432, [(.int .u64 (.ofNat 0)), (.int .u64 (.ofNat 25000000)), (.int .u64 (.ofNat 0))])]
def B348 : List (Nat × List Value) := [(9280, [(.int .u64 (.ofNat 5000000000000))]), gq 256, gq 128, gq 192, (8832, [(.int .u64 (.ofNat 5000000000000))]), (9216, [(.int .u64 (.ofNat 10000000000000)), (.int .u64 (.ofNat 0))]), (9152, [(.int .u64 (.ofNat 5000000000000)), (.int .u64 (.ofNat 0))]), (9024, [(.int .u64 (.ofNat 5000000000000)), (.int .u64 (.ofNat 0))]), (9088, [(.int .u64 (.ofNat 0)), (.int .u64 (.ofNat 0))]), (2432, [(.int .u64 (.ofNat 0)), (.int .u64 (.ofNat 25000000)), (.int .u64 (.ofNat 0))]), (8960, [(.int .u64 (.ofNat 5000000000000)), (.int .u64 (.ofNat 0))]), (8896, [(.int .u64 (.ofNat 1)), (.int .u64 (.ofNat 0))]), (8320, [(.int .u64 (.ofNat 5000001000000)), (.int .u64 (.ofNat 0))]), (8768, [(.int .u64 (.ofNat 10000000000000)), (.int .u64 (.ofNat 0))]), (8704, [(.int .u64 (.ofNat 5000001000000)), (.int .u64 (.ofNat 0))]), (8576, [(.int .u64 (.ofNat 4999999000000)), (.int .u64 (.ofNat 0))]), (8640, [(.int .u64 (.ofNat 1000000000000)), (.int .u64 (.ofNat 0))]), (8512, [(.int .u64 (.ofNat 5000001000000)), (.int .u64 (.ofNat 0))]), (8448, [(.int .u64 (.ofNat 1)), (.int .u64 (.ofNat 0))]), (8384, [(.int .u64 (.ofNat 5000001000000)), (.int .u64 (.ofNat 0))]), (8256, [(.int .u64 (.ofNat 5000001)), (.int .u64 (.ofNat 0))]), (8192, [(.int .u64 (.ofNat 1)), (.int .u64 (.ofNat 0))]), (7680, [(.int .u64 (.ofNat 5000000))]), (2880, [(.int .u64 (.ofNat 25000000000000)), (.int .u64 (.ofNat 0))])]
def Q349 : KC := ⟨101, [(C 2432 0 2 2), (I 2)], 45, 320, B347, (C 8832 0 1 1), 146, B348, [], []⟩
def L84 : List (Sum (FuncId × List Value × Value) KC) := [.inr Q349]
def T84 : Tab := pushT T83 L84
def B350 : List (Nat × List Value) := [gq 256, gq 128, gq 192, (8832, [(.int .u64 (.ofNat 5000000000000))])]
def B351 : List (Nat × List Value) := [gq 256, gq 128, gq 192, (9472, [(.int .u64 (.ofNat 0)), (.int .u64 (.ofNat 25000000)), (.int .u64 (.ofNat 0))]), (9408, [(.int .u64 (.ofNat 0)), (.int .u64 (.ofNat 25000000))]), (9344, [(.int .u64 (.ofNat 1)), (.int .u64 (.ofNat 0))]), (8832, [(.int .u64 (.ofNat 5000000000000))])]
def Q352 : KC := ⟨98, [(C 8832 0 1 1), (I 2)], 146, 320, B350, (C 9472 0 2 2), 149, B351, [], []⟩
def B353 : List (Nat × List Value) := [(9856, [(.int .u64 (.ofNat 2)), (.int .u64 (.ofNat 0))]), gq 256, gq 128, gq 192]
def B354 : List (Nat × List Value) := [gq 256, gq 128, gq 192, (10048, [(.int .u64 (.ofNat 4)), (.int .u64 (.ofNat 0))]), (9984, [(.int .u64 (.ofNat 4)), (.int .u64 (.ofNat 0))]), (9920, [(.int .u64 (.ofNat 1)), (.int .u64 (.ofNat 0))]), (9856, [(.int .u64 (.ofNat 2)), (.int .u64 (.ofNat 0))])]
def Q355 : KC := ⟨98, [(C 9856 0 1 1), (I 2)], 155, 320, B353, (C 10048 0 1 1), 158, B354, [], []⟩
def B356 : List (Nat × List Value) := [(10176, [(.int .u64 (.ofNat 3)), (.int .u64 (.ofNat 0))]), gq 256, gq 128, gq 192]
def B357 : List (Nat × List Value) := [gq 256, gq 128, gq 192, (10368, [(.int .u64 (.ofNat 9)), (.int .u64 (.ofNat 0))]), (10304, [(.int .u64 (.ofNat 9)), (.int .u64 (.ofNat 0))]), (10240, [(.int .u64 (.ofNat 1)), (.int .u64 (.ofNat 0))]), (10176, [(.int .u64 (.ofNat 3)), (.int .u64 (.ofNat 0))])]
def Q358 : KC := ⟨98, [(C 10176 0 1 1), (I 2)], 160, 320, B356, (C 10368 0 1 1), 163, B357, [], []⟩
def L85 : List (Sum (FuncId × List Value × Value) KC) := [.inr Q352,
  .inr Q355,
  .inr Q358]
def T85 : Tab := pushT T84 L85
def B359 : List (Nat × List Value) := [(10496, [(.int .u64 (.ofNat 4)), (.int .u64 (.ofNat 0))]), gq 256, gq 128, gq 192]
def B360 : List (Nat × List Value) := [gq 256, gq 128, gq 192, (10688, [(.int .u64 (.ofNat 16)), (.int .u64 (.ofNat 0))]), (10624, [(.int .u64 (.ofNat 16)), (.int .u64 (.ofNat 0))]), (10560, [(.int .u64 (.ofNat 1)), (.int .u64 (.ofNat 0))]), (10496, [(.int .u64 (.ofNat 4)), (.int .u64 (.ofNat 0))])]
def Q361 : KC := ⟨98, [(C 10496 0 1 1), (I 2)], 165, 320, B359, (C 10688 0 1 1), 168, B360, [], []⟩
def B362 : List (Nat × List Value) := [(10816, [(.int .u64 (.ofNat 5)), (.int .u64 (.ofNat 0))]), gq 256, gq 128, gq 192]
def B363 : List (Nat × List Value) := [gq 256, gq 128, gq 192, (11008, [(.int .u64 (.ofNat 25)), (.int .u64 (.ofNat 0))]), (10944, [(.int .u64 (.ofNat 25)), (.int .u64 (.ofNat 0))]), (10880, [(.int .u64 (.ofNat 1)), (.int .u64 (.ofNat 0))]), (10816, [(.int .u64 (.ofNat 5)), (.int .u64 (.ofNat 0))])]
def Q364 : KC := ⟨98, [(C 10816 0 1 1), (I 2)], 170, 320, B362, (C 11008 0 1 1), 173, B363, [], []⟩
def B365 : List (Nat × List Value) := [(11136, [(.int .u64 (.ofNat 6)), (.int .u64 (.ofNat 0))]), gq 256, gq 128, gq 192]
def B366 : List (Nat × List Value) := [gq 256, gq 128, gq 192, (11328, [(.int .u64 (.ofNat 36)), (.int .u64 (.ofNat 0))]), (11264, [(.int .u64 (.ofNat 36)), (.int .u64 (.ofNat 0))]), (11200, [(.int .u64 (.ofNat 1)), (.int .u64 (.ofNat 0))]), (11136, [(.int .u64 (.ofNat 6)), (.int .u64 (.ofNat 0))])]
def Q367 : KC := ⟨98, [(C 11136 0 1 1), (I 2)], 175, 320, B365, (C 11328 0 1 1), 178, B366, [], []⟩
def L86 : List (Sum (FuncId × List Value × Value) KC) := [.inr Q361,
  .inr Q364,
  .inr Q367]
def T86 : Tab := pushT T85 L86
def B368 : List (Nat × List Value) := [(9728, [(.int .u64 (.ofNat 25))]), gq 256, gq 128, gq 192]
def B369 : List (Nat × List Value) := [gq 256, gq 128, gq 192, (11328, [(.int .u64 (.ofNat 36)), (.int .u64 (.ofNat 0))]), (9728, [(.int .u64 (.ofNat 25))]), (11264, [(.int .u64 (.ofNat 36)), (.int .u64 (.ofNat 0))]), (11200, [(.int .u64 (.ofNat 1)), (.int .u64 (.ofNat 0))]), (11136, [(.int .u64 (.ofNat 6)), (.int .u64 (.ofNat 0))]), (11072, [(.int .u64 (.ofNat 5)), (.int .u64 (.ofNat 0))]), (11008, [(.int .u64 (.ofNat 25)), (.int .u64 (.ofNat 0))]), (10944, [(.int .u64 (.ofNat 25)), (.int .u64 (.ofNat 0))]), (10880, [(.int .u64 (.ofNat 1)), (.int .u64 (.ofNat 0))]), (10816, [(.int .u64 (.ofNat 5)), (.int .u64 (.ofNat 0))]), (10752, [(.int .u64 (.ofNat 4)), (.int .u64 (.ofNat 0))]), (10688, [(.int .u64 (.ofNat 16)), (.int .u64 (.ofNat 0))]), (10624, [(.int .u64 (.ofNat 16)), (.int .u64 (.ofNat 0))]), (10560, [(.int .u64 (.ofNat 1)), (.int .u64 (.ofNat 0))]), (10496, [(.int .u64 (.ofNat 4)), (.int .u64 (.ofNat 0))]), (10432, [(.int .u64 (.ofNat 3)), (.int .u64 (.ofNat 0))]), (10368, [(.int .u64 (.ofNat 9)), (.int .u64 (.ofNat 0))]), (10304, [(.int .u64 (.ofNat 9)), (.int .u64 (.ofNat 0))]), (10240, [(.int .u64 (.ofNat 1)), (.int .u64 (.ofNat 0))]), (10176, [(.int .u64 (.ofNat 3)), (.int .u64 (.ofNat 0))]), (10112, [(.int .u64 (.ofNat 2)), (.int .u64 (.ofNat 0))]), (10048, [(.int .u64 (.ofNat 4)), (.int .u64 (.ofNat 0))]), (9984, [(.int .u64 (.ofNat 4)), (.int .u64 (.ofNat 0))]), (9920, [(.int .u64 (.ofNat 1)), (.int .u64 (.ofNat 0))]), (9856, [(.int .u64 (.ofNat 2)), (.int .u64 (.ofNat 0))]), (9792, [(.int .u64 (.ofNat 1)), (.int .u64 (.ofNat 0))])]
def Q370 : KC := ⟨154, [(C 9728 0 1 1), (I 2)], 153, 320, B368, (C 11072 0 1 1), 178, B369, [], []⟩
def L87 : List (Sum (FuncId × List Value × Value) KC) := [.inr Q370]
def T87 : Tab := pushT T86 L87
def B371 : List (Nat × List Value) := [(9664, [(.int .u64 (.ofNat 2500))]), gq 256, gq 128, gq 192]
def B372 : List (Nat × List Value) := [(12480, [(.int .u64 (.ofNat 50))]), gq 256, gq 128, gq 192, (12032, [(.int .u64 (.ofNat 50))]), (12416, [(.int .u64 (.ofNat 100)), (.int .u64 (.ofNat 0))]), (12352, [(.int .u64 (.ofNat 50)), (.int .u64 (.ofNat 0))]), (12224, [(.int .u64 (.ofNat 50))]), (12288, [(.int .u64 (.ofNat 0)), (.int .u64 (.ofNat 0))]), (9664, [(.int .u64 (.ofNat 2500))]), (12160, [(.int .u64 (.ofNat 50)), (.int .u64 (.ofNat 0))]), (12096, [(.int .u64 (.ofNat 1)), (.int .u64 (.ofNat 0))]), (11520, [(.int .u64 (.ofNat 60)), (.int .u64 (.ofNat 0))]), (11968, [(.int .u64 (.ofNat 101)), (.int .u64 (.ofNat 0))]), (11904, [(.int .u64 (.ofNat 60)), (.int .u64 (.ofNat 0))]), (11776, [(.int .u64 (.ofNat 41))]), (11840, [(.int .u64 (.ofNat 40)), (.int .u64 (.ofNat 0))]), (11712, [(.int .u64 (.ofNat 60)), (.int .u64 (.ofNat 0))]), (11648, [(.int .u64 (.ofNat 1)), (.int .u64 (.ofNat 0))]), (11584, [(.int .u64 (.ofNat 60)), (.int .u64 (.ofNat 0))]), (11456, [(.int .u64 (.ofNat 6)), (.int .u64 (.ofNat 0))]), (11392, [(.int .u64 (.ofNat 1)), (.int .u64 (.ofNat 0))]), (11072, [(.int .u64 (.ofNat 5)), (.int .u64 (.ofNat 0))]), (9728, [(.int .u64 (.ofNat 25))])]
def Q373 : KC := ⟨101, [(C 9664 0 1 1), (I 2)], 152, 320, B371, (C 12032 0 1 1), 196, B372, [], []⟩
def L88 : List (Sum (FuncId × List Value × Value) KC) := [.inr Q373]
def T88 : Tab := pushT T87 L88
def B374 : List (Nat × List Value) := [(9600, [(.int .u64 (.ofNat 25000000))]), gq 256, gq 128, gq 192]
def B375 : List (Nat × List Value) := [(13632, [(.int .u64 (.ofNat 5000))]), gq 256, gq 128, gq 192, (13184, [(.int .u64 (.ofNat 5000))]), (13568, [(.int .u64 (.ofNat 10000)), (.int .u64 (.ofNat 0))]), (13504, [(.int .u64 (.ofNat 5000)), (.int .u64 (.ofNat 0))]), (13376, [(.int .u64 (.ofNat 5000))]), (13440, [(.int .u64 (.ofNat 0)), (.int .u64 (.ofNat 0))]), (9600, [(.int .u64 (.ofNat 25000000))]), (13312, [(.int .u64 (.ofNat 5000)), (.int .u64 (.ofNat 0))]), (13248, [(.int .u64 (.ofNat 1)), (.int .u64 (.ofNat 0))]), (12672, [(.int .u64 (.ofNat 5100)), (.int .u64 (.ofNat 0))]), (13120, [(.int .u64 (.ofNat 10001)), (.int .u64 (.ofNat 0))]), (13056, [(.int .u64 (.ofNat 5100)), (.int .u64 (.ofNat 0))]), (12928, [(.int .u64 (.ofNat 4901))]), (12992, [(.int .u64 (.ofNat 4900)), (.int .u64 (.ofNat 0))]), (12864, [(.int .u64 (.ofNat 5100)), (.int .u64 (.ofNat 0))]), (12800, [(.int .u64 (.ofNat 1)), (.int .u64 (.ofNat 0))]), (12736, [(.int .u64 (.ofNat 5100)), (.int .u64 (.ofNat 0))]), (12608, [(.int .u64 (.ofNat 51)), (.int .u64 (.ofNat 0))]), (12544, [(.int .u64 (.ofNat 1)), (.int .u64 (.ofNat 0))]), (12032, [(.int .u64 (.ofNat 50))]), (9664, [(.int .u64 (.ofNat 2500))])]
def Q376 : KC := ⟨101, [(C 9600 0 1 1), (I 2)], 151, 320, B374, (C 13184 0 1 1), 214, B375, [], []⟩
def L89 : List (Sum (FuncId × List Value × Value) KC) := [.inr Q376]
def T89 : Tab := pushT T88 L89
def B377 : List (Nat × List Value) := [(9536, [(.int .u64 (.ofNat 25000000000000)), (.int .u64 (.ofNat 0))]), gq 256, gq 128, gq 192]
def B378 : List (Nat × List Value) := [(14784, [(.int .u64 (.ofNat 5000000))]), gq 256, gq 128, gq 192, (14336, [(.int .u64 (.ofNat 5000000))]), (14720, [(.int .u64 (.ofNat 10000000)), (.int .u64 (.ofNat 0))]), (14656, [(.int .u64 (.ofNat 5000000)), (.int .u64 (.ofNat 0))]), (14528, [(.int .u64 (.ofNat 5000000))]), (14592, [(.int .u64 (.ofNat 0)), (.int .u64 (.ofNat 0))]), (9536, [(.int .u64 (.ofNat 25000000000000)), (.int .u64 (.ofNat 0))]), (14464, [(.int .u64 (.ofNat 5000000)), (.int .u64 (.ofNat 0))]), (14400, [(.int .u64 (.ofNat 1)), (.int .u64 (.ofNat 0))]), (13824, [(.int .u64 (.ofNat 5001000)), (.int .u64 (.ofNat 0))]), (14272, [(.int .u64 (.ofNat 10000000)), (.int .u64 (.ofNat 0))]), (14208, [(.int .u64 (.ofNat 5001000)), (.int .u64 (.ofNat 0))]), (14080, [(.int .u64 (.ofNat 4999000))]), (14144, [(.int .u64 (.ofNat 1000000)), (.int .u64 (.ofNat 0))]), (14016, [(.int .u64 (.ofNat 5001000)), (.int .u64 (.ofNat 0))]), (13952, [(.int .u64 (.ofNat 1)), (.int .u64 (.ofNat 0))]), (13888, [(.int .u64 (.ofNat 5001000)), (.int .u64 (.ofNat 0))]), (13760, [(.int .u64 (.ofNat 5001)), (.int .u64 (.ofNat 0))]), (13696, [(.int .u64 (.ofNat 1)), (.int .u64 (.ofNat 0))]), (13184, [(.int .u64 (.ofNat 5000))]), (9600, [(.int .u64 (.ofNat 25000000))])]
def Q379 : KC := ⟨101, [(C 9536 0 1 1), (I 2)], 150, 320, B377, (C 14336 0 1 1), 232, B378, [], []⟩
def L90 : List (Sum (FuncId × List Value × Value) KC) := [.inr Q379]
def T90 : Tab := pushT T89 L90
def B380 : List (Nat × List Value) := [gq 256, gq 128, gq 192, (2752, [(.int .u64 (.ofNat 0)), (.int .u64 (.ofNat 25000000)), (.int .u64 (.ofNat 0))])]
def B381 : List (Nat × List Value) := [(15936, [(.int .u64 (.ofNat 5000000000000))]), gq 256, gq 128, gq 192, (15488, [(.int .u64 (.ofNat 5000000000000))]), (15872, [(.int .u64 (.ofNat 10000000000000)), (.int .u64 (.ofNat 0))]), (15808, [(.int .u64 (.ofNat 5000000000000)), (.int .u64 (.ofNat 0))]), (15680, [(.int .u64 (.ofNat 5000000000000)), (.int .u64 (.ofNat 0))]), (15744, [(.int .u64 (.ofNat 0)), (.int .u64 (.ofNat 0))]), (2752, [(.int .u64 (.ofNat 0)), (.int .u64 (.ofNat 25000000)), (.int .u64 (.ofNat 0))]), (15616, [(.int .u64 (.ofNat 5000000000000)), (.int .u64 (.ofNat 0))]), (15552, [(.int .u64 (.ofNat 1)), (.int .u64 (.ofNat 0))]), (14976, [(.int .u64 (.ofNat 5000001000000)), (.int .u64 (.ofNat 0))]), (15424, [(.int .u64 (.ofNat 10000000000000)), (.int .u64 (.ofNat 0))]), (15360, [(.int .u64 (.ofNat 5000001000000)), (.int .u64 (.ofNat 0))]), (15232, [(.int .u64 (.ofNat 4999999000000)), (.int .u64 (.ofNat 0))]), (15296, [(.int .u64 (.ofNat 1000000000000)), (.int .u64 (.ofNat 0))]), (15168, [(.int .u64 (.ofNat 5000001000000)), (.int .u64 (.ofNat 0))]), (15104, [(.int .u64 (.ofNat 1)), (.int .u64 (.ofNat 0))]), (15040, [(.int .u64 (.ofNat 5000001000000)), (.int .u64 (.ofNat 0))]), (14912, [(.int .u64 (.ofNat 5000001)), (.int .u64 (.ofNat 0))]), (14848, [(.int .u64 (.ofNat 1)), (.int .u64 (.ofNat 0))]), (14336, [(.int .u64 (.ofNat 5000000))]), (9536, [(.int .u64 (.ofNat 25000000000000)), (.int .u64 (.ofNat 0))])]
def Q382 : KC := ⟨101, [(C 2752 0 2 2), (I 2)], 149, 320, B380, (C 15488 0 1 1), 250, B381, [], []⟩
def L91 : List (Sum (FuncId × List Value × Value) KC) := [.inr Q382]
def T91 : Tab := pushT T90 L91
def B383 : List (Nat × List Value) := [gq 256, gq 128, gq 192, (15488, [(.int .u64 (.ofNat 5000000000000))])]
def B384 : List (Nat × List Value) := [gq 256, gq 128, gq 192, (16128, [(.int .u64 (.ofNat 0)), (.int .u64 (.ofNat 25000000)), (.int .u64 (.ofNat 0))]), (16064, [(.int .u64 (.ofNat 0)), (.int .u64 (.ofNat 25000000))]), (16000, [(.int .u64 (.ofNat 1)), (.int .u64 (.ofNat 0))]), (15488, [(.int .u64 (.ofNat 5000000000000))])]
def Q385 : KC := ⟨98, [(C 15488 0 1 1), (I 2)], 250, 320, B383, (C 16128 0 2 2), 253, B384, [], []⟩
def B386 : List (Nat × List Value) := [(768, [(I 3000000000000), (I 3000000000000), (I 4000000000000), (I 4000000000000)]), gq 256, gq 128, gq 192]
def B387 : List (Nat × List Value) := [gq 256, gq 128, gq 192, (2752, [(.int .u64 (.ofNat 0)), (.int .u64 (.ofNat 25000000)), (.int .u64 (.ofNat 0))]), (2432, [(.int .u64 (.ofNat 0)), (.int .u64 (.ofNat 25000000)), (.int .u64 (.ofNat 0))]), (2688, [(.int .u64 (.ofNat 0)), (.int .u64 (.ofNat 16000000)), (.int .u64 (.ofNat 0))]), (1984, [(.int .u64 (.ofNat 0)), (.int .u64 (.ofNat 9000000)), (.int .u64 (.ofNat 0))]), (2496, [(.int .u64 (.ofNat 4000000000000)), (.int .u64 (.ofNat 0))]), (2112, [(I 4000000000000), (I 4000000000000)]), (1024, [(C 2752 0 2 2)]), (2368, [(.int .u64 (.ofNat 0)), (.int .u64 (.ofNat 16000000)), (.int .u64 (.ofNat 0))]), (1664, [(.int .u64 (.ofNat 0)), (.int .u64 (.ofNat 9000000)), (.int .u64 (.ofNat 0))]), (2176, [(.int .u64 (.ofNat 4000000000000)), (.int .u64 (.ofNat 0))]), (960, [(C 2432 0 2 2)]), (2048, [(I 4000000000000), (I 4000000000000)]), (1920, [(.int .u64 (.ofNat 0)), (.int .u64 (.ofNat 9000000)), (.int .u64 (.ofNat 0))]), (1728, [(.int .u64 (.ofNat 3000000000000)), (.int .u64 (.ofNat 0))]), (1344, [(I 3000000000000), (I 3000000000000)]), (1600, [(.int .u64 (.ofNat 0)), (.int .u64 (.ofNat 9000000)), (.int .u64 (.ofNat 0))]), (1408, [(.int .u64 (.ofNat 3000000000000)), (.int .u64 (.ofNat 0))]), (1280, [(I 3000000000000), (I 3000000000000)]), (1088, [(C 768 0 2 2)]), (768, [(I 3000000000000), (I 3000000000000), (I 4000000000000), (I 4000000000000)]), (896, [(I 0)]), (832, [(I 5000000000000), (I 5000000000000)])]
def Q388 : KC := ⟨48, [(C 768 0 2 2)], 13, 320, B386, (.tuple ⟨[(A [(I 5000000000000), (I 5000000000000)]), (I 0)]⟩), 254, B387, [], []⟩
def L92 : List (Sum (FuncId × List Value × Value) KC) := [.inr Q385,
  .inr Q388,
  .inl (11, [(A [(I 50000000000000), (I 50000000000000), (I 3000000000000), (I 3000000000000), (I 4000000000000), (I 4000000000000)])], (.tuple ⟨[(A [(I 5000000000000), (I 5000000000000)]), (A [(I 600000000000), (I 600000000000), (I 800000000000), (I 800000000000)]), (I 0)]⟩))]
def T92 : Tab := pushT T91 L92
def L93 : List (Sum (FuncId × List Value × Value) KC) := [.inl (14, [(I 50), (I 0), (I 0), (I 1)], (A [(I 50000000000000), (I 50000000000000), (I 0), (I 0), (I 0), (I 0)])),
  .inl (39, [(A [(I 50000000000000), (I 50000000000000), (I 0), (I 0), (I 0), (I 0)])], (I 0)),
  .inl (135, [(.int .u64 (.ofNat 50)), (.int .u64 (.ofNat 1))], (.int .u64 (.ofNat 1))),
  .inl (137, [(A [(I 50), (I 1)])], (A [(S [53, 48]), (S [49])])),
  .inl (81, [(I 50), (I 1)], (.tuple ⟨[(A [(S [53, 48]), (S [49])]), (.bool true)]⟩)),
  .inl (135, [(.int .u64 (.ofNat 128)), (.int .u64 (.ofNat 1))], (.int .u64 (.ofNat 1))),
  .inl (224, [(.int .i64 (.negSucc 127)), (I 10)], (S [45, 49, 50, 56])),
  .inl (137, [(A [(.int .i64 (.negSucc 127)), (I 1)])], (A [(S [45, 49, 50, 56]), (S [49])])),
  .inl (81, [(.int .i64 (.negSucc 127)), (I 1)], (.tuple ⟨[(A [(S [45, 49, 50, 56]), (S [49])]), (.bool true)]⟩)),
  .inl (5, [(I 50), (I 0), (.int .i64 (.negSucc 127)), (I 1)], (A [(S [53, 48]), (S [49]), (S [48]), (S [49]), (S [45, 49, 50, 56]), (S [49])])),
  .inl (174, [(S [53, 48])], (.tuple ⟨[(I 50), (.bool true)]⟩)),
  .inl (125, [(A [(S [53, 48]), (S [49])])], (.tuple ⟨[(A [(I 50), (I 1)]), (.bool true)]⟩)),
  .inl (174, [(S [45, 49, 50, 56])], (.tuple ⟨[(.int .i64 (.negSucc 127)), (.bool true)]⟩)),
  .inl (125, [(A [(S [45, 49, 50, 56]), (S [49])])], (.tuple ⟨[(A [(.int .i64 (.negSucc 127)), (I 1)]), (.bool true)]⟩)),
  .inl (26, [(A [(S [53, 48]), (S [49]), (S [48]), (S [49]), (S [45, 49, 50, 56]), (S [49])])], (I 0)),
  .inl (135, [(.int .u64 (.ofNat 100)), (.int .u64 (.ofNat 1))], (.int .u64 (.ofNat 1))),
  .inl (224, [(I 100), (I 10)], (S [49, 48, 48])),
  .inl (137, [(A [(I 100), (I 1)])], (A [(S [49, 48, 48]), (S [49])])),
  .inl (81, [(I 100), (I 1)], (.tuple ⟨[(A [(S [49, 48, 48]), (S [49])]), (.bool true)]⟩)),
  .inl (174, [(S [49, 48, 48])], (.tuple ⟨[(I 100), (.bool true)]⟩)),
  .inl (125, [(A [(S [49, 48, 48]), (S [49])])], (.tuple ⟨[(A [(I 100), (I 1)]), (.bool true)]⟩)),
  .inl (135, [(.int .u64 (.ofNat 50)), (.int .u64 (.ofNat 100))], (.int .u64 (.ofNat 50))),
  .inl (131, [(A [(I 50), (I 1)]), (A [(I 1), (I 100)])], (.tuple ⟨[(A [(S [49]), (S [50])]), (.bool true)]⟩))]
def T93 : Tab := pushT T92 L93
def L94 : List (Sum (FuncId × List Value × Value) KC) := [.inl (65, [(A [(S [53, 48]), (S [49])]), (A [(S [49, 48, 48]), (S [49])])], (.tuple ⟨[(A [(S [49]), (S [50])]), (I 0)]⟩)),
  .inl (224, [(I 128), (I 10)], (S [49, 50, 56])),
  .inl (137, [(A [(I 128), (I 1)])], (A [(S [49, 50, 56]), (S [49])])),
  .inl (81, [(I 128), (I 1)], (.tuple ⟨[(A [(S [49, 50, 56]), (S [49])]), (.bool true)]⟩)),
  .inl (174, [(S [49, 50, 56])], (.tuple ⟨[(I 128), (.bool true)]⟩)),
  .inl (125, [(A [(S [49, 50, 56]), (S [49])])], (.tuple ⟨[(A [(I 128), (I 1)]), (.bool true)]⟩)),
  .inl (142, [(.int .u64 (.ofNat 128)), (.int .u64 (.ofNat 1))], (.tuple ⟨[(.int .u64 (.ofNat 0)), (.int .u64 (.ofNat 128))]⟩)),
  .inl (178, [(I 128), (I 1)], (.tuple ⟨[(I 128), (.bool true)]⟩)),
  .inl (127, [(A [(I 0), (I 1)]), (A [(I 128), (I 1)])], (.tuple ⟨[(A [(S [49, 50, 56]), (S [49])]), (.bool true)]⟩)),
  .inl (74, [(A [(S [48]), (S [49])]), (A [(S [49, 50, 56]), (S [49])])], (.tuple ⟨[(A [(S [49, 50, 56]), (S [49])]), (I 0)]⟩)),
  .inl (135, [(.int .u64 (.ofNat 256)), (.int .u64 (.ofNat 1))], (.int .u64 (.ofNat 1))),
  .inl (227, [(.int .u64 (.ofNat 256))], (I 3)),
  .inl (224, [(I 256), (I 10)], (S [50, 53, 54])),
  .inl (137, [(A [(I 256), (I 1)])], (A [(S [50, 53, 54]), (S [49])])),
  .inl (81, [(I 256), (I 1)], (.tuple ⟨[(A [(S [50, 53, 54]), (S [49])]), (.bool true)]⟩)),
  .inl (174, [(S [50, 53, 54])], (.tuple ⟨[(I 256), (.bool true)]⟩)),
  .inl (125, [(A [(S [50, 53, 54]), (S [49])])], (.tuple ⟨[(A [(I 256), (I 1)]), (.bool true)]⟩)),
  .inl (135, [(.int .u64 (.ofNat 128)), (.int .u64 (.ofNat 256))], (.int .u64 (.ofNat 128))),
  .inl (131, [(A [(I 128), (I 1)]), (A [(I 1), (I 256)])], (.tuple ⟨[(A [(S [49]), (S [50])]), (.bool true)]⟩)),
  .inl (65, [(A [(S [49, 50, 56]), (S [49])]), (A [(S [50, 53, 54]), (S [49])])], (.tuple ⟨[(A [(S [49]), (S [50])]), (I 0)]⟩)),
  .inl (53, [(A [(S [48]), (S [49])])], (A [(S [49]), (S [50])])),
  .inl (178, [(.int .i64 (.negSucc 127)), (I 1)], (.tuple ⟨[(.int .i64 (.negSucc 127)), (.bool true)]⟩)),
  .inl (127, [(A [(.int .i64 (.negSucc 127)), (I 1)]), (A [(I 128), (I 1)])], (.tuple ⟨[(A [(S [48]), (S [49])]), (.bool true)]⟩)),
  .inl (74, [(A [(S [45, 49, 50, 56]), (S [49])]), (A [(S [49, 50, 56]), (S [49])])], (.tuple ⟨[(A [(S [48]), (S [49])]), (I 0)]⟩)),
  .inl (131, [(A [(I 0), (I 1)]), (A [(I 1), (I 256)])], (.tuple ⟨[(A [(S [48]), (S [49])]), (.bool true)]⟩))]
def T94 : Tab := pushT T93 L94
def L95 : List (Sum (FuncId × List Value × Value) KC) := [.inl (65, [(A [(S [48]), (S [49])]), (A [(S [50, 53, 54]), (S [49])])], (.tuple ⟨[(A [(S [48]), (S [49])]), (I 0)]⟩)),
  .inl (53, [(A [(S [45, 49, 50, 56]), (S [49])])], (A [(S [48]), (S [49])])),
  .inl (12, [(A [(S [53, 48]), (S [49]), (S [48]), (S [49]), (S [45, 49, 50, 56]), (S [49])])], (.tuple ⟨[(A [(S [49]), (S [50]), (S [49]), (S [50]), (S [48]), (S [49])]), (I 0)]⟩)),
  .inl (14, [(I 5), (I 3), (I 4), (I 5)], (A [(I 1000000000000), (I 1000000000000), (I 600000000000), (I 600000000000), (I 800000000000), (I 800000000000)])),
  .inl (14, [(I 0), (I 1), (I 0), (I 1)], (A [(I 0), (I 0), (I 1000000000000), (I 1000000000000), (I 0), (I 0)])),
  .inl (14, [(I 100), (I 0), (I 0), (I 1)], (A [(I 100000000000000), (I 100000000000000), (I 0), (I 0), (I 0), (I 0)])),
  .inl (14, [(I 42), (I 0), (I 0), (I 1)], (A [(I 42000000000000), (I 42000000000000), (I 0), (I 0), (I 0), (I 0)])),
  .inl (14, [(I 5), (I 0), (I 0), (I 1)], (A [(I 5000000000000), (I 5000000000000), (I 0), (I 0), (I 0), (I 0)])),
  .inl (81, [(I 1), (I 2)], (.tuple ⟨[(A [(S [49]), (S [50])]), (.bool true)]⟩)),
  .inl (81, [(I 0), (I 2)], (.tuple ⟨[(A [(S [48]), (S [49])]), (.bool true)]⟩)),
  .inl (5, [(I 1), (I 1), (I 0), (I 2)], (A [(S [49]), (S [50]), (S [49]), (S [50]), (S [48]), (S [49])])),
  .inl (4, [], (.bool true)),
  .inl (5, [(I 216), (I 216), (I 216), (I 24389)], (A [(S [50, 49, 54]), (S [50, 52, 51, 56, 57]), (S [50, 49, 54]), (S [50, 52, 51, 56, 57]), (S [50, 49, 54]), (S [50, 52, 51, 56, 57])])),
  .inl (77, [(S [50, 49, 54])], (.tuple ⟨[(I 1), (I 0)]⟩)),
  .inl (57, [(A [(S [50, 49, 54]), (S [50, 52, 51, 56, 57]), (S [50, 49, 54]), (S [50, 52, 51, 56, 57]), (S [50, 49, 54]), (S [50, 52, 51, 56, 57])]), (I 0)], (I 0))]
def T95 : Tab := pushT T94 L95
def L96 : List (Sum (FuncId × List Value × Value) KC) := [.inl (135, [(.int .u64 (.ofNat 216)), (.int .u64 (.ofNat 1))], (.int .u64 (.ofNat 1))),
  .inl (131, [(A [(I 216), (I 24389)]), (A [(I 1), (I 1)])], (.tuple ⟨[(A [(S [50, 49, 54]), (S [50, 52, 51, 56, 57])]), (.bool true)]⟩)),
  .inl (65, [(A [(S [50, 49, 54]), (S [50, 52, 51, 56, 57])]), (A [(S [49]), (S [49])])], (.tuple ⟨[(A [(S [50, 49, 54]), (S [50, 52, 51, 56, 57])]), (I 0)]⟩)),
  .inl (142, [(.int .u64 (.ofNat 216)), (.int .u64 (.ofNat 24389))], (.tuple ⟨[(.int .u64 (.ofNat 0)), (.int .u64 (.ofNat 5268024))]⟩)),
  .inl (162, [(A [(I 216), (I 24389)]), (A [(I 216), (I 24389)])], (.tuple ⟨[(I 0), (.bool true)]⟩)),
  .inl (111, [(A [(S [50, 49, 54]), (S [50, 52, 51, 56, 57])]), (A [(S [50, 49, 54]), (S [50, 52, 51, 56, 57])])], (.tuple ⟨[(I 0), (I 0)]⟩)),
  .inl (135, [(.int .u64 (.ofNat 841)), (.int .u64 (.ofNat 108))], (.int .u64 (.ofNat 1))),
  .inl (81, [(I 841), (I 108)], (.tuple ⟨[(A [(S [56, 52, 49]), (S [49, 48, 56])]), (.bool true)]⟩)),
  .inl (125, [(A [(S [56, 52, 49]), (S [49, 48, 56])])], (.tuple ⟨[(A [(I 841), (I 108)]), (.bool true)]⟩)),
  .inl (135, [(.int .u64 (.ofNat 841)), (.int .u64 (.ofNat 24389))], (.int .u64 (.ofNat 841))),
  .inl (135, [(.int .u64 (.ofNat 216)), (.int .u64 (.ofNat 108))], (.int .u64 (.ofNat 108))),
  .inl (137, [(A [(I 2), (I 29)])], (A [(S [50]), (S [50, 57])])),
  .inl (131, [(A [(I 841), (I 108)]), (A [(I 216), (I 24389)])], (.tuple ⟨[(A [(S [50]), (S [50, 57])]), (.bool true)]⟩)),
  .inl (76, [(A [(S [56, 52, 49]), (S [49, 48, 56])]), (A [(S [50, 49, 54]), (S [50, 52, 51, 56, 57])])], (.tuple ⟨[(A [(S [50]), (S [50, 57])]), (I 0)]⟩)),
  .inl (135, [(.int .u64 (.ofNat 2)), (.int .u64 (.ofNat 29))], (.int .u64 (.ofNat 1))),
  .inl (125, [(A [(S [50]), (S [50, 57])])], (.tuple ⟨[(A [(I 2), (I 29)]), (.bool true)]⟩)),
  .inl (135, [(.int .u64 (.ofNat 29)), (.int .u64 (.ofNat 29))], (.int .u64 (.ofNat 29)))]
def T96 : Tab := pushT T95 L96
def L97 : List (Sum (FuncId × List Value × Value) KC) := [.inl (127, [(A [(I 2), (I 29)]), (A [(I 4), (I 29)])], (.tuple ⟨[(A [(S [54]), (S [50, 57])]), (.bool true)]⟩)),
  .inl (74, [(A [(S [50]), (S [50, 57])]), (A [(S [52]), (S [50, 57])])], (.tuple ⟨[(A [(S [54]), (S [50, 57])]), (I 0)]⟩)),
  .inl (142, [(.int .u64 (.ofNat 6)), (.int .u64 (.ofNat 2000000000000))], (.tuple ⟨[(.int .u64 (.ofNat 0)), (.int .u64 (.ofNat 12000000000000))]⟩)),
  .inl (178, [(I 6), (I 2000000000000)], (.tuple ⟨[(I 12000000000000), (.bool true)]⟩)),
  .inl (193, [(A [(I 6), (I 29)]), (I 1000000000000)], (.tuple ⟨[(I 206896551724), (.bool true)]⟩)),
  .inl (147, [(A [(S [54]), (S [50, 57])]), (I 1000000000000)], (.tuple ⟨[(I 206896551724), (I 0)]⟩)),
  .inl (135, [(.int .u64 (.ofNat 206896551724)), (.int .u64 (.ofNat 1000000000000))], (.int .u64 (.ofNat 4))),
  .inl (227, [(.int .u64 (.ofNat 51724137931))], (I 11)),
  .inl (224, [(I 51724137931), (I 10)], (S [53, 49, 55, 50, 52, 49, 51, 55, 57, 51, 49])),
  .inl (227, [(.int .u64 (.ofNat 250000000000))], (I 12)),
  .inl (224, [(I 250000000000), (I 10)], (S [50, 53, 48, 48, 48, 48, 48, 48, 48, 48, 48, 48])),
  .inl (81, [(I 206896551724), (I 1000000000000)], (.tuple ⟨[(A [(S [53, 49, 55, 50, 52, 49, 51, 55, 57, 51, 49]), (S [50, 53, 48, 48, 48, 48, 48, 48, 48, 48, 48, 48])]), (.bool true)]⟩))]
def T97 : Tab := pushT T96 L97
def L98 : List (Sum (FuncId × List Value × Value) KC) := [.inl (174, [(S [53, 49, 55, 50, 52, 49, 51, 55, 57, 51, 49])], (.tuple ⟨[(I 51724137931), (.bool true)]⟩)),
  .inl (174, [(S [50, 53, 48, 48, 48, 48, 48, 48, 48, 48, 48, 48])], (.tuple ⟨[(I 250000000000), (.bool true)]⟩)),
  .inl (135, [(.int .u64 (.ofNat 51724137931)), (.int .u64 (.ofNat 250000000000))], (.int .u64 (.ofNat 1))),
  .inl (125, [(A [(S [53, 49, 55, 50, 52, 49, 51, 55, 57, 51, 49]), (S [50, 53, 48, 48, 48, 48, 48, 48, 48, 48, 48, 48])])], (.tuple ⟨[(A [(I 51724137931), (I 250000000000)]), (.bool true)]⟩)),
  .inl (142, [(.int .u64 (.ofNat 6)), (.int .u64 (.ofNat 250000000000))], (.tuple ⟨[(.int .u64 (.ofNat 0)), (.int .u64 (.ofNat 1500000000000))]⟩)),
  .inl (142, [(.int .u64 (.ofNat 51724137931)), (.int .u64 (.ofNat 29))], (.tuple ⟨[(.int .u64 (.ofNat 0)), (.int .u64 (.ofNat 1499999999999))]⟩)),
  .inl (162, [(A [(I 6), (I 29)]), (A [(I 51724137931), (I 250000000000)])], (.tuple ⟨[(I 1), (.bool true)]⟩)),
  .inl (161, [(A [(S [54]), (S [50, 57])]), (A [(S [53, 49, 55, 50, 52, 49, 51, 55, 57, 51, 49]), (S [50, 53, 48, 48, 48, 48, 48, 48, 48, 48, 48, 48])]), (.func (.func 162) ⟨[]⟩ ⟨[]⟩), (.func (.func 163) ⟨[]⟩ ⟨[]⟩)], (.tuple ⟨[(I 1), (I 0)]⟩)),
  .inl (80, [(A [(S [54]), (S [50, 57])]), (I 206896551724)], (.tuple ⟨[(I 1), (I 0)]⟩)),
  .inl (93, [(A [(S [54]), (S [50, 57])])], (.tuple ⟨[(A [(I 206896551724), (I 206896551725)]), (I 0)]⟩)),
  .inl (59, [(A [(S [50, 49, 54]), (S [50, 52, 51, 56, 57])])], (A [(I 206896551724), (I 206896551725)]))]
def T98 : Tab := pushT T97 L98
def B389 : List (Nat × List Value) := [gq 256, gq 128, gq 192, (1280, [(I 23999999999984), (I 23999999999984), (I 24000000000100), (I 24000000000100)]), (1216, [(I 23999999999984), (I 23999999999984), (I 24000000000100), (I 24000000000100)]), (1152, [(I 23999999999984), (I 24000000000100)]), (2432, [(.int .u64 (.ofNat 24000000000100)), (.bool false), (.bool false), (.bool true)]), (2368, [(.int .u64 (.ofNat 24000000000100)), (.bool false), (.bool false), (.bool true)]), (448, [(I 1)]), (2304, [(I 206896551725), (I 116)]), (2112, [(.int .u64 (.ofNat 24000000000100)), (.bool false), (.bool false), (.bool true)]), (2048, [(.int .u64 (.ofNat 24000000000100)), (.bool false), (.bool false), (.bool true)]), (1984, [(I 206896551725), (I 116)]), (1792, [(.int .u64 (.ofNat 23999999999984)), (.bool false), (.bool false), (.bool true)]), (1728, [(.int .u64 (.ofNat 23999999999984)), (.bool false), (.bool false), (.bool true)]), (1664, [(I 206896551724), (I 116)]), (1472, [(.int .u64 (.ofNat 23999999999984)), (.bool false), (.bool false), (.bool true)]), (1408, [(.int .u64 (.ofNat 23999999999984)), (.bool false), (.bool false), (.bool true)]), (1344, [(I 206896551724), (I 116)]), (1088, [(I 206896551724), (I 116), (I 206896551724), (I 116), (I 206896551725), (I 116), (I 206896551725), (I 116)])]
def Q390 : KC := ⟨87, [(A [(I 206896551724), (I 116), (I 206896551724), (I 116), (I 206896551725), (I 116), (I 206896551725), (I 116)]), (.func (.func 123) ⟨[]⟩ ⟨[(Z 448 0)]⟩)], 17, 320, B118, (.tuple ⟨[(A [(I 23999999999984), (I 24000000000100)]), (I 0)]⟩), 44, B389, [], []⟩
def B391 : List (Nat × List Value) := [gq 256, gq 128, gq 192, (1280, [(.int .i64 (.negSucc 499)), (.int .i64 (.negSucc 499)), (I 500), (I 500)]), (1216, [(.int .i64 (.negSucc 499)), (.int .i64 (.negSucc 499)), (I 500), (I 500)]), (1152, [(.int .i64 (.negSucc 499)), (I 500)]), (2432, [(.int .u64 (.ofNat 500)), (.bool false), (.bool false), (.bool true)]), (2368, [(.int .u64 (.ofNat 500)), (.bool false), (.bool false), (.bool true)]), (448, [(I 1)]), (2304, [(I 1), (I 500)]), (2112, [(.int .u64 (.ofNat 500)), (.bool false), (.bool false), (.bool true)]), (2048, [(.int .u64 (.ofNat 500)), (.bool false), (.bool false), (.bool true)]), (1984, [(I 1), (I 500)]), (1792, [(.int .u64 (.ofNat 500)), (.bool true), (.bool false), (.bool true)]), (1728, [(.int .u64 (.ofNat 500)), (.bool true), (.bool false), (.bool true)]), (1664, [(.int .i64 (.negSucc 0)), (I 500)]), (1472, [(.int .u64 (.ofNat 500)), (.bool true), (.bool false), (.bool true)]), (1408, [(.int .u64 (.ofNat 500)), (.bool true), (.bool false), (.bool true)]), (1344, [(.int .i64 (.negSucc 0)), (I 500)]), (1088, [(.int .i64 (.negSucc 0)), (I 500), (.int .i64 (.negSucc 0)), (I 500), (I 1), (I 500), (I 1), (I 500)])]
def Q392 : KC := ⟨87, [(A [(.int .i64 (.negSucc 0)), (I 500), (.int .i64 (.negSucc 0)), (I 500), (I 1), (I 500), (I 1), (I 500)]), (.func (.func 123) ⟨[]⟩ ⟨[(Z 448 0)]⟩)], 17, 320, B118, (.tuple ⟨[(A [(.int .i64 (.negSucc 499)), (I 500)]), (I 0)]⟩), 44, B391, [], []⟩
def L99 : List (Sum (FuncId × List Value × Value) KC) := [.inl (142, [(.int .u64 (.ofNat 206896551724)), (.int .u64 (.ofNat 116))], (.tuple ⟨[(.int .u64 (.ofNat 0)), (.int .u64 (.ofNat 23999999999984))]⟩)),
  .inl (90, [(I 206896551724), (I 116), (I 1)], (A [(.int .u64 (.ofNat 23999999999984)), (.bool false), (.bool false), (.bool true)])),
  .inl (142, [(.int .u64 (.ofNat 206896551725)), (.int .u64 (.ofNat 116))], (.tuple ⟨[(.int .u64 (.ofNat 0)), (.int .u64 (.ofNat 24000000000100))]⟩)),
  .inl (90, [(I 206896551725), (I 116), (I 1)], (A [(.int .u64 (.ofNat 24000000000100)), (.bool false), (.bool false), (.bool true)])),
  .inr Q390,
  .inl (70, [(A [(I 206896551724), (I 206896551725)]), (I 116), (I 1)], (.tuple ⟨[(A [(I 23999999999984), (I 24000000000100)]), (I 0)]⟩)),
  .inl (23, [(A [(I 23999999999984), (I 24000000000100)]), (A [(I 16000000000000), (I 16000000000000)])], (.tuple ⟨[(A [(I 7999999999984), (I 8000000000100)]), (I 0)]⟩)),
  .inl (23, [(A [(I 206896551724), (I 206896551725)]), (A [(I 206896551724), (I 206896551725)])], (.tuple ⟨[(A [(.int .i64 (.negSucc 0)), (I 1)]), (I 0)]⟩)),
  .inl (142, [(.int .u64 (.ofNat 1)), (.int .u64 (.ofNat 500))], (.tuple ⟨[(.int .u64 (.ofNat 0)), (.int .u64 (.ofNat 500))]⟩)),
  .inl (90, [(.int .i64 (.negSucc 0)), (I 500), (I 1)], (A [(.int .u64 (.ofNat 500)), (.bool true), (.bool false), (.bool true)])),
  .inl (90, [(I 1), (I 500), (I 1)], (A [(.int .u64 (.ofNat 500)), (.bool false), (.bool false), (.bool true)])),
  .inr Q392,
  .inl (70, [(A [(.int .i64 (.negSucc 0)), (I 1)]), (I 500), (I 1)], (.tuple ⟨[(A [(.int .i64 (.negSucc 499)), (I 500)]), (I 0)]⟩)),
  .inl (142, [(.int .u64 (.ofNat 1)), (.int .u64 (.ofNat 200))], (.tuple ⟨[(.int .u64 (.ofNat 0)), (.int .u64 (.ofNat 200))]⟩)),
  .inl (90, [(.int .i64 (.negSucc 0)), (I 200), (I 1)], (A [(.int .u64 (.ofNat 200)), (.bool true), (.bool false), (.bool true)]))]
def T99 : Tab := pushT T98 L99
def B393 : List (Nat × List Value) := [gq 256, gq 128, gq 192, (1280, [(.int .i64 (.negSucc 199)), (.int .i64 (.negSucc 199)), (I 200), (I 200)]), (1216, [(.int .i64 (.negSucc 199)), (.int .i64 (.negSucc 199)), (I 200), (I 200)]), (1152, [(.int .i64 (.negSucc 199)), (I 200)]), (2432, [(.int .u64 (.ofNat 200)), (.bool false), (.bool false), (.bool true)]), (2368, [(.int .u64 (.ofNat 200)), (.bool false), (.bool false), (.bool true)]), (448, [(I 1)]), (2304, [(I 1), (I 200)]), (2112, [(.int .u64 (.ofNat 200)), (.bool false), (.bool false), (.bool true)]), (2048, [(.int .u64 (.ofNat 200)), (.bool false), (.bool false), (.bool true)]), (1984, [(I 1), (I 200)]), (1792, [(.int .u64 (.ofNat 200)), (.bool true), (.bool false), (.bool true)]), (1728, [(.int .u64 (.ofNat 200)), (.bool true), (.bool false), (.bool true)]), (1664, [(.int .i64 (.negSucc 0)), (I 200)]), (1472, [(.int .u64 (.ofNat 200)), (.bool true), (.bool false), (.bool true)]), (1408, [(.int .u64 (.ofNat 200)), (.bool true), (.bool false), (.bool true)]), (1344, [(.int .i64 (.negSucc 0)), (I 200)]), (1088, [(.int .i64 (.negSucc 0)), (I 200), (.int .i64 (.negSucc 0)), (I 200), (I 1), (I 200), (I 1), (I 200)])]
def Q394 : KC := ⟨87, [(A [(.int .i64 (.negSucc 0)), (I 200), (.int .i64 (.negSucc 0)), (I 200), (I 1), (I 200), (I 1), (I 200)]), (.func (.func 123) ⟨[]⟩ ⟨[(Z 448 0)]⟩)], 17, 320, B118, (.tuple ⟨[(A [(.int .i64 (.negSucc 199)), (I 200)]), (I 0)]⟩), 44, B393, [], []⟩
def L100 : List (Sum (FuncId × List Value × Value) KC) := [.inl (90, [(I 1), (I 200), (I 1)], (A [(.int .u64 (.ofNat 200)), (.bool false), (.bool false), (.bool true)])),
  .inr Q394,
  .inl (70, [(A [(.int .i64 (.negSucc 0)), (I 1)]), (I 200), (I 1)], (.tuple ⟨[(A [(.int .i64 (.negSucc 199)), (I 200)]), (I 0)]⟩)),
  .inl (6, [(A [(S [50, 49, 54]), (S [50, 52, 51, 56, 57]), (S [50, 49, 54]), (S [50, 52, 51, 56, 57]), (S [50, 49, 54]), (S [50, 52, 51, 56, 57])]), (A [(S [49]), (S [49]), (S [49]), (S [49]), (S [49]), (S [49])])], (.tuple ⟨[(A [(I 7999999999984), (I 8000000000100), (.int .i64 (.negSucc 499)), (I 500), (.int .i64 (.negSucc 199)), (I 200)]), (I 0)]⟩)),
  .inl (5, [(I 0), (I 0), (I 0), (I 1)], (A [(S [48]), (S [49]), (S [48]), (S [49]), (S [48]), (S [49])])),
  .inl (77, [(S [48])], (.tuple ⟨[(I 0), (I 0)]⟩)),
  .inl (57, [(A [(S [48]), (S [49]), (S [48]), (S [49]), (S [48]), (S [49])]), (I 0)], (I 0)),
  .inl (131, [(A [(I 0), (I 1)]), (A [(I 1), (I 1)])], (.tuple ⟨[(A [(S [48]), (S [49])]), (.bool true)]⟩)),
  .inl (65, [(A [(S [48]), (S [49])]), (A [(S [49]), (S [49])])], (.tuple ⟨[(A [(S [48]), (S [49])]), (I 0)]⟩)),
  .inl (142, [(.int .u64 (.ofNat 0)), (.int .u64 (.ofNat 24389))], (.tuple ⟨[(.int .u64 (.ofNat 0)), (.int .u64 (.ofNat 0))]⟩)),
  .inl (162, [(A [(I 0), (I 1)]), (A [(I 216), (I 24389)])], (.tuple ⟨[(.int .i64 (.negSucc 0)), (.bool true)]⟩)),
  .inl (111, [(A [(S [48]), (S [49])]), (A [(S [50, 49, 54]), (S [50, 52, 51, 56, 57])])], (.tuple ⟨[(.int .i64 (.negSucc 0)), (I 0)]⟩))]
def T100 : Tab := pushT T99 L100
def L101 : List (Sum (FuncId × List Value × Value) KC) := [.inl (135, [(.int .u64 (.ofNat 841)), (.int .u64 (.ofNat 1))], (.int .u64 (.ofNat 1))),
  .inl (142, [(.int .u64 (.ofNat 841)), (.int .u64 (.ofNat 0))], (.tuple ⟨[(.int .u64 (.ofNat 0)), (.int .u64 (.ofNat 0))]⟩)),
  .inl (178, [(I 841), (I 0)], (.tuple ⟨[(I 0), (.bool true)]⟩)),
  .inl (131, [(A [(I 841), (I 108)]), (A [(I 0), (I 1)])], (.tuple ⟨[(A [(S [48]), (S [49])]), (.bool true)]⟩)),
  .inl (76, [(A [(S [56, 52, 49]), (S [49, 48, 56])]), (A [(S [48]), (S [49])])], (.tuple ⟨[(A [(S [48]), (S [49])]), (I 0)]⟩)),
  .inl (127, [(A [(I 0), (I 1)]), (A [(I 4), (I 29)])], (.tuple ⟨[(A [(S [52]), (S [50, 57])]), (.bool true)]⟩)),
  .inl (74, [(A [(S [48]), (S [49])]), (A [(S [52]), (S [50, 57])])], (.tuple ⟨[(A [(S [52]), (S [50, 57])]), (I 0)]⟩)),
  .inl (142, [(.int .u64 (.ofNat 4)), (.int .u64 (.ofNat 2000000000000))], (.tuple ⟨[(.int .u64 (.ofNat 0)), (.int .u64 (.ofNat 8000000000000))]⟩)),
  .inl (178, [(I 4), (I 2000000000000)], (.tuple ⟨[(I 8000000000000), (.bool true)]⟩)),
  .inl (193, [(A [(I 4), (I 29)]), (I 1000000000000)], (.tuple ⟨[(I 137931034483), (.bool true)]⟩)),
  .inl (147, [(A [(S [52]), (S [50, 57])]), (I 1000000000000)], (.tuple ⟨[(I 137931034483), (I 0)]⟩)),
  .inl (135, [(.int .u64 (.ofNat 137931034483)), (.int .u64 (.ofNat 1000000000000))], (.int .u64 (.ofNat 1))),
  .inl (227, [(.int .u64 (.ofNat 137931034483))], (I 12)),
  .inl (224, [(I 137931034483), (I 10)], (S [49, 51, 55, 57, 51, 49, 48, 51, 52, 52, 56, 51])),
  .inl (227, [(.int .u64 (.ofNat 1000000000000))], (I 13))]
def T101 : Tab := pushT T100 L101
def L102 : List (Sum (FuncId × List Value × Value) KC) := [.inl (224, [(I 1000000000000), (I 10)], (S [49, 48, 48, 48, 48, 48, 48, 48, 48, 48, 48, 48, 48])),
  .inl (81, [(I 137931034483), (I 1000000000000)], (.tuple ⟨[(A [(S [49, 51, 55, 57, 51, 49, 48, 51, 52, 52, 56, 51]), (S [49, 48, 48, 48, 48, 48, 48, 48, 48, 48, 48, 48, 48])]), (.bool true)]⟩)),
  .inl (174, [(S [49, 51, 55, 57, 51, 49, 48, 51, 52, 52, 56, 51])], (.tuple ⟨[(I 137931034483), (.bool true)]⟩)),
  .inl (174, [(S [49, 48, 48, 48, 48, 48, 48, 48, 48, 48, 48, 48, 48])], (.tuple ⟨[(I 1000000000000), (.bool true)]⟩)),
  .inl (125, [(A [(S [49, 51, 55, 57, 51, 49, 48, 51, 52, 52, 56, 51]), (S [49, 48, 48, 48, 48, 48, 48, 48, 48, 48, 48, 48, 48])])], (.tuple ⟨[(A [(I 137931034483), (I 1000000000000)]), (.bool true)]⟩)),
  .inl (142, [(.int .u64 (.ofNat 4)), (.int .u64 (.ofNat 1000000000000))], (.tuple ⟨[(.int .u64 (.ofNat 0)), (.int .u64 (.ofNat 4000000000000))]⟩)),
  .inl (142, [(.int .u64 (.ofNat 137931034483)), (.int .u64 (.ofNat 29))], (.tuple ⟨[(.int .u64 (.ofNat 0)), (.int .u64 (.ofNat 4000000000007))]⟩)),
  .inl (162, [(A [(I 4), (I 29)]), (A [(I 137931034483), (I 1000000000000)])], (.tuple ⟨[(.int .i64 (.negSucc 0)), (.bool true)]⟩)),
  .inl (161, [(A [(S [52]), (S [50, 57])]), (A [(S [49, 51, 55, 57, 51, 49, 48, 51, 52, 52, 56, 51]), (S [49, 48, 48, 48, 48, 48, 48, 48, 48, 48, 48, 48, 48])]), (.func (.func 162) ⟨[]⟩ ⟨[]⟩), (.func (.func 163) ⟨[]⟩ ⟨[]⟩)], (.tuple ⟨[(.int .i64 (.negSucc 0)), (I 0)]⟩)),
  .inl (80, [(A [(S [52]), (S [50, 57])]), (I 137931034483)], (.tuple ⟨[(.int .i64 (.negSucc 0)), (I 0)]⟩)),
  .inl (93, [(A [(S [52]), (S [50, 57])])], (.tuple ⟨[(A [(I 137931034482), (I 137931034483)]), (I 0)]⟩)),
  .inl (59, [(A [(S [48]), (S [49])])], (A [(I 137931034482), (I 137931034483)])),
  .inl (142, [(.int .u64 (.ofNat 137931034482)), (.int .u64 (.ofNat 116))], (.tuple ⟨[(.int .u64 (.ofNat 0)), (.int .u64 (.ofNat 15999999999912))]⟩)),
  .inl (90, [(I 137931034482), (I 116), (I 1)], (A [(.int .u64 (.ofNat 15999999999912)), (.bool false), (.bool false), (.bool true)])),
  .inl (142, [(.int .u64 (.ofNat 137931034483)), (.int .u64 (.ofNat 116))], (.tuple ⟨[(.int .u64 (.ofNat 0)), (.int .u64 (.ofNat 16000000000028))]⟩)),
  .inl (90, [(I 137931034483), (I 116), (I 1)], (A [(.int .u64 (.ofNat 16000000000028)), (.bool false), (.bool false), (.bool true)]))]
def T102 : Tab := pushT T101 L102
def B395 : List (Nat × List Value) := [gq 256, gq 128, gq 192, (1280, [(I 15999999999912), (I 15999999999912), (I 16000000000028), (I 16000000000028)]), (1216, [(I 15999999999912), (I 15999999999912), (I 16000000000028), (I 16000000000028)]), (1152, [(I 15999999999912), (I 16000000000028)]), (2432, [(.int .u64 (.ofNat 16000000000028)), (.bool false), (.bool false), (.bool true)]), (2368, [(.int .u64 (.ofNat 16000000000028)), (.bool false), (.bool false), (.bool true)]), (448, [(I 1)]), (2304, [(I 137931034483), (I 116)]), (2112, [(.int .u64 (.ofNat 16000000000028)), (.bool false), (.bool false), (.bool true)]), (2048, [(.int .u64 (.ofNat 16000000000028)), (.bool false), (.bool false), (.bool true)]), (1984, [(I 137931034483), (I 116)]), (1792, [(.int .u64 (.ofNat 15999999999912)), (.bool false), (.bool false), (.bool true)]), (1728, [(.int .u64 (.ofNat 15999999999912)), (.bool false), (.bool false), (.bool true)]), (1664, [(I 137931034482), (I 116)]), (1472, [(.int .u64 (.ofNat 15999999999912)), (.bool false), (.bool false), (.bool true)]), (1408, [(.int .u64 (.ofNat 15999999999912)), (.bool false), (.bool false), (.bool true)]), (1344, [(I 137931034482), (I 116)]), (1088, [(I 137931034482), (I 116), (I 137931034482), (I 116), (I 137931034483), (I 116), (I 137931034483), (I 116)])]
def Q396 : KC := ⟨87, [(A [(I 137931034482), (I 116), (I 137931034482), (I 116), (I 137931034483), (I 116), (I 137931034483), (I 116)]), (.func (.func 123) ⟨[]⟩ ⟨[(Z 448 0)]⟩)], 17, 320, B118, (.tuple ⟨[(A [(I 15999999999912), (I 16000000000028)]), (I 0)]⟩), 44, B395, [], []⟩
def L103 : List (Sum (FuncId × List Value × Value) KC) := [.inr Q396,
  .inl (70, [(A [(I 137931034482), (I 137931034483)]), (I 116), (I 1)], (.tuple ⟨[(A [(I 15999999999912), (I 16000000000028)]), (I 0)]⟩)),
  .inl (23, [(A [(I 15999999999912), (I 16000000000028)]), (A [(I 16000000000000), (I 16000000000000)])], (.tuple ⟨[(A [(.int .i64 (.negSucc 87)), (I 28)]), (I 0)]⟩)),
  .inl (23, [(A [(I 137931034482), (I 137931034483)]), (A [(I 137931034482), (I 137931034483)])], (.tuple ⟨[(A [(.int .i64 (.negSucc 0)), (I 1)]), (I 0)]⟩)),
  .inl (6, [(A [(S [48]), (S [49]), (S [48]), (S [49]), (S [48]), (S [49])]), (A [(S [49]), (S [49]), (S [49]), (S [49]), (S [49]), (S [49])])], (.tuple ⟨[(A [(.int .i64 (.negSucc 87)), (I 28), (.int .i64 (.negSucc 499)), (I 500), (.int .i64 (.negSucc 199)), (I 200)]), (I 0)]⟩)),
  .inl (135, [(.int .u64 (.ofNat 8)), (.int .u64 (.ofNat 1))], (.int .u64 (.ofNat 1))),
  .inl (137, [(A [(I 8), (I 1)])], (A [(S [56]), (S [49])])),
  .inl (81, [(I 8), (I 1)], (.tuple ⟨[(A [(S [56]), (S [49])]), (.bool true)]⟩)),
  .inl (5, [(I 8), (I 0), (I 0), (I 1)], (A [(S [56]), (S [49]), (S [48]), (S [49]), (S [48]), (S [49])])),
  .inl (125, [(A [(S [56]), (S [49])])], (.tuple ⟨[(A [(I 8), (I 1)]), (.bool true)]⟩)),
  .inl (26, [(A [(S [56]), (S [49]), (S [48]), (S [49]), (S [48]), (S [49])])], (I 0)),
  .inl (135, [(.int .u64 (.ofNat 24)), (.int .u64 (.ofNat 1))], (.int .u64 (.ofNat 1))),
  .inl (137, [(A [(I 24), (I 1)])], (A [(S [50, 52]), (S [49])])),
  .inl (127, [(A [(I 8), (I 1)]), (A [(I 16), (I 1)])], (.tuple ⟨[(A [(S [50, 52]), (S [49])]), (.bool true)]⟩)),
  .inl (74, [(A [(S [56]), (S [49])]), (A [(S [49, 54]), (S [49])])], (.tuple ⟨[(A [(S [50, 52]), (S [49])]), (I 0)]⟩)),
  .inl (174, [(S [50, 52])], (.tuple ⟨[(I 24), (.bool true)]⟩))]
def T103 : Tab := pushT T102 L103
def L104 : List (Sum (FuncId × List Value × Value) KC) := [.inl (125, [(A [(S [50, 52]), (S [49])])], (.tuple ⟨[(A [(I 24), (I 1)]), (.bool true)]⟩)),
  .inl (135, [(.int .u64 (.ofNat 24)), (.int .u64 (.ofNat 116))], (.int .u64 (.ofNat 4))),
  .inl (131, [(A [(I 24), (I 1)]), (A [(I 1), (I 116)])], (.tuple ⟨[(A [(S [54]), (S [50, 57])]), (.bool true)]⟩)),
  .inl (65, [(A [(S [50, 52]), (S [49])]), (A [(S [49, 49, 54]), (S [49])])], (.tuple ⟨[(A [(S [54]), (S [50, 57])]), (I 0)]⟩)),
  .inl (135, [(.int .u64 (.ofNat 29)), (.int .u64 (.ofNat 1))], (.int .u64 (.ofNat 1))),
  .inl (135, [(.int .u64 (.ofNat 6)), (.int .u64 (.ofNat 1))], (.int .u64 (.ofNat 1))),
  .inl (142, [(.int .u64 (.ofNat 29)), (.int .u64 (.ofNat 1))], (.tuple ⟨[(.int .u64 (.ofNat 0)), (.int .u64 (.ofNat 29))]⟩)),
  .inl (178, [(I 29), (I 1)], (.tuple ⟨[(I 29), (.bool true)]⟩)),
  .inl (127, [(A [(I 6), (I 29)]), (A [(I 0), (I 1)])], (.tuple ⟨[(A [(S [54]), (S [50, 57])]), (.bool true)]⟩)),
  .inl (74, [(A [(S [54]), (S [50, 57])]), (A [(S [48]), (S [49])])], (.tuple ⟨[(A [(S [54]), (S [50, 57])]), (I 0)]⟩)),
  .inl (75, [(A [(S [54]), (S [50, 57])]), (A [(S [48]), (S [49])])], (.tuple ⟨[(A [(S [54]), (S [50, 57])]), (I 0)]⟩)),
  .inl (142, [(.int .u64 (.ofNat 6)), (.int .u64 (.ofNat 29))], (.tuple ⟨[(.int .u64 (.ofNat 0)), (.int .u64 (.ofNat 174))]⟩)),
  .inl (162, [(A [(I 6), (I 29)]), (A [(I 6), (I 29)])], (.tuple ⟨[(I 0), (.bool true)]⟩)),
  .inl (111, [(A [(S [54]), (S [50, 57])]), (A [(S [54]), (S [50, 57])])], (.tuple ⟨[(I 0), (I 0)]⟩)),
  .inl (127, [(A [(I 6), (I 29)]), (A [(.int .i64 (.negSucc 3)), (I 29)])], (.tuple ⟨[(A [(S [50]), (S [50, 57])]), (.bool true)]⟩)),
  .inl (75, [(A [(S [54]), (S [50, 57])]), (A [(S [52]), (S [50, 57])])], (.tuple ⟨[(A [(S [50]), (S [50, 57])]), (I 0)]⟩)),
  .inl (135, [(.int .u64 (.ofNat 2)), (.int .u64 (.ofNat 841))], (.int .u64 (.ofNat 1))),
  .inl (142, [(.int .u64 (.ofNat 108)), (.int .u64 (.ofNat 2))], (.tuple ⟨[(.int .u64 (.ofNat 0)), (.int .u64 (.ofNat 216))]⟩)),
  .inl (178, [(I 108), (I 2)], (.tuple ⟨[(I 216), (.bool true)]⟩))]
def T104 : Tab := pushT T103 L104
def B397 : List (Nat × List Value) := [(576, [(S [49]), (S [49]), (S [49]), (S [49]), (S [49]), (S [49])]), (512, [(S [56]), (S [49]), (S [48]), (S [49]), (S [48]), (S [49])]), gq 256, gq 128, gq 192]
def B398 : List (Nat × List Value) := [(4480, [(S [54]), (S [50, 57]), (S [54]), (S [50, 57]), (S [54]), (S [50, 57])]), (1024, [(.func (.func 59) ⟨[]⟩ ⟨[]⟩), (.func (.func 62) ⟨[]⟩ ⟨[]⟩)]), (576, [(S [49]), (S [49]), (S [49]), (S [49]), (S [49]), (S [49])]), gq 256, gq 128, gq 192, (4416, [(S [54]), (S [50, 57])]), (2368, [(S [54]), (S [50, 57])]), (512, [(S [56]), (S [49]), (S [48]), (S [49]), (S [48]), (S [49])]), (3392, [(S [54]), (S [50, 57])]), (896, [(S [50, 49, 54]), (S [50, 52, 51, 56, 57]), (S [50, 49, 54]), (S [50, 52, 51, 56, 57]), (S [50, 49, 54]), (S [50, 52, 51, 56, 57])])]
def Q399 : KC := ⟨28, [(Z 512 0), (Z 576 0)], 14, 512, B397, (A [(S [50, 49, 54]), (S [50, 52, 51, 56, 57]), (S [50, 49, 54]), (S [50, 52, 51, 56, 57]), (S [50, 49, 54]), (S [50, 52, 51, 56, 57])]), 101, B398, [], []⟩
def L105 : List (Sum (FuncId × List Value × Value) KC) := [.inl (131, [(A [(I 108), (I 841)]), (A [(I 2), (I 29)])], (.tuple ⟨[(A [(S [50, 49, 54]), (S [50, 52, 51, 56, 57])]), (.bool true)]⟩)),
  .inl (76, [(A [(S [49, 48, 56]), (S [56, 52, 49])]), (A [(S [50]), (S [50, 57])])], (.tuple ⟨[(A [(S [50, 49, 54]), (S [50, 52, 51, 56, 57])]), (I 0)]⟩)),
  .inl (62, [(A [(S [54]), (S [50, 57])])], (A [(S [50, 49, 54]), (S [50, 52, 51, 56, 57])])),
  .inl (76, [(A [(S [50, 49, 54]), (S [50, 52, 51, 56, 57])]), (A [(S [49]), (S [49])])], (.tuple ⟨[(A [(S [50, 49, 54]), (S [50, 52, 51, 56, 57])]), (I 0)]⟩)),
  .inr Q399]
def T105 : Tab := pushT T104 L105
def B400 : List (Nat × List Value) := [(640, [(S [49]), (S [49]), (S [49]), (S [49]), (S [49]), (S [49])]), (576, [(S [56]), (S [49]), (S [48]), (S [49]), (S [48]), (S [49])]), gq 256, gq 128, gq 192]
def B401 : List (Nat × List Value) := [(4544, [(S [54]), (S [50, 57]), (S [54]), (S [50, 57]), (S [54]), (S [50, 57])]), (1088, [(.func (.func 59) ⟨[]⟩ ⟨[]⟩), (.func (.func 62) ⟨[]⟩ ⟨[]⟩)]), (640, [(S [49]), (S [49]), (S [49]), (S [49]), (S [49]), (S [49])]), gq 256, gq 128, gq 192, (4480, [(S [54]), (S [50, 57])]), (2432, [(S [54]), (S [50, 57])]), (576, [(S [56]), (S [49]), (S [48]), (S [49]), (S [48]), (S [49])]), (3456, [(S [54]), (S [50, 57])]), (960, [(S [50, 49, 54]), (S [50, 52, 51, 56, 57]), (S [50, 49, 54]), (S [50, 52, 51, 56, 57]), (S [50, 49, 54]), (S [50, 52, 51, 56, 57])])]
def Q402 : KC := ⟨28, [(Z 576 0), (Z 640 0)], 15, 576, B400, (A [(S [50, 49, 54]), (S [50, 52, 51, 56, 57]), (S [50, 49, 54]), (S [50, 52, 51, 56, 57]), (S [50, 49, 54]), (S [50, 52, 51, 56, 57])]), 102, B401, [], []⟩
def L106 : List (Sum (FuncId × List Value × Value) KC) := [.inr Q402,
  .inl (26, [(A [(S [48]), (S [49]), (S [48]), (S [49]), (S [48]), (S [49])])], (I 0)),
  .inl (127, [(A [(I 0), (I 1)]), (A [(I 16), (I 1)])], (.tuple ⟨[(A [(S [49, 54]), (S [49])]), (.bool true)]⟩)),
  .inl (74, [(A [(S [48]), (S [49])]), (A [(S [49, 54]), (S [49])])], (.tuple ⟨[(A [(S [49, 54]), (S [49])]), (I 0)]⟩)),
  .inl (135, [(.int .u64 (.ofNat 16)), (.int .u64 (.ofNat 116))], (.int .u64 (.ofNat 4))),
  .inl (131, [(A [(I 16), (I 1)]), (A [(I 1), (I 116)])], (.tuple ⟨[(A [(S [52]), (S [50, 57])]), (.bool true)]⟩)),
  .inl (65, [(A [(S [49, 54]), (S [49])]), (A [(S [49, 49, 54]), (S [49])])], (.tuple ⟨[(A [(S [52]), (S [50, 57])]), (I 0)]⟩)),
  .inl (127, [(A [(I 4), (I 29)]), (A [(I 0), (I 1)])], (.tuple ⟨[(A [(S [52]), (S [50, 57])]), (.bool true)]⟩)),
  .inl (74, [(A [(S [52]), (S [50, 57])]), (A [(S [48]), (S [49])])], (.tuple ⟨[(A [(S [52]), (S [50, 57])]), (I 0)]⟩)),
  .inl (75, [(A [(S [52]), (S [50, 57])]), (A [(S [48]), (S [49])])], (.tuple ⟨[(A [(S [52]), (S [50, 57])]), (I 0)]⟩)),
  .inl (142, [(.int .u64 (.ofNat 4)), (.int .u64 (.ofNat 29))], (.tuple ⟨[(.int .u64 (.ofNat 0)), (.int .u64 (.ofNat 116))]⟩))]
def T106 : Tab := pushT T105 L106
def B403 : List (Nat × List Value) := [(6592, [(S [49]), (S [49]), (S [49]), (S [49]), (S [49]), (S [49])]), (6528, [(S [48]), (S [49]), (S [48]), (S [49]), (S [48]), (S [49])]), gq 256, gq 128, gq 192]
def B404 : List (Nat × List Value) := [(10496, [(S [52]), (S [50, 57]), (S [52]), (S [50, 57]), (S [52]), (S [50, 57])]), (7040, [(.func (.func 59) ⟨[]⟩ ⟨[]⟩), (.func (.func 62) ⟨[]⟩ ⟨[]⟩)]), (6592, [(S [49]), (S [49]), (S [49]), (S [49]), (S [49]), (S [49])]), gq 256, gq 128, gq 192, (10432, [(S [52]), (S [50, 57])]), (8384, [(S [52]), (S [50, 57])]), (6528, [(S [48]), (S [49]), (S [48]), (S [49]), (S [48]), (S [49])]), (9408, [(S [52]), (S [50, 57])]), (6912, [(S [48]), (S [49]), (S [48]), (S [49]), (S [48]), (S [49])])]
def Q405 : KC := ⟨28, [(Z 6528 0), (Z 6592 0)], 108, 6528, B403, (A [(S [48]), (S [49]), (S [48]), (S [49]), (S [48]), (S [49])]), 195, B404, [], []⟩
def L107 : List (Sum (FuncId × List Value × Value) KC) := [.inl (162, [(A [(I 4), (I 29)]), (A [(I 6), (I 29)])], (.tuple ⟨[(.int .i64 (.negSucc 0)), (.bool true)]⟩)),
  .inl (111, [(A [(S [52]), (S [50, 57])]), (A [(S [54]), (S [50, 57])])], (.tuple ⟨[(.int .i64 (.negSucc 0)), (I 0)]⟩)),
  .inl (127, [(A [(I 4), (I 29)]), (A [(.int .i64 (.negSucc 3)), (I 29)])], (.tuple ⟨[(A [(S [48]), (S [49])]), (.bool true)]⟩)),
  .inl (75, [(A [(S [52]), (S [50, 57])]), (A [(S [52]), (S [50, 57])])], (.tuple ⟨[(A [(S [48]), (S [49])]), (I 0)]⟩)),
  .inl (135, [(.int .u64 (.ofNat 108)), (.int .u64 (.ofNat 1))], (.int .u64 (.ofNat 1))),
  .inl (142, [(.int .u64 (.ofNat 108)), (.int .u64 (.ofNat 0))], (.tuple ⟨[(.int .u64 (.ofNat 0)), (.int .u64 (.ofNat 0))]⟩)),
  .inl (178, [(I 108), (I 0)], (.tuple ⟨[(I 0), (.bool true)]⟩)),
  .inl (131, [(A [(I 108), (I 841)]), (A [(I 0), (I 1)])], (.tuple ⟨[(A [(S [48]), (S [49])]), (.bool true)]⟩)),
  .inl (76, [(A [(S [49, 48, 56]), (S [56, 52, 49])]), (A [(S [48]), (S [49])])], (.tuple ⟨[(A [(S [48]), (S [49])]), (I 0)]⟩)),
  .inl (62, [(A [(S [52]), (S [50, 57])])], (A [(S [48]), (S [49])])),
  .inl (76, [(A [(S [48]), (S [49])]), (A [(S [49]), (S [49])])], (.tuple ⟨[(A [(S [48]), (S [49])]), (I 0)]⟩)),
  .inr Q405]
def T107 : Tab := pushT T106 L107
def B406 : List (Nat × List Value) := [(6656, [(S [49]), (S [49]), (S [49]), (S [49]), (S [49]), (S [49])]), (6592, [(S [48]), (S [49]), (S [48]), (S [49]), (S [48]), (S [49])]), gq 256, gq 128, gq 192]
def B407 : List (Nat × List Value) := [(10560, [(S [52]), (S [50, 57]), (S [52]), (S [50, 57]), (S [52]), (S [50, 57])]), (7104, [(.func (.func 59) ⟨[]⟩ ⟨[]⟩), (.func (.func 62) ⟨[]⟩ ⟨[]⟩)]), (6656, [(S [49]), (S [49]), (S [49]), (S [49]), (S [49]), (S [49])]), gq 256, gq 128, gq 192, (10496, [(S [52]), (S [50, 57])]), (8448, [(S [52]), (S [50, 57])]), (6592, [(S [48]), (S [49]), (S [48]), (S [49]), (S [48]), (S [49])]), (9472, [(S [52]), (S [50, 57])]), (6976, [(S [48]), (S [49]), (S [48]), (S [49]), (S [48]), (S [49])])]
def Q408 : KC := ⟨28, [(Z 6592 0), (Z 6656 0)], 109, 6592, B406, (A [(S [48]), (S [49]), (S [48]), (S [49]), (S [48]), (S [49])]), 196, B407, [], []⟩
def L108 : List (Sum (FuncId × List Value × Value) KC) := [.inr Q408,
  .inl (135, [(.int .u64 (.ofNat 88)), (.int .u64 (.ofNat 1000000000000))], (.int .u64 (.ofNat 8))),
  .inl (224, [(.int .i64 (.negSucc 10)), (I 10)], (S [45, 49, 49])),
  .inl (227, [(.int .u64 (.ofNat 125000000000))], (I 12)),
  .inl (224, [(I 125000000000), (I 10)], (S [49, 50, 53, 48, 48, 48, 48, 48, 48, 48, 48, 48])),
  .inl (81, [(.int .i64 (.negSucc 87)), (I 1000000000000)], (.tuple ⟨[(A [(S [45, 49, 49]), (S [49, 50, 53, 48, 48, 48, 48, 48, 48, 48, 48, 48])]), (.bool true)]⟩)),
  .inl (174, [(S [45, 49, 49])], (.tuple ⟨[(.int .i64 (.negSucc 10)), (.bool true)]⟩))]
def T108 : Tab := pushT T107 L108
def L109 : List (Sum (FuncId × List Value × Value) KC) := [.inl (174, [(S [49, 50, 53, 48, 48, 48, 48, 48, 48, 48, 48, 48])], (.tuple ⟨[(I 125000000000), (.bool true)]⟩)),
  .inl (135, [(.int .u64 (.ofNat 11)), (.int .u64 (.ofNat 125000000000))], (.int .u64 (.ofNat 1))),
  .inl (125, [(A [(S [45, 49, 49]), (S [49, 50, 53, 48, 48, 48, 48, 48, 48, 48, 48, 48])])], (.tuple ⟨[(A [(.int .i64 (.negSucc 10)), (I 125000000000)]), (.bool true)]⟩)),
  .inl (161, [(A [(S [48]), (S [49])]), (A [(S [45, 49, 49]), (S [49, 50, 53, 48, 48, 48, 48, 48, 48, 48, 48, 48])]), (.func (.func 162) ⟨[]⟩ ⟨[]⟩), (.func (.func 163) ⟨[]⟩ ⟨[]⟩)], (.tuple ⟨[(I 1), (I 0)]⟩)),
  .inl (80, [(A [(S [48]), (S [49])]), (.int .i64 (.negSucc 87))], (.tuple ⟨[(I 1), (I 0)]⟩)),
  .inl (135, [(.int .u64 (.ofNat 28)), (.int .u64 (.ofNat 1000000000000))], (.int .u64 (.ofNat 4))),
  .inl (137, [(A [(I 7), (I 250000000000)])], (A [(S [55]), (S [50, 53, 48, 48, 48, 48, 48, 48, 48, 48, 48, 48])])),
  .inl (81, [(I 28), (I 1000000000000)], (.tuple ⟨[(A [(S [55]), (S [50, 53, 48, 48, 48, 48, 48, 48, 48, 48, 48, 48])]), (.bool true)]⟩)),
  .inl (174, [(S [55])], (.tuple ⟨[(I 7), (.bool true)]⟩))]
def T109 : Tab := pushT T108 L109
def L110 : List (Sum (FuncId × List Value × Value) KC) := [.inl (135, [(.int .u64 (.ofNat 7)), (.int .u64 (.ofNat 250000000000))], (.int .u64 (.ofNat 1))),
  .inl (125, [(A [(S [55]), (S [50, 53, 48, 48, 48, 48, 48, 48, 48, 48, 48, 48])])], (.tuple ⟨[(A [(I 7), (I 250000000000)]), (.bool true)]⟩)),
  .inl (142, [(.int .u64 (.ofNat 0)), (.int .u64 (.ofNat 250000000000))], (.tuple ⟨[(.int .u64 (.ofNat 0)), (.int .u64 (.ofNat 0))]⟩)),
  .inl (142, [(.int .u64 (.ofNat 7)), (.int .u64 (.ofNat 1))], (.tuple ⟨[(.int .u64 (.ofNat 0)), (.int .u64 (.ofNat 7))]⟩)),
  .inl (162, [(A [(I 0), (I 1)]), (A [(I 7), (I 250000000000)])], (.tuple ⟨[(.int .i64 (.negSucc 0)), (.bool true)]⟩)),
  .inl (161, [(A [(S [48]), (S [49])]), (A [(S [55]), (S [50, 53, 48, 48, 48, 48, 48, 48, 48, 48, 48, 48])]), (.func (.func 162) ⟨[]⟩ ⟨[]⟩), (.func (.func 163) ⟨[]⟩ ⟨[]⟩)], (.tuple ⟨[(.int .i64 (.negSucc 0)), (I 0)]⟩)),
  .inl (80, [(A [(S [48]), (S [49])]), (I 28)], (.tuple ⟨[(.int .i64 (.negSucc 0)), (I 0)]⟩)),
  .inl (37, [(A [(.int .i64 (.negSucc 87)), (I 28)]), (A [(S [48]), (S [49])])], (.tuple ⟨[(.bool true), (I 0)]⟩)),
  .inl (135, [(.int .u64 (.ofNat 500)), (.int .u64 (.ofNat 1000000000000))], (.int .u64 (.ofNat 500))),
  .inl (224, [(.int .i64 (.negSucc 0)), (I 10)], (S [45, 49])),
  .inl (227, [(.int .u64 (.ofNat 2000000000))], (I 10)),
  .inl (224, [(I 2000000000), (I 10)], (S [50, 48, 48, 48, 48, 48, 48, 48, 48, 48])),
  .inl (81, [(.int .i64 (.negSucc 499)), (I 1000000000000)], (.tuple ⟨[(A [(S [45, 49]), (S [50, 48, 48, 48, 48, 48, 48, 48, 48, 48])]), (.bool true)]⟩)),
  .inl (174, [(S [45, 49])], (.tuple ⟨[(.int .i64 (.negSucc 0)), (.bool true)]⟩))]
def T110 : Tab := pushT T109 L110
def L111 : List (Sum (FuncId × List Value × Value) KC) := [.inl (174, [(S [50, 48, 48, 48, 48, 48, 48, 48, 48, 48])], (.tuple ⟨[(I 2000000000), (.bool true)]⟩)),
  .inl (135, [(.int .u64 (.ofNat 1)), (.int .u64 (.ofNat 2000000000))], (.int .u64 (.ofNat 1))),
  .inl (125, [(A [(S [45, 49]), (S [50, 48, 48, 48, 48, 48, 48, 48, 48, 48])])], (.tuple ⟨[(A [(.int .i64 (.negSucc 0)), (I 2000000000)]), (.bool true)]⟩)),
  .inl (161, [(A [(S [48]), (S [49])]), (A [(S [45, 49]), (S [50, 48, 48, 48, 48, 48, 48, 48, 48, 48])]), (.func (.func 162) ⟨[]⟩ ⟨[]⟩), (.func (.func 163) ⟨[]⟩ ⟨[]⟩)], (.tuple ⟨[(I 1), (I 0)]⟩)),
  .inl (80, [(A [(S [48]), (S [49])]), (.int .i64 (.negSucc 499))], (.tuple ⟨[(I 1), (I 0)]⟩)),
  .inl (137, [(A [(I 1), (I 2000000000)])], (A [(S [49]), (S [50, 48, 48, 48, 48, 48, 48, 48, 48, 48])])),
  .inl (81, [(I 500), (I 1000000000000)], (.tuple ⟨[(A [(S [49]), (S [50, 48, 48, 48, 48, 48, 48, 48, 48, 48])]), (.bool true)]⟩)),
  .inl (125, [(A [(S [49]), (S [50, 48, 48, 48, 48, 48, 48, 48, 48, 48])])], (.tuple ⟨[(A [(I 1), (I 2000000000)]), (.bool true)]⟩)),
  .inl (142, [(.int .u64 (.ofNat 0)), (.int .u64 (.ofNat 2000000000))], (.tuple ⟨[(.int .u64 (.ofNat 0)), (.int .u64 (.ofNat 0))]⟩)),
  .inl (162, [(A [(I 0), (I 1)]), (A [(I 1), (I 2000000000)])], (.tuple ⟨[(.int .i64 (.negSucc 0)), (.bool true)]⟩)),
  .inl (161, [(A [(S [48]), (S [49])]), (A [(S [49]), (S [50, 48, 48, 48, 48, 48, 48, 48, 48, 48])]), (.func (.func 162) ⟨[]⟩ ⟨[]⟩), (.func (.func 163) ⟨[]⟩ ⟨[]⟩)], (.tuple ⟨[(.int .i64 (.negSucc 0)), (I 0)]⟩)),
  .inl (80, [(A [(S [48]), (S [49])]), (I 500)], (.tuple ⟨[(.int .i64 (.negSucc 0)), (I 0)]⟩)),
  .inl (37, [(A [(.int .i64 (.negSucc 499)), (I 500)]), (A [(S [48]), (S [49])])], (.tuple ⟨[(.bool true), (I 0)]⟩)),
  .inl (135, [(.int .u64 (.ofNat 200)), (.int .u64 (.ofNat 1000000000000))], (.int .u64 (.ofNat 200))),
  .inl (227, [(.int .u64 (.ofNat 5000000000))], (I 10)),
  .inl (224, [(I 5000000000), (I 10)], (S [53, 48, 48, 48, 48, 48, 48, 48, 48, 48])),
  .inl (81, [(.int .i64 (.negSucc 199)), (I 1000000000000)], (.tuple ⟨[(A [(S [45, 49]), (S [53, 48, 48, 48, 48, 48, 48, 48, 48, 48])]), (.bool true)]⟩))]
def T111 : Tab := pushT T110 L111
def L112 : List (Sum (FuncId × List Value × Value) KC) := [.inl (174, [(S [53, 48, 48, 48, 48, 48, 48, 48, 48, 48])], (.tuple ⟨[(I 5000000000), (.bool true)]⟩)),
  .inl (135, [(.int .u64 (.ofNat 1)), (.int .u64 (.ofNat 5000000000))], (.int .u64 (.ofNat 1))),
  .inl (125, [(A [(S [45, 49]), (S [53, 48, 48, 48, 48, 48, 48, 48, 48, 48])])], (.tuple ⟨[(A [(.int .i64 (.negSucc 0)), (I 5000000000)]), (.bool true)]⟩)),
  .inl (161, [(A [(S [48]), (S [49])]), (A [(S [45, 49]), (S [53, 48, 48, 48, 48, 48, 48, 48, 48, 48])]), (.func (.func 162) ⟨[]⟩ ⟨[]⟩), (.func (.func 163) ⟨[]⟩ ⟨[]⟩)], (.tuple ⟨[(I 1), (I 0)]⟩)),
  .inl (80, [(A [(S [48]), (S [49])]), (.int .i64 (.negSucc 199))], (.tuple ⟨[(I 1), (I 0)]⟩)),
  .inl (137, [(A [(I 1), (I 5000000000)])], (A [(S [49]), (S [53, 48, 48, 48, 48, 48, 48, 48, 48, 48])])),
  .inl (81, [(I 200), (I 1000000000000)], (.tuple ⟨[(A [(S [49]), (S [53, 48, 48, 48, 48, 48, 48, 48, 48, 48])]), (.bool true)]⟩)),
  .inl (125, [(A [(S [49]), (S [53, 48, 48, 48, 48, 48, 48, 48, 48, 48])])], (.tuple ⟨[(A [(I 1), (I 5000000000)]), (.bool true)]⟩)),
  .inl (142, [(.int .u64 (.ofNat 0)), (.int .u64 (.ofNat 5000000000))], (.tuple ⟨[(.int .u64 (.ofNat 0)), (.int .u64 (.ofNat 0))]⟩)),
  .inl (162, [(A [(I 0), (I 1)]), (A [(I 1), (I 5000000000)])], (.tuple ⟨[(.int .i64 (.negSucc 0)), (.bool true)]⟩)),
  .inl (161, [(A [(S [48]), (S [49])]), (A [(S [49]), (S [53, 48, 48, 48, 48, 48, 48, 48, 48, 48])]), (.func (.func 162) ⟨[]⟩ ⟨[]⟩), (.func (.func 163) ⟨[]⟩ ⟨[]⟩)], (.tuple ⟨[(.int .i64 (.negSucc 0)), (I 0)]⟩)),
  .inl (80, [(A [(S [48]), (S [49])]), (I 200)], (.tuple ⟨[(.int .i64 (.negSucc 0)), (I 0)]⟩)),
  .inl (37, [(A [(.int .i64 (.negSucc 199)), (I 200)]), (A [(S [48]), (S [49])])], (.tuple ⟨[(.bool true), (I 0)]⟩)),
  .inl (8, [(A [(.int .i64 (.negSucc 87)), (I 28), (.int .i64 (.negSucc 499)), (I 500), (.int .i64 (.negSucc 199)), (I 200)]), (A [(S [48]), (S [49]), (S [48]), (S [49]), (S [48]), (S [49])])], (.bool true)),
  .inl (137, [(A [(.int .i64 (.negSucc 0)), (I 1)])], (A [(S [45, 49]), (S [49])])),
  .inl (81, [(.int .i64 (.negSucc 0)), (I 1)], (.tuple ⟨[(A [(S [45, 49]), (S [49])]), (.bool true)]⟩)),
  .inl (5, [(I 1), (I 1), (I 0), (I 1)], (A [(S [49]), (S [49]), (S [49]), (S [49]), (S [48]), (S [49])])),
  .inl (125, [(A [(S []), (S [])])], (.tuple ⟨[(A [(I 0), (I 0)]), (.bool false)]⟩)),
  .inl (175, [(S [])], (.tuple ⟨[(A [(.slice none 0 0), (.bool false)]), (.bool false)]⟩)),
  .inl (72, [(A [(S []), (S [])])], (I 20)),
  .inl (6, [(A [(S []), (S []), (S [45, 49]), (S [49]), (S [49]), (S [49])]), (A [(S []), (S []), (S [45, 49]), (S [49]), (S [49]), (S [49])])], (.tuple ⟨[(A [(I 0), (I 0), (I 0), (I 0), (I 0), (I 0)]), (I 20)]⟩)),
  .inl (5, [(.int .i64 (.negSucc 0)), (I 1), (I 1), (I 1)], (A [(S [45, 49]), (S [49]), (S [49]), (S [49]), (S [49]), (S [49])])),
  .inl (125, [(A [(S [45, 49]), (S [49])])], (.tuple ⟨[(A [(.int .i64 (.negSucc 0)), (I 1)]), (.bool true)]⟩))]
def T112 : Tab := pushT T111 L112
end Ev
end Go.Proofs.YtmijdboikfhbiaaGreatDoor
