/- LightKnown: the closed calls that it makes, and some calls in a state of memory, with what each gives: lists, nothing proved. -/
import Derived.Test.YtbcpfpombpfihabGreatDoorProg
import Derived.Test.YtbcpfpombpfihabGreatDoorEvM
import Derived.KernelRfl
namespace Go.Proofs.YtbcpfpombpfihabGreatDoor
open Go.RowKit
namespace Ev
set_option maxHeartbeats 4000000
def S (l : List Nat) : Value := .string ⟨⟨l.map UInt8.ofNat⟩⟩
def I (n : Nat) : Value := .int .i64 (.ofNat n)
def U (n : Nat) : Value := .int .u8 (.ofNat n)
def A (l : List Value) : Value := .agg ⟨l⟩
def C (b o n c : Nat) : Value := .slice (some ⟨b, o, none⟩) n c
def Z (b o : Nat) : Value := .pointer (some ⟨b, o, none⟩)
def G0 : List (Nat × List Value) := [(320, [(.int .u8 (.ofNat 0)), (.int .u8 (.ofNat 1)), (.int .u8 (.ofNat 28)), (.int .u8 (.ofNat 2)), (.int .u8 (.ofNat 29)), (.int .u8 (.ofNat 14)), (.int .u8 (.ofNat 24)), (.int .u8 (.ofNat 3)), (.int .u8 (.ofNat 30)), (.int .u8 (.ofNat 22)), (.int .u8 (.ofNat 20)), (.int .u8 (.ofNat 15)), (.int .u8 (.ofNat 25)), (.int .u8 (.ofNat 17)), (.int .u8 (.ofNat 4)), (.int .u8 (.ofNat 8)), (.int .u8 (.ofNat 31)), (.int .u8 (.ofNat 27)), (.int .u8 (.ofNat 13)), (.int .u8 (.ofNat 23)), (.int .u8 (.ofNat 21)), (.int .u8 (.ofNat 19)), (.int .u8 (.ofNat 16)), (.int .u8 (.ofNat 7)), (.int .u8 (.ofNat 26)), (.int .u8 (.ofNat 12)), (.int .u8 (.ofNat 18)), (.int .u8 (.ofNat 6)), (.int .u8 (.ofNat 11)), (.int .u8 (.ofNat 5)), (.int .u8 (.ofNat 10)), (.int .u8 (.ofNat 9))]), (64, [(.int .u8 (.ofNat 0)), (.int .u8 (.ofNat 1)), (.int .u8 (.ofNat 56)), (.int .u8 (.ofNat 2)), (.int .u8 (.ofNat 57)), (.int .u8 (.ofNat 49)), (.int .u8 (.ofNat 28)), (.int .u8 (.ofNat 3)), (.int .u8 (.ofNat 61)), (.int .u8 (.ofNat 58)), (.int .u8 (.ofNat 42)), (.int .u8 (.ofNat 50)), (.int .u8 (.ofNat 38)), (.int .u8 (.ofNat 29)), (.int .u8 (.ofNat 17)), (.int .u8 (.ofNat 4)), (.int .u8 (.ofNat 62)), (.int .u8 (.ofNat 47)), (.int .u8 (.ofNat 59)), (.int .u8 (.ofNat 36)), (.int .u8 (.ofNat 45)), (.int .u8 (.ofNat 43)), (.int .u8 (.ofNat 51)), (.int .u8 (.ofNat 22)), (.int .u8 (.ofNat 53)), (.int .u8 (.ofNat 39)), (.int .u8 (.ofNat 33)), (.int .u8 (.ofNat 30)), (.int .u8 (.ofNat 24)), (.int .u8 (.ofNat 18)), (.int .u8 (.ofNat 12)), (.int .u8 (.ofNat 5)), (.int .u8 (.ofNat 63)), (.int .u8 (.ofNat 55)), (.int .u8 (.ofNat 48)), (.int .u8 (.ofNat 27)), (.int .u8 (.ofNat 60)), (.int .u8 (.ofNat 41)), (.int .u8 (.ofNat 37)), (.int .u8 (.ofNat 16)), (.int .u8 (.ofNat 46)), (.int .u8 (.ofNat 35)), (.int .u8 (.ofNat 44)), (.int .u8 (.ofNat 21)), (.int .u8 (.ofNat 52)), (.int .u8 (.ofNat 32)), (.int .u8 (.ofNat 23)), (.int .u8 (.ofNat 11)), (.int .u8 (.ofNat 54)), (.int .u8 (.ofNat 26)), (.int .u8 (.ofNat 40)), (.int .u8 (.ofNat 15)), (.int .u8 (.ofNat 34)), (.int .u8 (.ofNat 20)), (.int .u8 (.ofNat 31)), (.int .u8 (.ofNat 10)), (.int .u8 (.ofNat 25)), (.int .u8 (.ofNat 14)), (.int .u8 (.ofNat 19)), (.int .u8 (.ofNat 9)), (.int .u8 (.ofNat 13)), (.int .u8 (.ofNat 8)), (.int .u8 (.ofNat 7)), (.int .u8 (.ofNat 6))]), (256, [(.int .u64 (.ofNat 1)), (.int .u64 (.ofNat 10)), (.int .u64 (.ofNat 100)), (.int .u64 (.ofNat 1000)), (.int .u64 (.ofNat 10000)), (.int .u64 (.ofNat 100000)), (.int .u64 (.ofNat 1000000)), (.int .u64 (.ofNat 10000000)), (.int .u64 (.ofNat 100000000)), (.int .u64 (.ofNat 1000000000)), (.int .u64 (.ofNat 10000000000)), (.int .u64 (.ofNat 100000000000)), (.int .u64 (.ofNat 1000000000000)), (.int .u64 (.ofNat 10000000000000)), (.int .u64 (.ofNat 100000000000000)), (.int .u64 (.ofNat 1000000000000000)), (.int .u64 (.ofNat 10000000000000000)), (.int .u64 (.ofNat 100000000000000000)), (.int .u64 (.ofNat 1000000000000000000)), (.int .u64 (.ofNat 10000000000000000000))]), (0, [(.int .i64 (.ofNat 44757)), (.int .i64 (.ofNat 40745)), (.int .i64 (.ofNat 100000)), (.int .i64 (.ofNat 31006)), (.int .i64 (.ofNat 31616)), (.int .i64 (.ofNat 100000)), (.int .i64 (.ofNat 34567)), (.int .i64 (.ofNat 35850)), (.int .i64 (.ofNat 100000)), (.int .i64 (.ofNat 33242)), (.int .i64 (.ofNat 34743)), (.int .i64 (.ofNat 100000)), (.int .i64 (.ofNat 31272)), (.int .i64 (.ofNat 32903)), (.int .i64 (.ofNat 100000)), (.int .i64 (.ofNat 29902)), (.int .i64 (.ofNat 31485)), (.int .i64 (.ofNat 100000)), (.int .i64 (.ofNat 1)), (.int .i64 (.ofNat 1)), (.int .i64 (.ofNat 3))])]
def gq (i : Nat) : Nat × List Value := (i, (look G0 i).getD [])
def T0 : Tab := ⟨.e, .e⟩
def L1 : List (Sum (FuncId × List Value × Value) KC) := [.inl (65, [(.int .u64 (.ofNat 1)), (.int .u64 (.ofNat 1))], (.int .u64 (.ofNat 1))),
  .inl (67, [(A [(I 1), (I 1)])], (A [(S [49]), (S [49])])),
  .inl (45, [(I 1), (I 1)], (.tuple ⟨[(A [(S [49]), (S [49])]), (.bool true)]⟩)),
  .inl (65, [(.int .u64 (.ofNat 2)), (.int .u64 (.ofNat 1))], (.int .u64 (.ofNat 1))),
  .inl (67, [(A [(I 2), (I 1)])], (A [(S [50]), (S [49])])),
  .inl (45, [(I 2), (I 1)], (.tuple ⟨[(A [(S [50]), (S [49])]), (.bool true)]⟩)),
  .inl (7, [(I 1), (I 2), (I 1), (I 1)], (A [(S [49]), (S [49]), (S [50]), (S [49]), (S [49]), (S [49])])),
  .inl (61, [(A [(S [49]), (S [49])])], (.tuple ⟨[(A [(I 1), (I 1)]), (.bool true)]⟩)),
  .inl (61, [(A [(S [50]), (S [49])])], (.tuple ⟨[(A [(I 2), (I 1)]), (.bool true)]⟩)),
  .inl (73, [(S [49])], (.tuple ⟨[(I 1), (I 0)]⟩)),
  .inl (73, [(S [50])], (.tuple ⟨[(I 1), (I 0)]⟩)),
  .inl (18, [(A [(S [49]), (S [49]), (S [50]), (S [49]), (S [49]), (S [49])]), (I 0)], (I 0)),
  .inl (104, [(I 1), (I 1)], (.tuple ⟨[(I 1), (.bool true)]⟩)),
  .inl (104, [(I 2), (I 1)], (.tuple ⟨[(I 2), (.bool true)]⟩)),
  .inl (65, [(.int .u64 (.ofNat 3)), (.int .u64 (.ofNat 1))], (.int .u64 (.ofNat 1))),
  .inl (67, [(A [(I 3), (I 1)])], (A [(S [51]), (S [49])])),
  .inl (80, [(A [(I 1), (I 1)]), (A [(I 2), (I 1)])], (.tuple ⟨[(A [(S [51]), (S [49])]), (.bool true)]⟩)),
  .inl (25, [(A [(S [49]), (S [49])]), (A [(S [50]), (S [49])])], (A [(S [51]), (S [49])])),
  .inl (61, [(A [(S [51]), (S [49])])], (.tuple ⟨[(A [(I 3), (I 1)]), (.bool true)]⟩)),
  .inl (104, [(I 3), (I 1)], (.tuple ⟨[(I 3), (.bool true)]⟩)),
  .inl (65, [(.int .u64 (.ofNat 4)), (.int .u64 (.ofNat 1))], (.int .u64 (.ofNat 1))),
  .inl (67, [(A [(I 4), (I 1)])], (A [(S [52]), (S [49])]))]
def T1 : Tab := pushT T0 L1
def L2 : List (Sum (FuncId × List Value × Value) KC) := [.inl (80, [(A [(I 3), (I 1)]), (A [(I 1), (I 1)])], (.tuple ⟨[(A [(S [52]), (S [49])]), (.bool true)]⟩)),
  .inl (56, [(A [(S [51]), (S [49])]), (A [(S [49]), (S [49])])], (.tuple ⟨[(A [(S [52]), (S [49])]), (I 0)]⟩)),
  .inl (61, [(A [(S [52]), (S [49])])], (.tuple ⟨[(A [(I 4), (I 1)]), (.bool true)]⟩)),
  .inl (73, [(S [52])], (.tuple ⟨[(I 1), (I 0)]⟩)),
  .inl (65, [(.int .u64 (.ofNat 1)), (.int .u64 (.ofNat 4))], (.int .u64 (.ofNat 1))),
  .inl (104, [(I 1), (I 4)], (.tuple ⟨[(I 4), (.bool true)]⟩)),
  .inl (67, [(A [(I 1), (I 4)])], (A [(S [49]), (S [52])])),
  .inl (93, [(A [(I 1), (I 1)]), (A [(I 1), (I 4)])], (.tuple ⟨[(A [(S [49]), (S [52])]), (.bool true)]⟩)),
  .inl (57, [(A [(S [49]), (S [49])]), (A [(S [52]), (S [49])])], (.tuple ⟨[(A [(S [49]), (S [52])]), (I 0)]⟩)),
  .inl (65, [(.int .u64 (.ofNat 2)), (.int .u64 (.ofNat 4))], (.int .u64 (.ofNat 2))),
  .inl (104, [(I 1), (I 2)], (.tuple ⟨[(I 2), (.bool true)]⟩)),
  .inl (67, [(A [(I 1), (I 2)])], (A [(S [49]), (S [50])])),
  .inl (93, [(A [(I 2), (I 1)]), (A [(I 1), (I 4)])], (.tuple ⟨[(A [(S [49]), (S [50])]), (.bool true)]⟩)),
  .inl (57, [(A [(S [50]), (S [49])]), (A [(S [52]), (S [49])])], (.tuple ⟨[(A [(S [49]), (S [50])]), (I 0)]⟩)),
  .inl (12, [(A [(S [49]), (S [49]), (S [50]), (S [49]), (S [49]), (S [49])])], (.tuple ⟨[(A [(S [49]), (S [52])]), (A [(S [49]), (S [50])]), (A [(S [50]), (S [49])]), (I 0)]⟩)),
  .inl (67, [(A [(I 0), (I 1)])], (A [(S [48]), (S [49])])),
  .inl (45, [(I 0), (I 1)], (.tuple ⟨[(A [(S [48]), (S [49])]), (.bool true)]⟩)),
  .inl (7, [(I 0), (I 0), (I 0), (I 1)], (A [(S [48]), (S [49]), (S [48]), (S [49]), (S [48]), (S [49])])),
  .inl (61, [(A [(S [48]), (S [49])])], (.tuple ⟨[(A [(I 0), (I 1)]), (.bool true)]⟩)),
  .inl (73, [(S [48])], (.tuple ⟨[(I 0), (I 0)]⟩))]
def T2 : Tab := pushT T1 L2
def L3 : List (Sum (FuncId × List Value × Value) KC) := [.inl (18, [(A [(S [48]), (S [49]), (S [48]), (S [49]), (S [48]), (S [49])]), (I 0)], (I 0)),
  .inl (104, [(I 0), (I 1)], (.tuple ⟨[(I 0), (.bool true)]⟩)),
  .inl (80, [(A [(I 0), (I 1)]), (A [(I 0), (I 1)])], (.tuple ⟨[(A [(S [48]), (S [49])]), (.bool true)]⟩)),
  .inl (25, [(A [(S [48]), (S [49])]), (A [(S [48]), (S [49])])], (A [(S [48]), (S [49])])),
  .inl (12, [(A [(S [48]), (S [49]), (S [48]), (S [49]), (S [48]), (S [49])])], (.tuple ⟨[(A [(S []), (S [])]), (A [(S []), (S [])]), (A [(S []), (S [])]), (I 7)]⟩)),
  .inl (65, [(.int .u64 (.ofNat 1)), (.int .u64 (.ofNat 5000))], (.int .u64 (.ofNat 1))),
  .inl (131, [(I 5000), (I 10)], (S [53, 48, 48, 48])),
  .inl (45, [(I 1), (I 5000)], (.tuple ⟨[(A [(S [49]), (S [53, 48, 48, 48])]), (.bool true)]⟩)),
  .inl (65, [(.int .u64 (.ofNat 4607000000)), (.int .u64 (.ofNat 1))], (.int .u64 (.ofNat 1))),
  .inl (131, [(.int .i64 (.negSucc 4606999999)), (I 10)], (S [45, 52, 54, 48, 55, 48, 48, 48, 48, 48, 48])),
  .inl (45, [(.int .i64 (.negSucc 4606999999)), (I 1)], (.tuple ⟨[(A [(S [45, 52, 54, 48, 55, 48, 48, 48, 48, 48, 48]), (S [49])]), (.bool true)]⟩)),
  .inl (65, [(.int .u64 (.ofNat 2967800)), (.int .u64 (.ofNat 1))], (.int .u64 (.ofNat 1))),
  .inl (131, [(I 2967800), (I 10)], (S [50, 57, 54, 55, 56, 48, 48]))]
def T3 : Tab := pushT T2 L3
def L4 : List (Sum (FuncId × List Value × Value) KC) := [.inl (45, [(I 2967800), (I 1)], (.tuple ⟨[(A [(S [50, 57, 54, 55, 56, 48, 48]), (S [49])]), (.bool true)]⟩)),
  .inl (65, [(.int .u64 (.ofNat 9911)), (.int .u64 (.ofNat 100))], (.int .u64 (.ofNat 1))),
  .inl (131, [(I 9911), (I 10)], (S [57, 57, 49, 49])),
  .inl (131, [(I 100), (I 10)], (S [49, 48, 48])),
  .inl (45, [(I 9911), (I 100)], (.tuple ⟨[(A [(S [57, 57, 49, 49]), (S [49, 48, 48])]), (.bool true)]⟩)),
  .inl (65, [(.int .u64 (.ofNat 244063)), (.int .u64 (.ofNat 1000000))], (.int .u64 (.ofNat 1))),
  .inl (131, [(I 244063), (I 10)], (S [50, 52, 52, 48, 54, 51])),
  .inl (131, [(I 1000000), (I 10)], (S [49, 48, 48, 48, 48, 48, 48])),
  .inl (45, [(I 244063), (I 1000000)], (.tuple ⟨[(A [(S [50, 52, 52, 48, 54, 51]), (S [49, 48, 48, 48, 48, 48, 48])]), (.bool true)]⟩)),
  .inl (88, [(S [45, 52, 54, 48, 55, 48, 48, 48, 48, 48, 48])], (.tuple ⟨[(.int .i64 (.negSucc 4606999999)), (.bool true)]⟩)),
  .inl (61, [(A [(S [45, 52, 54, 48, 55, 48, 48, 48, 48, 48, 48]), (S [49])])], (.tuple ⟨[(A [(.int .i64 (.negSucc 4606999999)), (I 1)]), (.bool true)]⟩)),
  .inl (88, [(S [53, 48, 48, 48])], (.tuple ⟨[(I 5000), (.bool true)]⟩)),
  .inl (61, [(A [(S [49]), (S [53, 48, 48, 48])])], (.tuple ⟨[(A [(I 1), (I 5000)]), (.bool true)]⟩))]
def T4 : Tab := pushT T3 L4
def L5 : List (Sum (FuncId × List Value × Value) KC) := [.inl (65, [(.int .u64 (.ofNat 4607000000)), (.int .u64 (.ofNat 5000))], (.int .u64 (.ofNat 5000))),
  .inl (104, [(.int .i64 (.negSucc 921399)), (I 1)], (.tuple ⟨[(.int .i64 (.negSucc 921399)), (.bool true)]⟩)),
  .inl (131, [(.int .i64 (.negSucc 921399)), (I 10)], (S [45, 57, 50, 49, 52, 48, 48])),
  .inl (93, [(A [(.int .i64 (.negSucc 4606999999)), (I 1)]), (A [(I 1), (I 5000)])], (.tuple ⟨[(A [(S [45, 57, 50, 49, 52, 48, 48]), (S [49])]), (.bool true)]⟩)),
  .inl (63, [(A [(S [45, 52, 54, 48, 55, 48, 48, 48, 48, 48, 48]), (S [49])]), (A [(S [49]), (S [53, 48, 48, 48])])], (.tuple ⟨[(A [(S [45, 57, 50, 49, 52, 48, 48]), (S [49])]), (I 0)]⟩)),
  .inl (88, [(S [45, 57, 50, 49, 52, 48, 48])], (.tuple ⟨[(.int .i64 (.negSucc 921399)), (.bool true)]⟩)),
  .inl (65, [(.int .u64 (.ofNat 921400)), (.int .u64 (.ofNat 1))], (.int .u64 (.ofNat 1))),
  .inl (61, [(A [(S [45, 57, 50, 49, 52, 48, 48]), (S [49])])], (.tuple ⟨[(A [(.int .i64 (.negSucc 921399)), (I 1)]), (.bool true)]⟩)),
  .inl (88, [(S [50, 57, 54, 55, 56, 48, 48])], (.tuple ⟨[(I 2967800), (.bool true)]⟩)),
  .inl (61, [(A [(S [50, 57, 54, 55, 56, 48, 48]), (S [49])])], (.tuple ⟨[(A [(I 2967800), (I 1)]), (.bool true)]⟩)),
  .inl (104, [(I 2967800), (I 1)], (.tuple ⟨[(I 2967800), (.bool true)]⟩)),
  .inl (65, [(.int .u64 (.ofNat 2046400)), (.int .u64 (.ofNat 1))], (.int .u64 (.ofNat 1))),
  .inl (131, [(I 2046400), (I 10)], (S [50, 48, 52, 54, 52, 48, 48])),
  .inl (80, [(A [(.int .i64 (.negSucc 921399)), (I 1)]), (A [(I 2967800), (I 1)])], (.tuple ⟨[(A [(S [50, 48, 52, 54, 52, 48, 48]), (S [49])]), (.bool true)]⟩)),
  .inl (56, [(A [(S [45, 57, 50, 49, 52, 48, 48]), (S [49])]), (A [(S [50, 57, 54, 55, 56, 48, 48]), (S [49])])], (.tuple ⟨[(A [(S [50, 48, 52, 54, 52, 48, 48]), (S [49])]), (I 0)]⟩))]
def T5 : Tab := pushT T4 L5
def L6 : List (Sum (FuncId × List Value × Value) KC) := [.inl (88, [(S [50, 48, 52, 54, 52, 48, 48])], (.tuple ⟨[(I 2046400), (.bool true)]⟩)),
  .inl (61, [(A [(S [50, 48, 52, 54, 52, 48, 48]), (S [49])])], (.tuple ⟨[(A [(I 2046400), (I 1)]), (.bool true)]⟩)),
  .inl (65, [(.int .u64 (.ofNat 2046400)), (.int .u64 (.ofNat 5000))], (.int .u64 (.ofNat 200))),
  .inl (104, [(I 10232), (I 1)], (.tuple ⟨[(I 10232), (.bool true)]⟩)),
  .inl (104, [(I 1), (I 25)], (.tuple ⟨[(I 25), (.bool true)]⟩)),
  .inl (131, [(I 10232), (I 10)], (S [49, 48, 50, 51, 50])),
  .inl (93, [(A [(I 2046400), (I 1)]), (A [(I 1), (I 5000)])], (.tuple ⟨[(A [(S [49, 48, 50, 51, 50]), (S [50, 53])]), (.bool true)]⟩)),
  .inl (63, [(A [(S [50, 48, 52, 54, 52, 48, 48]), (S [49])]), (A [(S [49]), (S [53, 48, 48, 48])])], (.tuple ⟨[(A [(S [49, 48, 50, 51, 50]), (S [50, 53])]), (I 0)]⟩)),
  .inl (88, [(S [49, 48, 50, 51, 50])], (.tuple ⟨[(I 10232), (.bool true)]⟩)),
  .inl (88, [(S [50, 53])], (.tuple ⟨[(I 25), (.bool true)]⟩)),
  .inl (65, [(.int .u64 (.ofNat 10232)), (.int .u64 (.ofNat 25))], (.int .u64 (.ofNat 1))),
  .inl (88, [(S [57, 57, 49, 49])], (.tuple ⟨[(I 9911), (.bool true)]⟩)),
  .inl (88, [(S [49, 48, 48])], (.tuple ⟨[(I 100), (.bool true)]⟩)),
  .inl (65, [(.int .u64 (.ofNat 25)), (.int .u64 (.ofNat 100))], (.int .u64 (.ofNat 25))),
  .inl (104, [(I 10232), (I 4)], (.tuple ⟨[(I 40928), (.bool true)]⟩)),
  .inl (104, [(I 9911), (I 1)], (.tuple ⟨[(I 9911), (.bool true)]⟩)),
  .inl (65, [(.int .u64 (.ofNat 50839)), (.int .u64 (.ofNat 25))], (.int .u64 (.ofNat 1))),
  .inl (104, [(I 1), (I 100)], (.tuple ⟨[(I 100), (.bool true)]⟩))]
def T6 : Tab := pushT T5 L6
def L7 : List (Sum (FuncId × List Value × Value) KC) := [.inl (131, [(I 50839), (I 10)], (S [53, 48, 56, 51, 57])),
  .inl (80, [(A [(I 10232), (I 25)]), (A [(I 9911), (I 100)])], (.tuple ⟨[(A [(S [53, 48, 56, 51, 57]), (S [49, 48, 48])]), (.bool true)]⟩)),
  .inl (56, [(A [(S [49, 48, 50, 51, 50]), (S [50, 53])]), (A [(S [57, 57, 49, 49]), (S [49, 48, 48])])], (.tuple ⟨[(A [(S [53, 48, 56, 51, 57]), (S [49, 48, 48])]), (I 0)]⟩)),
  .inl (88, [(S [53, 48, 56, 51, 57])], (.tuple ⟨[(I 50839), (.bool true)]⟩)),
  .inl (65, [(.int .u64 (.ofNat 50839)), (.int .u64 (.ofNat 100))], (.int .u64 (.ofNat 1))),
  .inl (65, [(.int .u64 (.ofNat 50839)), (.int .u64 (.ofNat 5000))], (.int .u64 (.ofNat 1))),
  .inl (65, [(.int .u64 (.ofNat 1)), (.int .u64 (.ofNat 100))], (.int .u64 (.ofNat 1))),
  .inl (104, [(I 50839), (I 1)], (.tuple ⟨[(I 50839), (.bool true)]⟩)),
  .inl (104, [(I 100), (I 5000)], (.tuple ⟨[(I 500000), (.bool true)]⟩)),
  .inl (131, [(I 500000), (I 10)], (S [53, 48, 48, 48, 48, 48])),
  .inl (93, [(A [(I 50839), (I 100)]), (A [(I 1), (I 5000)])], (.tuple ⟨[(A [(S [53, 48, 56, 51, 57]), (S [53, 48, 48, 48, 48, 48])]), (.bool true)]⟩)),
  .inl (63, [(A [(S [53, 48, 56, 51, 57]), (S [49, 48, 48])]), (A [(S [49]), (S [53, 48, 48, 48])])], (.tuple ⟨[(A [(S [53, 48, 56, 51, 57]), (S [53, 48, 48, 48, 48, 48])]), (I 0)]⟩)),
  .inl (88, [(S [53, 48, 48, 48, 48, 48])], (.tuple ⟨[(I 500000), (.bool true)]⟩)),
  .inl (65, [(.int .u64 (.ofNat 50839)), (.int .u64 (.ofNat 500000))], (.int .u64 (.ofNat 1)))]
def T7 : Tab := pushT T6 L7
def L8 : List (Sum (FuncId × List Value × Value) KC) := [.inl (88, [(S [50, 52, 52, 48, 54, 51])], (.tuple ⟨[(I 244063), (.bool true)]⟩)),
  .inl (88, [(S [49, 48, 48, 48, 48, 48, 48])], (.tuple ⟨[(I 1000000), (.bool true)]⟩)),
  .inl (65, [(.int .u64 (.ofNat 500000)), (.int .u64 (.ofNat 1000000))], (.int .u64 (.ofNat 500000))),
  .inl (104, [(I 50839), (I 2)], (.tuple ⟨[(I 101678), (.bool true)]⟩)),
  .inl (104, [(I 244063), (I 1)], (.tuple ⟨[(I 244063), (.bool true)]⟩)),
  .inl (65, [(.int .u64 (.ofNat 345741)), (.int .u64 (.ofNat 500000))], (.int .u64 (.ofNat 1))),
  .inl (104, [(I 1), (I 1000000)], (.tuple ⟨[(I 1000000), (.bool true)]⟩)),
  .inl (131, [(I 345741), (I 10)], (S [51, 52, 53, 55, 52, 49])),
  .inl (80, [(A [(I 50839), (I 500000)]), (A [(I 244063), (I 1000000)])], (.tuple ⟨[(A [(S [51, 52, 53, 55, 52, 49]), (S [49, 48, 48, 48, 48, 48, 48])]), (.bool true)]⟩)),
  .inl (56, [(A [(S [53, 48, 56, 51, 57]), (S [53, 48, 48, 48, 48, 48])]), (A [(S [50, 52, 52, 48, 54, 51]), (S [49, 48, 48, 48, 48, 48, 48])])], (.tuple ⟨[(A [(S [51, 52, 53, 55, 52, 49]), (S [49, 48, 48, 48, 48, 48, 48])]), (I 0)]⟩)),
  .inl (131, [(.int .i64 (.negSucc 2)), (I 10)], (S [45, 51])),
  .inl (45, [(.int .i64 (.negSucc 2)), (I 1)], (.tuple ⟨[(A [(S [45, 51]), (S [49])]), (.bool true)]⟩)),
  .inl (65, [(.int .u64 (.ofNat 287)), (.int .u64 (.ofNat 100))], (.int .u64 (.ofNat 1))),
  .inl (131, [(I 287), (I 10)], (S [50, 56, 55])),
  .inl (45, [(I 287), (I 100)], (.tuple ⟨[(A [(S [50, 56, 55]), (S [49, 48, 48])]), (.bool true)]⟩)),
  .inl (65, [(.int .u64 (.ofNat 275)), (.int .u64 (.ofNat 1000))], (.int .u64 (.ofNat 25)))]
def T8 : Tab := pushT T7 L8
def L9 : List (Sum (FuncId × List Value × Value) KC) := [.inl (131, [(.int .i64 (.negSucc 10)), (I 10)], (S [45, 49, 49])),
  .inl (45, [(.int .i64 (.negSucc 274)), (I 1000)], (.tuple ⟨[(A [(S [45, 49, 49]), (S [52, 48])]), (.bool true)]⟩)),
  .inl (88, [(S [45, 51])], (.tuple ⟨[(.int .i64 (.negSucc 2)), (.bool true)]⟩)),
  .inl (61, [(A [(S [45, 51]), (S [49])])], (.tuple ⟨[(A [(.int .i64 (.negSucc 2)), (I 1)]), (.bool true)]⟩)),
  .inl (88, [(S [51, 52, 53, 55, 52, 49])], (.tuple ⟨[(I 345741), (.bool true)]⟩)),
  .inl (65, [(.int .u64 (.ofNat 345741)), (.int .u64 (.ofNat 1000000))], (.int .u64 (.ofNat 1))),
  .inl (65, [(.int .u64 (.ofNat 3)), (.int .u64 (.ofNat 1000000))], (.int .u64 (.ofNat 1))),
  .inl (65, [(.int .u64 (.ofNat 345741)), (.int .u64 (.ofNat 1))], (.int .u64 (.ofNat 1))),
  .inl (104, [(.int .i64 (.negSucc 2)), (I 345741)], (.tuple ⟨[(.int .i64 (.negSucc 1037222)), (.bool true)]⟩)),
  .inl (131, [(.int .i64 (.negSucc 1037222)), (I 10)], (S [45, 49, 48, 51, 55, 50, 50, 51])),
  .inl (93, [(A [(.int .i64 (.negSucc 2)), (I 1)]), (A [(I 345741), (I 1000000)])], (.tuple ⟨[(A [(S [45, 49, 48, 51, 55, 50, 50, 51]), (S [49, 48, 48, 48, 48, 48, 48])]), (.bool true)]⟩)),
  .inl (63, [(A [(S [45, 51]), (S [49])]), (A [(S [51, 52, 53, 55, 52, 49]), (S [49, 48, 48, 48, 48, 48, 48])])], (.tuple ⟨[(A [(S [45, 49, 48, 51, 55, 50, 50, 51]), (S [49, 48, 48, 48, 48, 48, 48])]), (I 0)]⟩)),
  .inl (88, [(S [45, 49, 48, 51, 55, 50, 50, 51])], (.tuple ⟨[(.int .i64 (.negSucc 1037222)), (.bool true)]⟩))]
def T9 : Tab := pushT T8 L9
def L10 : List (Sum (FuncId × List Value × Value) KC) := [.inl (65, [(.int .u64 (.ofNat 1037223)), (.int .u64 (.ofNat 1000000))], (.int .u64 (.ofNat 1))),
  .inl (88, [(S [50, 56, 55])], (.tuple ⟨[(I 287), (.bool true)]⟩)),
  .inl (65, [(.int .u64 (.ofNat 1000000)), (.int .u64 (.ofNat 100))], (.int .u64 (.ofNat 100))),
  .inl (104, [(.int .i64 (.negSucc 1037222)), (I 1)], (.tuple ⟨[(.int .i64 (.negSucc 1037222)), (.bool true)]⟩)),
  .inl (104, [(I 287), (I 10000)], (.tuple ⟨[(I 2870000), (.bool true)]⟩)),
  .inl (65, [(.int .u64 (.ofNat 1832777)), (.int .u64 (.ofNat 100))], (.int .u64 (.ofNat 1))),
  .inl (104, [(I 10000), (I 100)], (.tuple ⟨[(I 1000000), (.bool true)]⟩)),
  .inl (131, [(I 1832777), (I 10)], (S [49, 56, 51, 50, 55, 55, 55])),
  .inl (80, [(A [(.int .i64 (.negSucc 1037222)), (I 1000000)]), (A [(I 287), (I 100)])], (.tuple ⟨[(A [(S [49, 56, 51, 50, 55, 55, 55]), (S [49, 48, 48, 48, 48, 48, 48])]), (.bool true)]⟩)),
  .inl (56, [(A [(S [45, 49, 48, 51, 55, 50, 50, 51]), (S [49, 48, 48, 48, 48, 48, 48])]), (A [(S [50, 56, 55]), (S [49, 48, 48])])], (.tuple ⟨[(A [(S [49, 56, 51, 50, 55, 55, 55]), (S [49, 48, 48, 48, 48, 48, 48])]), (I 0)]⟩)),
  .inl (88, [(S [49, 56, 51, 50, 55, 55, 55])], (.tuple ⟨[(I 1832777), (.bool true)]⟩))]
def T10 : Tab := pushT T9 L10
def L11 : List (Sum (FuncId × List Value × Value) KC) := [.inl (65, [(.int .u64 (.ofNat 1832777)), (.int .u64 (.ofNat 1000000))], (.int .u64 (.ofNat 1))),
  .inl (104, [(I 1832777), (I 345741)], (.tuple ⟨[(I 633666152757), (.bool true)]⟩)),
  .inl (104, [(I 1000000), (I 1000000)], (.tuple ⟨[(I 1000000000000), (.bool true)]⟩)),
  .inl (131, [(I 633666152757), (I 10)], (S [54, 51, 51, 54, 54, 54, 49, 53, 50, 55, 53, 55])),
  .inl (131, [(I 1000000000000), (I 10)], (S [49, 48, 48, 48, 48, 48, 48, 48, 48, 48, 48, 48, 48])),
  .inl (93, [(A [(I 1832777), (I 1000000)]), (A [(I 345741), (I 1000000)])], (.tuple ⟨[(A [(S [54, 51, 51, 54, 54, 54, 49, 53, 50, 55, 53, 55]), (S [49, 48, 48, 48, 48, 48, 48, 48, 48, 48, 48, 48, 48])]), (.bool true)]⟩)),
  .inl (63, [(A [(S [49, 56, 51, 50, 55, 55, 55]), (S [49, 48, 48, 48, 48, 48, 48])]), (A [(S [51, 52, 53, 55, 52, 49]), (S [49, 48, 48, 48, 48, 48, 48])])], (.tuple ⟨[(A [(S [54, 51, 51, 54, 54, 54, 49, 53, 50, 55, 53, 55]), (S [49, 48, 48, 48, 48, 48, 48, 48, 48, 48, 48, 48, 48])]), (I 0)]⟩)),
  .inl (88, [(S [54, 51, 51, 54, 54, 54, 49, 53, 50, 55, 53, 55])], (.tuple ⟨[(I 633666152757), (.bool true)]⟩)),
  .inl (88, [(S [49, 48, 48, 48, 48, 48, 48, 48, 48, 48, 48, 48, 48])], (.tuple ⟨[(I 1000000000000), (.bool true)]⟩))]
def T11 : Tab := pushT T10 L11
def L12 : List (Sum (FuncId × List Value × Value) KC) := [.inl (65, [(.int .u64 (.ofNat 633666152757)), (.int .u64 (.ofNat 1000000000000))], (.int .u64 (.ofNat 1))),
  .inl (88, [(S [45, 49, 49])], (.tuple ⟨[(.int .i64 (.negSucc 10)), (.bool true)]⟩)),
  .inl (88, [(S [52, 48])], (.tuple ⟨[(I 40), (.bool true)]⟩)),
  .inl (65, [(.int .u64 (.ofNat 11)), (.int .u64 (.ofNat 40))], (.int .u64 (.ofNat 1))),
  .inl (65, [(.int .u64 (.ofNat 1000000000000)), (.int .u64 (.ofNat 40))], (.int .u64 (.ofNat 40))),
  .inl (104, [(I 633666152757), (I 1)], (.tuple ⟨[(I 633666152757), (.bool true)]⟩)),
  .inl (104, [(.int .i64 (.negSucc 10)), (I 25000000000)], (.tuple ⟨[(.int .i64 (.negSucc 274999999999)), (.bool true)]⟩)),
  .inl (65, [(.int .u64 (.ofNat 358666152757)), (.int .u64 (.ofNat 40))], (.int .u64 (.ofNat 1)))]
def T12 : Tab := pushT T11 L12
def B1 : List (Nat × List Value) := [(768, [(I 5000)]), gq 320, gq 64, gq 256, gq 0]
def B2 : List (Nat × List Value) := [gq 320, gq 64, gq 256, gq 0, (6208, [(S [45, 51]), (S [49]), (S [50, 56, 55]), (S [49, 48, 48]), (S [45, 49, 49]), (S [52, 48])]), (5184, [(S [51, 52, 53, 55, 52, 49]), (S [49, 48, 48, 48, 48, 48, 48])]), (1088, [(S [51, 52, 53, 55, 52, 49]), (S [49, 48, 48, 48, 48, 48, 48]), (S [51, 53, 56, 54, 54, 54, 49, 53, 50, 55, 53, 55]), (S [49, 48, 48, 48, 48, 48, 48, 48, 48, 48, 48, 48, 48])]), (2816, [(S [45, 52, 54, 48, 55, 48, 48, 48, 48, 48, 48]), (S [49]), (S [50, 57, 54, 55, 56, 48, 48]), (S [49]), (S [57, 57, 49, 49]), (S [49, 48, 48]), (S [50, 52, 52, 48, 54, 51]), (S [49, 48, 48, 48, 48, 48, 48])]), (1472, [(S [49]), (S [53, 48, 48, 48])]), (768, [(I 5000)])]
def Q3 : KC := ⟨33, [(Z 768 0)], 17, 768, B1, (A [(S [51, 52, 53, 55, 52, 49]), (S [49, 48, 48, 48, 48, 48, 48]), (S [51, 53, 56, 54, 54, 54, 49, 53, 50, 55, 53, 55]), (S [49, 48, 48, 48, 48, 48, 48, 48, 48, 48, 48, 48, 48])]), 123, B2, [], []⟩
def L13 : List (Sum (FuncId × List Value × Value) KC) := [.inl (104, [(I 25000000000), (I 40)], (.tuple ⟨[(I 1000000000000), (.bool true)]⟩)),
  .inl (131, [(I 358666152757), (I 10)], (S [51, 53, 56, 54, 54, 54, 49, 53, 50, 55, 53, 55])),
  .inl (80, [(A [(I 633666152757), (I 1000000000000)]), (A [(.int .i64 (.negSucc 10)), (I 40)])], (.tuple ⟨[(A [(S [51, 53, 56, 54, 54, 54, 49, 53, 50, 55, 53, 55]), (S [49, 48, 48, 48, 48, 48, 48, 48, 48, 48, 48, 48, 48])]), (.bool true)]⟩)),
  .inl (56, [(A [(S [54, 51, 51, 54, 54, 54, 49, 53, 50, 55, 53, 55]), (S [49, 48, 48, 48, 48, 48, 48, 48, 48, 48, 48, 48, 48])]), (A [(S [45, 49, 49]), (S [52, 48])])], (.tuple ⟨[(A [(S [51, 53, 56, 54, 54, 54, 49, 53, 50, 55, 53, 55]), (S [49, 48, 48, 48, 48, 48, 48, 48, 48, 48, 48, 48, 48])]), (I 0)]⟩)),
  .inr Q3,
  .inl (65, [(.int .u64 (.ofNat 332)), (.int .u64 (.ofNat 1000))], (.int .u64 (.ofNat 4))),
  .inl (131, [(I 250), (I 10)], (S [50, 53, 48])),
  .inl (45, [(I 332), (I 1000)], (.tuple ⟨[(A [(S [56, 51]), (S [50, 53, 48])]), (.bool true)]⟩)),
  .inl (65, [(.int .u64 (.ofNat 3)), (.int .u64 (.ofNat 10))], (.int .u64 (.ofNat 1))),
  .inl (67, [(A [(I 3), (I 10)])], (A [(S [51]), (S [49, 48])])),
  .inl (45, [(I 3), (I 10)], (.tuple ⟨[(A [(S [51]), (S [49, 48])]), (.bool true)]⟩)),
  .inl (88, [(S [56, 51])], (.tuple ⟨[(I 83), (.bool true)]⟩)),
  .inl (88, [(S [50, 53, 48])], (.tuple ⟨[(I 250), (.bool true)]⟩))]
def T13 : Tab := pushT T12 L13
def L14 : List (Sum (FuncId × List Value × Value) KC) := [.inl (65, [(.int .u64 (.ofNat 83)), (.int .u64 (.ofNat 250))], (.int .u64 (.ofNat 1))),
  .inl (39, [(A [(S [56, 51]), (S [50, 53, 48])])], (I 0)),
  .inl (88, [(S [49, 48])], (.tuple ⟨[(I 10), (.bool true)]⟩)),
  .inl (61, [(A [(S [51]), (S [49, 48])])], (.tuple ⟨[(A [(I 3), (I 10)]), (.bool true)]⟩)),
  .inl (65, [(.int .u64 (.ofNat 1858)), (.int .u64 (.ofNat 10000))], (.int .u64 (.ofNat 2))),
  .inl (131, [(I 929), (I 10)], (S [57, 50, 57])),
  .inl (45, [(I 1858), (I 10000)], (.tuple ⟨[(A [(S [57, 50, 57]), (S [53, 48, 48, 48])]), (.bool true)]⟩)),
  .inl (65, [(.int .u64 (.ofNat 250)), (.int .u64 (.ofNat 250))], (.int .u64 (.ofNat 250))),
  .inl (104, [(I 83), (I 1)], (.tuple ⟨[(I 83), (.bool true)]⟩)),
  .inl (104, [(.int .i64 (.negSucc 82)), (I 1)], (.tuple ⟨[(.int .i64 (.negSucc 82)), (.bool true)]⟩)),
  .inl (80, [(A [(I 83), (I 250)]), (A [(.int .i64 (.negSucc 82)), (I 250)])], (.tuple ⟨[(A [(S [48]), (S [49])]), (.bool true)]⟩)),
  .inl (60, [(A [(S [56, 51]), (S [50, 53, 48])]), (A [(S [56, 51]), (S [50, 53, 48])])], (.tuple ⟨[(A [(S [48]), (S [49])]), (I 0)]⟩)),
  .inl (88, [(S [57, 50, 57])], (.tuple ⟨[(I 929), (.bool true)]⟩)),
  .inl (65, [(.int .u64 (.ofNat 929)), (.int .u64 (.ofNat 5000))], (.int .u64 (.ofNat 1))),
  .inl (65, [(.int .u64 (.ofNat 5000)), (.int .u64 (.ofNat 10))], (.int .u64 (.ofNat 10))),
  .inl (104, [(I 929), (I 1)], (.tuple ⟨[(I 929), (.bool true)]⟩)),
  .inl (104, [(.int .i64 (.negSucc 2)), (I 500)], (.tuple ⟨[(.int .i64 (.negSucc 1499)), (.bool true)]⟩))]
def T14 : Tab := pushT T13 L14
def L15 : List (Sum (FuncId × List Value × Value) KC) := [.inl (65, [(.int .u64 (.ofNat 571)), (.int .u64 (.ofNat 10))], (.int .u64 (.ofNat 1))),
  .inl (104, [(I 500), (I 10)], (.tuple ⟨[(I 5000), (.bool true)]⟩)),
  .inl (131, [(.int .i64 (.negSucc 570)), (I 10)], (S [45, 53, 55, 49])),
  .inl (80, [(A [(I 929), (I 5000)]), (A [(.int .i64 (.negSucc 2)), (I 10)])], (.tuple ⟨[(A [(S [45, 53, 55, 49]), (S [53, 48, 48, 48])]), (.bool true)]⟩)),
  .inl (60, [(A [(S [57, 50, 57]), (S [53, 48, 48, 48])]), (A [(S [51]), (S [49, 48])])], (.tuple ⟨[(A [(S [45, 53, 55, 49]), (S [53, 48, 48, 48])]), (I 0)]⟩)),
  .inl (88, [(S [45, 53, 55, 49])], (.tuple ⟨[(.int .i64 (.negSucc 570)), (.bool true)]⟩)),
  .inl (65, [(.int .u64 (.ofNat 571)), (.int .u64 (.ofNat 5000))], (.int .u64 (.ofNat 1))),
  .inl (39, [(A [(S [45, 53, 55, 49]), (S [53, 48, 48, 48])])], (I 0)),
  .inl (65, [(.int .u64 (.ofNat 5000)), (.int .u64 (.ofNat 1))], (.int .u64 (.ofNat 1))),
  .inl (104, [(I 0), (.int .i64 (.negSucc 4999))], (.tuple ⟨[(I 0), (.bool true)]⟩)),
  .inl (93, [(A [(I 0), (I 1)]), (A [(.int .i64 (.negSucc 4999)), (I 571)])], (.tuple ⟨[(A [(S [48]), (S [49])]), (.bool true)]⟩)),
  .inl (57, [(A [(S [48]), (S [49])]), (A [(S [45, 53, 55, 49]), (S [53, 48, 48, 48])])], (.tuple ⟨[(A [(S [48]), (S [49])]), (I 0)]⟩)),
  .inl (65, [(.int .u64 (.ofNat 449)), (.int .u64 (.ofNat 1))], (.int .u64 (.ofNat 1))),
  .inl (131, [(I 449), (I 10)], (S [52, 52, 57])),
  .inl (45, [(I 449), (I 1)], (.tuple ⟨[(A [(S [52, 52, 57]), (S [49])]), (.bool true)]⟩)),
  .inl (65, [(.int .u64 (.ofNat 3525)), (.int .u64 (.ofNat 1))], (.int .u64 (.ofNat 1)))]
def T15 : Tab := pushT T14 L15
def L16 : List (Sum (FuncId × List Value × Value) KC) := [.inl (131, [(I 3525), (I 10)], (S [51, 53, 50, 53])),
  .inl (45, [(I 3525), (I 1)], (.tuple ⟨[(A [(S [51, 53, 50, 53]), (S [49])]), (.bool true)]⟩)),
  .inl (65, [(.int .u64 (.ofNat 68233)), (.int .u64 (.ofNat 10))], (.int .u64 (.ofNat 1))),
  .inl (131, [(I 68233), (I 10)], (S [54, 56, 50, 51, 51])),
  .inl (45, [(I 68233), (I 10)], (.tuple ⟨[(A [(S [54, 56, 50, 51, 51]), (S [49, 48])]), (.bool true)]⟩)),
  .inl (65, [(.int .u64 (.ofNat 552033)), (.int .u64 (.ofNat 100))], (.int .u64 (.ofNat 1))),
  .inl (131, [(I 552033), (I 10)], (S [53, 53, 50, 48, 51, 51])),
  .inl (45, [(I 552033), (I 100)], (.tuple ⟨[(A [(S [53, 53, 50, 48, 51, 51]), (S [49, 48, 48])]), (.bool true)]⟩)),
  .inl (88, [(S [52, 52, 57])], (.tuple ⟨[(I 449), (.bool true)]⟩)),
  .inl (61, [(A [(S [52, 52, 57]), (S [49])])], (.tuple ⟨[(A [(I 449), (I 1)]), (.bool true)]⟩)),
  .inl (104, [(I 449), (I 0)], (.tuple ⟨[(I 0), (.bool true)]⟩)),
  .inl (93, [(A [(I 449), (I 1)]), (A [(I 0), (I 1)])], (.tuple ⟨[(A [(S [48]), (S [49])]), (.bool true)]⟩)),
  .inl (63, [(A [(S [52, 52, 57]), (S [49])]), (A [(S [48]), (S [49])])], (.tuple ⟨[(A [(S [48]), (S [49])]), (I 0)]⟩)),
  .inl (88, [(S [51, 53, 50, 53])], (.tuple ⟨[(I 3525), (.bool true)]⟩)),
  .inl (61, [(A [(S [51, 53, 50, 53]), (S [49])])], (.tuple ⟨[(A [(I 3525), (I 1)]), (.bool true)]⟩)),
  .inl (104, [(I 3525), (I 1)], (.tuple ⟨[(I 3525), (.bool true)]⟩)),
  .inl (80, [(A [(I 0), (I 1)]), (A [(I 3525), (I 1)])], (.tuple ⟨[(A [(S [51, 53, 50, 53]), (S [49])]), (.bool true)]⟩)),
  .inl (56, [(A [(S [48]), (S [49])]), (A [(S [51, 53, 50, 53]), (S [49])])], (.tuple ⟨[(A [(S [51, 53, 50, 53]), (S [49])]), (I 0)]⟩))]
def T16 : Tab := pushT T15 L16
def L17 : List (Sum (FuncId × List Value × Value) KC) := [.inl (104, [(I 3525), (I 0)], (.tuple ⟨[(I 0), (.bool true)]⟩)),
  .inl (93, [(A [(I 3525), (I 1)]), (A [(I 0), (I 1)])], (.tuple ⟨[(A [(S [48]), (S [49])]), (.bool true)]⟩)),
  .inl (42, [(A [(S [51, 53, 50, 53]), (S [49])]), (A [(S [48]), (S [49])])], (A [(S [48]), (S [49])])),
  .inl (88, [(S [54, 56, 50, 51, 51])], (.tuple ⟨[(I 68233), (.bool true)]⟩)),
  .inl (65, [(.int .u64 (.ofNat 1)), (.int .u64 (.ofNat 10))], (.int .u64 (.ofNat 1))),
  .inl (104, [(I 0), (I 10)], (.tuple ⟨[(I 0), (.bool true)]⟩)),
  .inl (104, [(I 68233), (I 1)], (.tuple ⟨[(I 68233), (.bool true)]⟩)),
  .inl (65, [(.int .u64 (.ofNat 68233)), (.int .u64 (.ofNat 1))], (.int .u64 (.ofNat 1))),
  .inl (104, [(I 1), (I 10)], (.tuple ⟨[(I 10), (.bool true)]⟩)),
  .inl (80, [(A [(I 0), (I 1)]), (A [(I 68233), (I 10)])], (.tuple ⟨[(A [(S [54, 56, 50, 51, 51]), (S [49, 48])]), (.bool true)]⟩)),
  .inl (56, [(A [(S [48]), (S [49])]), (A [(S [54, 56, 50, 51, 51]), (S [49, 48])])], (.tuple ⟨[(A [(S [54, 56, 50, 51, 51]), (S [49, 48])]), (I 0)]⟩)),
  .inl (104, [(I 68233), (I 0)], (.tuple ⟨[(I 0), (.bool true)]⟩)),
  .inl (93, [(A [(I 68233), (I 10)]), (A [(I 0), (I 1)])], (.tuple ⟨[(A [(S [48]), (S [49])]), (.bool true)]⟩)),
  .inl (63, [(A [(S [54, 56, 50, 51, 51]), (S [49, 48])]), (A [(S [48]), (S [49])])], (.tuple ⟨[(A [(S [48]), (S [49])]), (I 0)]⟩)),
  .inl (88, [(S [53, 53, 50, 48, 51, 51])], (.tuple ⟨[(I 552033), (.bool true)]⟩)),
  .inl (104, [(I 0), (I 100)], (.tuple ⟨[(I 0), (.bool true)]⟩)),
  .inl (104, [(I 552033), (I 1)], (.tuple ⟨[(I 552033), (.bool true)]⟩)),
  .inl (65, [(.int .u64 (.ofNat 552033)), (.int .u64 (.ofNat 1))], (.int .u64 (.ofNat 1))),
  .inl (80, [(A [(I 0), (I 1)]), (A [(I 552033), (I 100)])], (.tuple ⟨[(A [(S [53, 53, 50, 48, 51, 51]), (S [49, 48, 48])]), (.bool true)]⟩)),
  .inl (56, [(A [(S [48]), (S [49])]), (A [(S [53, 53, 50, 48, 51, 51]), (S [49, 48, 48])])], (.tuple ⟨[(A [(S [53, 53, 50, 48, 51, 51]), (S [49, 48, 48])]), (I 0)]⟩))]
def T17 : Tab := pushT T16 L17
def L18 : List (Sum (FuncId × List Value × Value) KC) := [.inl (14, [(A [(S [56, 51]), (S [50, 53, 48])]), (A [(S [51]), (S [49, 48])])], (.tuple ⟨[(A [(S [53, 53, 50, 48, 51, 51]), (S [49, 48, 48])]), (I 0)]⟩)),
  .inl (39, [(A [(S [57, 50, 57]), (S [53, 48, 48, 48])])], (I 0)),
  .inl (14, [(A [(S [51]), (S [49, 48])]), (A [(S [57, 50, 57]), (S [53, 48, 48, 48])])], (.tuple ⟨[(A [(S []), (S [])]), (I 7)]⟩)),
  .inl (65, [(.int .u64 (.ofNat 1)), (.int .u64 (.ofNat 3))], (.int .u64 (.ofNat 1))),
  .inl (67, [(A [(I 1), (I 3)])], (A [(S [49]), (S [51])])),
  .inl (45, [(I 1), (I 3)], (.tuple ⟨[(A [(S [49]), (S [51])]), (.bool true)]⟩)),
  .inl (7, [(I 1), (I 1), (I 1), (I 1)], (A [(S [49]), (S [49]), (S [49]), (S [49]), (S [49]), (S [49])])),
  .inl (61, [(A [(S [49]), (S [51])])], (.tuple ⟨[(A [(I 1), (I 3)]), (.bool true)]⟩)),
  .inl (104, [(I 1), (I 3)], (.tuple ⟨[(I 3), (.bool true)]⟩)),
  .inl (104, [(.int .i64 (.negSucc 0)), (I 1)], (.tuple ⟨[(.int .i64 (.negSucc 0)), (.bool true)]⟩)),
  .inl (67, [(A [(I 2), (I 3)])], (A [(S [50]), (S [51])])),
  .inl (80, [(A [(I 1), (I 1)]), (A [(.int .i64 (.negSucc 0)), (I 3)])], (.tuple ⟨[(A [(S [50]), (S [51])]), (.bool true)]⟩)),
  .inl (60, [(A [(S [49]), (S [49])]), (A [(S [49]), (S [51])])], (.tuple ⟨[(A [(S [50]), (S [51])]), (I 0)]⟩)),
  .inl (65, [(.int .u64 (.ofNat 2)), (.int .u64 (.ofNat 3))], (.int .u64 (.ofNat 1))),
  .inl (61, [(A [(S [50]), (S [51])])], (.tuple ⟨[(A [(I 2), (I 3)]), (.bool true)]⟩)),
  .inl (65, [(.int .u64 (.ofNat 3)), (.int .u64 (.ofNat 3))], (.int .u64 (.ofNat 3))),
  .inl (80, [(A [(I 2), (I 3)]), (A [(.int .i64 (.negSucc 0)), (I 3)])], (.tuple ⟨[(A [(S [49]), (S [51])]), (.bool true)]⟩)),
  .inl (60, [(A [(S [50]), (S [51])]), (A [(S [49]), (S [51])])], (.tuple ⟨[(A [(S [49]), (S [51])]), (I 0)]⟩)),
  .inl (93, [(A [(I 1), (I 3)]), (A [(I 1), (I 1)])], (.tuple ⟨[(A [(S [49]), (S [51])]), (.bool true)]⟩)),
  .inl (42, [(A [(S [49]), (S [51])]), (A [(S [49]), (S [49])])], (A [(S [49]), (S [51])])),
  .inl (93, [(A [(I 1), (I 3)]), (A [(I 3), (I 1)])], (.tuple ⟨[(A [(S [49]), (S [49])]), (.bool true)]⟩))]
def T18 : Tab := pushT T17 L18
def L19 : List (Sum (FuncId × List Value × Value) KC) := [.inl (57, [(A [(S [49]), (S [51])]), (A [(S [49]), (S [51])])], (.tuple ⟨[(A [(S [49]), (S [49])]), (I 0)]⟩)),
  .inl (28, [(A [(S [49]), (S [51])]), (A [(S [49]), (S [51])]), (A [(S [49]), (S [49])])], (A [(S [49]), (S [49]), (S [49]), (S [49]), (S [49]), (S [49])])),
  .inl (16, [(I 7)], (.tuple ⟨[(A [(S [49]), (S [49]), (S [49]), (S [49]), (S [49]), (S [49])]), (I 0)]⟩)),
  .inl (18, [(A [(S [49]), (S [51]), (S [49]), (S [51]), (S [49]), (S [49])]), (I 0)], (I 0)),
  .inl (80, [(A [(I 1), (I 3)]), (A [(I 1), (I 3)])], (.tuple ⟨[(A [(S [50]), (S [51])]), (.bool true)]⟩)),
  .inl (25, [(A [(S [49]), (S [51])]), (A [(S [49]), (S [51])])], (A [(S [50]), (S [51])])),
  .inl (52, [(A [(I 2), (I 3)]), (A [(I 1), (I 1)])], (.tuple ⟨[(.int .i64 (.negSucc 0)), (.bool true)]⟩)),
  .inl (10, [(A [(S [49]), (S [51])]), (A [(S [49]), (S [51])]), (A [(S [49]), (S [49])])], (.tuple ⟨[(A [(S [49]), (S [49]), (S [49]), (S [49]), (S [49]), (S [49])]), (I 0)]⟩)),
  .inl (7, [(I 2), (I 1), (I 1), (I 1)], (A [(S [50]), (S [49]), (S [49]), (S [49]), (S [49]), (S [49])])),
  .inl (65, [(.int .u64 (.ofNat 1)), (.int .u64 (.ofNat 2))], (.int .u64 (.ofNat 1))),
  .inl (45, [(I 1), (I 2)], (.tuple ⟨[(A [(S [49]), (S [50])]), (.bool true)]⟩)),
  .inl (45, [(I 1), (I 4)], (.tuple ⟨[(A [(S [49]), (S [52])]), (.bool true)]⟩)),
  .inl (61, [(A [(S [49]), (S [50])])], (.tuple ⟨[(A [(I 1), (I 2)]), (.bool true)]⟩)),
  .inl (61, [(A [(S [49]), (S [52])])], (.tuple ⟨[(A [(I 1), (I 4)]), (.bool true)]⟩)),
  .inl (18, [(A [(S [49]), (S [50]), (S [49]), (S [52]), (S [49]), (S [49])]), (I 0)], (I 0)),
  .inl (65, [(.int .u64 (.ofNat 3)), (.int .u64 (.ofNat 2))], (.int .u64 (.ofNat 1))),
  .inl (67, [(A [(I 3), (I 4)])], (A [(S [51]), (S [52])])),
  .inl (80, [(A [(I 1), (I 2)]), (A [(I 1), (I 4)])], (.tuple ⟨[(A [(S [51]), (S [52])]), (.bool true)]⟩))]
def T19 : Tab := pushT T18 L19
def L20 : List (Sum (FuncId × List Value × Value) KC) := [.inl (25, [(A [(S [49]), (S [50])]), (A [(S [49]), (S [52])])], (A [(S [51]), (S [52])])),
  .inl (65, [(.int .u64 (.ofNat 3)), (.int .u64 (.ofNat 4))], (.int .u64 (.ofNat 1))),
  .inl (61, [(A [(S [51]), (S [52])])], (.tuple ⟨[(A [(I 3), (I 4)]), (.bool true)]⟩)),
  .inl (52, [(A [(I 3), (I 4)]), (A [(I 1), (I 1)])], (.tuple ⟨[(.int .i64 (.negSucc 0)), (.bool true)]⟩)),
  .inl (80, [(A [(I 1), (I 1)]), (A [(.int .i64 (.negSucc 0)), (I 2)])], (.tuple ⟨[(A [(S [49]), (S [50])]), (.bool true)]⟩)),
  .inl (60, [(A [(S [49]), (S [49])]), (A [(S [49]), (S [50])])], (.tuple ⟨[(A [(S [49]), (S [50])]), (I 0)]⟩)),
  .inl (80, [(A [(I 1), (I 2)]), (A [(.int .i64 (.negSucc 0)), (I 4)])], (.tuple ⟨[(A [(S [49]), (S [52])]), (.bool true)]⟩)),
  .inl (60, [(A [(S [49]), (S [50])]), (A [(S [49]), (S [52])])], (.tuple ⟨[(A [(S [49]), (S [52])]), (I 0)]⟩)),
  .inl (93, [(A [(I 1), (I 2)]), (A [(I 1), (I 1)])], (.tuple ⟨[(A [(S [49]), (S [50])]), (.bool true)]⟩)),
  .inl (42, [(A [(S [49]), (S [50])]), (A [(S [49]), (S [49])])], (A [(S [49]), (S [50])])),
  .inl (65, [(.int .u64 (.ofNat 4)), (.int .u64 (.ofNat 2))], (.int .u64 (.ofNat 2))),
  .inl (93, [(A [(I 1), (I 2)]), (A [(I 4), (I 1)])], (.tuple ⟨[(A [(S [50]), (S [49])]), (.bool true)]⟩)),
  .inl (57, [(A [(S [49]), (S [50])]), (A [(S [49]), (S [52])])], (.tuple ⟨[(A [(S [50]), (S [49])]), (I 0)]⟩)),
  .inl (104, [(I 4), (I 1)], (.tuple ⟨[(I 4), (.bool true)]⟩)),
  .inl (93, [(A [(I 1), (I 4)]), (A [(I 1), (I 1)])], (.tuple ⟨[(A [(S [49]), (S [52])]), (.bool true)]⟩)),
  .inl (42, [(A [(S [49]), (S [52])]), (A [(S [49]), (S [49])])], (A [(S [49]), (S [52])])),
  .inl (65, [(.int .u64 (.ofNat 4)), (.int .u64 (.ofNat 4))], (.int .u64 (.ofNat 4))),
  .inl (93, [(A [(I 1), (I 4)]), (A [(I 4), (I 1)])], (.tuple ⟨[(A [(S [49]), (S [49])]), (.bool true)]⟩)),
  .inl (57, [(A [(S [49]), (S [52])]), (A [(S [49]), (S [52])])], (.tuple ⟨[(A [(S [49]), (S [49])]), (I 0)]⟩)),
  .inl (28, [(A [(S [49]), (S [50])]), (A [(S [49]), (S [52])]), (A [(S [49]), (S [49])])], (A [(S [50]), (S [49]), (S [49]), (S [49]), (S [49]), (S [49])])),
  .inl (10, [(A [(S [49]), (S [50])]), (A [(S [49]), (S [52])]), (A [(S [49]), (S [49])])], (.tuple ⟨[(A [(S [50]), (S [49]), (S [49]), (S [49]), (S [49]), (S [49])]), (I 0)]⟩))]
def T20 : Tab := pushT T19 L20
def L21 : List (Sum (FuncId × List Value × Value) KC) := [.inl (18, [(A [(S [49]), (S [50]), (S [48]), (S [49]), (S [49]), (S [49])]), (I 0)], (I 0)),
  .inl (104, [(I 0), (I 2)], (.tuple ⟨[(I 0), (.bool true)]⟩)),
  .inl (80, [(A [(I 1), (I 2)]), (A [(I 0), (I 1)])], (.tuple ⟨[(A [(S [49]), (S [50])]), (.bool true)]⟩)),
  .inl (25, [(A [(S [49]), (S [50])]), (A [(S [48]), (S [49])])], (A [(S [49]), (S [50])])),
  .inl (52, [(A [(I 1), (I 2)]), (A [(I 1), (I 1)])], (.tuple ⟨[(.int .i64 (.negSucc 0)), (.bool true)]⟩)),
  .inl (10, [(A [(S [49]), (S [50])]), (A [(S [48]), (S [49])]), (A [(S [49]), (S [49])])], (.tuple ⟨[(A [(S []), (S []), (S []), (S []), (S []), (S [])]), (I 7)]⟩)),
  .inl (45, [(I 345741), (I 1000000)], (.tuple ⟨[(A [(S [51, 52, 53, 55, 52, 49]), (S [49, 48, 48, 48, 48, 48, 48])]), (.bool true)]⟩)),
  .inl (65, [(.int .u64 (.ofNat 358666152757)), (.int .u64 (.ofNat 1000000000000))], (.int .u64 (.ofNat 1))),
  .inl (45, [(I 358666152757), (I 1000000000000)], (.tuple ⟨[(A [(S [51, 53, 56, 54, 54, 54, 49, 53, 50, 55, 53, 55]), (S [49, 48, 48, 48, 48, 48, 48, 48, 48, 48, 48, 48, 48])]), (.bool true)]⟩)),
  .inl (65, [(.int .u64 (.ofNat 2)), (.int .u64 (.ofNat 2))], (.int .u64 (.ofNat 2))),
  .inl (45, [(I 2), (I 2)], (.tuple ⟨[(A [(S [49]), (S [49])]), (.bool true)]⟩)),
  .inl (45, [(I 4), (I 2)], (.tuple ⟨[(A [(S [50]), (S [49])]), (.bool true)]⟩)),
  .inl (7, [(I 1), (I 2), (I 4), (I 2)], (A [(S [49]), (S [50]), (S [49]), (S [49]), (S [50]), (S [49])])),
  .inl (45, [(I 3), (I 1)], (.tuple ⟨[(A [(S [51]), (S [49])]), (.bool true)]⟩)),
  .inl (7, [(I 0), (I 1), (I 3), (I 1)], (A [(S [48]), (S [49]), (S [49]), (S [49]), (S [51]), (S [49])]))]
def T21 : Tab := pushT T20 L21
def L22 : List (Sum (FuncId × List Value × Value) KC) := [.inl (18, [(A [(S [49]), (S [49]), (S [49]), (S [49]), (S [49]), (S [49])]), (I 0)], (I 0)),
  .inl (73, [(S [51])], (.tuple ⟨[(I 1), (I 0)]⟩)),
  .inl (18, [(A [(S [48]), (S [49]), (S [49]), (S [49]), (S [51]), (S [49])]), (I 0)], (I 0)),
  .inl (104, [(I 1), (I 0)], (.tuple ⟨[(I 0), (.bool true)]⟩)),
  .inl (93, [(A [(I 1), (I 2)]), (A [(I 0), (I 1)])], (.tuple ⟨[(A [(S [48]), (S [49])]), (.bool true)]⟩)),
  .inl (42, [(A [(S [49]), (S [50])]), (A [(S [48]), (S [49])])], (A [(S [48]), (S [49])])),
  .inl (80, [(A [(I 1), (I 2)]), (A [(I 1), (I 2)])], (.tuple ⟨[(A [(S [49]), (S [49])]), (.bool true)]⟩)),
  .inl (25, [(A [(S [49]), (S [50])]), (A [(S [49]), (S [50])])], (A [(S [49]), (S [49])])),
  .inl (67, [(A [(I 3), (I 2)])], (A [(S [51]), (S [50])])),
  .inl (93, [(A [(I 1), (I 2)]), (A [(I 3), (I 1)])], (.tuple ⟨[(A [(S [51]), (S [50])]), (.bool true)]⟩)),
  .inl (42, [(A [(S [49]), (S [50])]), (A [(S [51]), (S [49])])], (A [(S [51]), (S [50])])),
  .inl (61, [(A [(S [51]), (S [50])])], (.tuple ⟨[(A [(I 3), (I 2)]), (.bool true)]⟩)),
  .inl (80, [(A [(I 1), (I 2)]), (A [(I 3), (I 2)])], (.tuple ⟨[(A [(S [50]), (S [49])]), (.bool true)]⟩)),
  .inl (56, [(A [(S [49]), (S [50])]), (A [(S [51]), (S [50])])], (.tuple ⟨[(A [(S [50]), (S [49])]), (I 0)]⟩)),
  .inl (15, [(A [(S [49]), (S [49]), (S [49]), (S [49]), (S [49]), (S [49])]), (A [(S [48]), (S [49]), (S [49]), (S [49]), (S [51]), (S [49])]), (A [(S [49]), (S [50])])], (.tuple ⟨[(A [(S [49]), (S [50]), (S [49]), (S [49]), (S [50]), (S [49])]), (I 0)]⟩)),
  .inl (45, [(I 3), (I 2)], (.tuple ⟨[(A [(S [51]), (S [50])]), (.bool true)]⟩)),
  .inl (52, [(A [(I 3), (I 2)]), (A [(I 1), (I 1)])], (.tuple ⟨[(I 1), (.bool true)]⟩))]
def T22 : Tab := pushT T21 L22
def L23 : List (Sum (FuncId × List Value × Value) KC) := [.inl (15, [(A [(S [49]), (S [49]), (S [49]), (S [49]), (S [49]), (S [49])]), (A [(S [48]), (S [49]), (S [49]), (S [49]), (S [51]), (S [49])]), (A [(S [51]), (S [50])])], (.tuple ⟨[(A [(S []), (S []), (S []), (S []), (S []), (S [])]), (I 2)]⟩)),
  .inl (4, [], (.bool true)),
  .inl (131, [(.int .i64 (.negSucc 0)), (I 10)], (S [45, 49])),
  .inl (45, [(.int .i64 (.negSucc 0)), (I 2)], (.tuple ⟨[(A [(S [45, 49]), (S [50])]), (.bool true)]⟩)),
  .inl (88, [(S [45, 49])], (.tuple ⟨[(.int .i64 (.negSucc 0)), (.bool true)]⟩)),
  .inl (61, [(A [(S [45, 49]), (S [50])])], (.tuple ⟨[(A [(.int .i64 (.negSucc 0)), (I 2)]), (.bool true)]⟩)),
  .inl (61, [(A [(S []), (S [])])], (.tuple ⟨[(A [(I 0), (I 0)]), (.bool false)]⟩)),
  .inl (62, [(A [(S []), (S [])])], (.tuple ⟨[(A [(.slice none 0 0), (.bool false), (.slice none 0 0)]), (.bool false)]⟩)),
  .inl (18, [(A [(S [45, 49]), (S [50]), (S []), (S []), (S [49]), (S [49])]), (I 0)], (I 20)),
  .inl (73, [(S [45, 49])], (.tuple ⟨[(.int .i64 (.negSucc 0)), (I 0)]⟩)),
  .inl (18, [(A [(S [45, 49]), (S [50]), (S [49]), (S [49]), (S [49]), (S [49])]), (I 0)], (I 2)),
  .inl (18, [(A [(S [45, 49]), (S [50]), (S []), (S []), (S [49]), (S [49])]), (I 1)], (I 20)),
  .inl (7, [(I 1), (I 1), (I 0), (I 1)], (A [(S [49]), (S [49]), (S [49]), (S [49]), (S [48]), (S [49])]))]
def T23 : Tab := pushT T22 L23
def L24 : List (Sum (FuncId × List Value × Value) KC) := [.inl (18, [(A [(S [49]), (S [49]), (S [49]), (S [49]), (S [48]), (S [49])]), (I 1)], (I 2)),
  .inl (65, [(.int .u64 (.ofNat 1)), (.int .u64 (.ofNat 9))], (.int .u64 (.ofNat 1))),
  .inl (67, [(A [(I 1), (I 9)])], (A [(S [49]), (S [57])])),
  .inl (45, [(I 1), (I 9)], (.tuple ⟨[(A [(S [49]), (S [57])]), (.bool true)]⟩)),
  .inl (7, [(I 1), (I 1), (I 1), (I 9)], (A [(S [49]), (S [57]), (S [49]), (S [57]), (S [49]), (S [57])])),
  .inl (61, [(A [(S [49]), (S [57])])], (.tuple ⟨[(A [(I 1), (I 9)]), (.bool true)]⟩)),
  .inl (18, [(A [(S [49]), (S [57]), (S [49]), (S [57]), (S [49]), (S [57])]), (I 1)], (I 0)),
  .inl (45, [(I 2), (I 3)], (.tuple ⟨[(A [(S [50]), (S [51])]), (.bool true)]⟩)),
  .inl (18, [(A [(S [50]), (S [51]), (S [49]), (S [50]), (S [49]), (S [49])]), (I 0)], (I 0)),
  .inl (104, [(I 2), (I 2)], (.tuple ⟨[(I 4), (.bool true)]⟩)),
  .inl (65, [(.int .u64 (.ofNat 7)), (.int .u64 (.ofNat 1))], (.int .u64 (.ofNat 1))),
  .inl (104, [(I 3), (I 2)], (.tuple ⟨[(I 6), (.bool true)]⟩)),
  .inl (67, [(A [(I 7), (I 6)])], (A [(S [55]), (S [54])])),
  .inl (80, [(A [(I 2), (I 3)]), (A [(I 1), (I 2)])], (.tuple ⟨[(A [(S [55]), (S [54])]), (.bool true)]⟩)),
  .inl (25, [(A [(S [50]), (S [51])]), (A [(S [49]), (S [50])])], (A [(S [55]), (S [54])])),
  .inl (65, [(.int .u64 (.ofNat 7)), (.int .u64 (.ofNat 6))], (.int .u64 (.ofNat 1))),
  .inl (61, [(A [(S [55]), (S [54])])], (.tuple ⟨[(A [(I 7), (I 6)]), (.bool true)]⟩)),
  .inl (52, [(A [(I 7), (I 6)]), (A [(I 1), (I 1)])], (.tuple ⟨[(I 1), (.bool true)]⟩)),
  .inl (10, [(A [(S [50]), (S [51])]), (A [(S [49]), (S [50])]), (A [(S [49]), (S [49])])], (.tuple ⟨[(A [(S []), (S []), (S []), (S []), (S []), (S [])]), (I 2)]⟩))]
def T24 : Tab := pushT T23 L24
def L25 : List (Sum (FuncId × List Value × Value) KC) := [.inl (18, [(A [(S [50]), (S [49]), (S [48]), (S [49]), (S [49]), (S [49])]), (I 0)], (I 0)),
  .inl (80, [(A [(I 2), (I 1)]), (A [(I 0), (I 1)])], (.tuple ⟨[(A [(S [50]), (S [49])]), (.bool true)]⟩)),
  .inl (25, [(A [(S [50]), (S [49])]), (A [(S [48]), (S [49])])], (A [(S [50]), (S [49])])),
  .inl (52, [(A [(I 2), (I 1)]), (A [(I 1), (I 1)])], (.tuple ⟨[(I 1), (.bool true)]⟩)),
  .inl (10, [(A [(S [50]), (S [49])]), (A [(S [48]), (S [49])]), (A [(S [49]), (S [49])])], (.tuple ⟨[(A [(S []), (S []), (S []), (S []), (S []), (S [])]), (I 2)]⟩)),
  .inl (18, [(A [(S [48]), (S [49]), (S [48]), (S [49]), (S [45, 49]), (S [50])]), (I 0)], (I 2)),
  .inl (7, [(I 0), (I 1), (I 0), (I 1)], (A [(S [48]), (S [49]), (S [49]), (S [49]), (S [48]), (S [49])])),
  .inl (18, [(A [(S [48]), (S [49]), (S [49]), (S [49]), (S [49]), (S [49])]), (I 0)], (I 0)),
  .inl (80, [(A [(I 0), (I 1)]), (A [(I 1), (I 1)])], (.tuple ⟨[(A [(S [49]), (S [49])]), (.bool true)]⟩)),
  .inl (25, [(A [(S [48]), (S [49])]), (A [(S [49]), (S [49])])], (A [(S [49]), (S [49])])),
  .inl (52, [(A [(I 1), (I 1)]), (A [(I 1), (I 1)])], (.tuple ⟨[(I 0), (.bool true)]⟩)),
  .inl (80, [(A [(I 1), (I 1)]), (A [(I 0), (I 1)])], (.tuple ⟨[(A [(S [49]), (S [49])]), (.bool true)]⟩)),
  .inl (60, [(A [(S [49]), (S [49])]), (A [(S [48]), (S [49])])], (.tuple ⟨[(A [(S [49]), (S [49])]), (I 0)]⟩)),
  .inl (80, [(A [(I 1), (I 1)]), (A [(.int .i64 (.negSucc 0)), (I 1)])], (.tuple ⟨[(A [(S [48]), (S [49])]), (.bool true)]⟩)),
  .inl (60, [(A [(S [49]), (S [49])]), (A [(S [49]), (S [49])])], (.tuple ⟨[(A [(S [48]), (S [49])]), (I 0)]⟩)),
  .inl (93, [(A [(I 0), (I 1)]), (A [(I 1), (I 1)])], (.tuple ⟨[(A [(S [48]), (S [49])]), (.bool true)]⟩)),
  .inl (42, [(A [(S [48]), (S [49])]), (A [(S [49]), (S [49])])], (A [(S [48]), (S [49])])),
  .inl (57, [(A [(S [48]), (S [49])]), (A [(S [49]), (S [49])])], (.tuple ⟨[(A [(S [48]), (S [49])]), (I 0)]⟩))]
def T25 : Tab := pushT T24 L25
def L26 : List (Sum (FuncId × List Value × Value) KC) := [.inl (28, [(A [(S [48]), (S [49])]), (A [(S [49]), (S [49])]), (A [(S [49]), (S [49])])], (A [(S [48]), (S [49]), (S [49]), (S [49]), (S [48]), (S [49])])),
  .inl (10, [(A [(S [48]), (S [49])]), (A [(S [49]), (S [49])]), (A [(S [49]), (S [49])])], (.tuple ⟨[(A [(S [48]), (S [49]), (S [49]), (S [49]), (S [48]), (S [49])]), (I 0)]⟩)),
  .inl (18, [(A [(S [49]), (S [50]), (S [49]), (S [50]), (S [48]), (S [49])]), (I 0)], (I 0)),
  .inl (80, [(A [(I 1), (I 2)]), (A [(.int .i64 (.negSucc 0)), (I 2)])], (.tuple ⟨[(A [(S [48]), (S [49])]), (.bool true)]⟩)),
  .inl (60, [(A [(S [49]), (S [50])]), (A [(S [49]), (S [50])])], (.tuple ⟨[(A [(S [48]), (S [49])]), (I 0)]⟩)),
  .inl (93, [(A [(I 0), (I 1)]), (A [(I 2), (I 1)])], (.tuple ⟨[(A [(S [48]), (S [49])]), (.bool true)]⟩)),
  .inl (57, [(A [(S [48]), (S [49])]), (A [(S [49]), (S [50])])], (.tuple ⟨[(A [(S [48]), (S [49])]), (I 0)]⟩)),
  .inl (104, [(I 0), (I 0)], (.tuple ⟨[(I 0), (.bool true)]⟩)),
  .inl (93, [(A [(I 0), (I 1)]), (A [(I 0), (I 1)])], (.tuple ⟨[(A [(S [48]), (S [49])]), (.bool true)]⟩)),
  .inl (42, [(A [(S [48]), (S [49])]), (A [(S [48]), (S [49])])], (A [(S [48]), (S [49])])),
  .inl (28, [(A [(S [49]), (S [50])]), (A [(S [49]), (S [50])]), (A [(S [48]), (S [49])])], (A [(S [48]), (S [49]), (S [48]), (S [49]), (S [48]), (S [49])])),
  .inl (10, [(A [(S [49]), (S [50])]), (A [(S [49]), (S [50])]), (A [(S [48]), (S [49])])], (.tuple ⟨[(A [(S [48]), (S [49]), (S [48]), (S [49]), (S [48]), (S [49])]), (I 0)]⟩)),
  .inl (65, [(.int .u64 (.ofNat 1)), (.int .u64 (.ofNat 7000))], (.int .u64 (.ofNat 1))),
  .inl (131, [(I 7000), (I 10)], (S [55, 48, 48, 48])),
  .inl (45, [(I 1), (I 7000)], (.tuple ⟨[(A [(S [49]), (S [55, 48, 48, 48])]), (.bool true)]⟩)),
  .inl (88, [(S [55, 48, 48, 48])], (.tuple ⟨[(I 7000), (.bool true)]⟩)),
  .inl (61, [(A [(S [49]), (S [55, 48, 48, 48])])], (.tuple ⟨[(A [(I 1), (I 7000)]), (.bool true)]⟩))]
def T26 : Tab := pushT T25 L26
def L27 : List (Sum (FuncId × List Value × Value) KC) := [.inl (65, [(.int .u64 (.ofNat 4607000000)), (.int .u64 (.ofNat 7000))], (.int .u64 (.ofNat 1000))),
  .inl (104, [(.int .i64 (.negSucc 4606999)), (I 1)], (.tuple ⟨[(.int .i64 (.negSucc 4606999)), (.bool true)]⟩)),
  .inl (104, [(I 1), (I 7)], (.tuple ⟨[(I 7), (.bool true)]⟩)),
  .inl (131, [(.int .i64 (.negSucc 4606999)), (I 10)], (S [45, 52, 54, 48, 55, 48, 48, 48])),
  .inl (93, [(A [(.int .i64 (.negSucc 4606999999)), (I 1)]), (A [(I 1), (I 7000)])], (.tuple ⟨[(A [(S [45, 52, 54, 48, 55, 48, 48, 48]), (S [55])]), (.bool true)]⟩)),
  .inl (63, [(A [(S [45, 52, 54, 48, 55, 48, 48, 48, 48, 48, 48]), (S [49])]), (A [(S [49]), (S [55, 48, 48, 48])])], (.tuple ⟨[(A [(S [45, 52, 54, 48, 55, 48, 48, 48]), (S [55])]), (I 0)]⟩)),
  .inl (88, [(S [45, 52, 54, 48, 55, 48, 48, 48])], (.tuple ⟨[(.int .i64 (.negSucc 4606999)), (.bool true)]⟩)),
  .inl (65, [(.int .u64 (.ofNat 4607000)), (.int .u64 (.ofNat 7))], (.int .u64 (.ofNat 1))),
  .inl (61, [(A [(S [45, 52, 54, 48, 55, 48, 48, 48]), (S [55])])], (.tuple ⟨[(A [(.int .i64 (.negSucc 4606999)), (I 7)]), (.bool true)]⟩)),
  .inl (104, [(I 2967800), (I 7)], (.tuple ⟨[(I 20774600), (.bool true)]⟩)),
  .inl (65, [(.int .u64 (.ofNat 16167600)), (.int .u64 (.ofNat 1))], (.int .u64 (.ofNat 1))),
  .inl (104, [(I 7), (I 1)], (.tuple ⟨[(I 7), (.bool true)]⟩)),
  .inl (131, [(I 16167600), (I 10)], (S [49, 54, 49, 54, 55, 54, 48, 48]))]
def T27 : Tab := pushT T26 L27
def L28 : List (Sum (FuncId × List Value × Value) KC) := [.inl (80, [(A [(.int .i64 (.negSucc 4606999)), (I 7)]), (A [(I 2967800), (I 1)])], (.tuple ⟨[(A [(S [49, 54, 49, 54, 55, 54, 48, 48]), (S [55])]), (.bool true)]⟩)),
  .inl (56, [(A [(S [45, 52, 54, 48, 55, 48, 48, 48]), (S [55])]), (A [(S [50, 57, 54, 55, 56, 48, 48]), (S [49])])], (.tuple ⟨[(A [(S [49, 54, 49, 54, 55, 54, 48, 48]), (S [55])]), (I 0)]⟩)),
  .inl (88, [(S [49, 54, 49, 54, 55, 54, 48, 48])], (.tuple ⟨[(I 16167600), (.bool true)]⟩)),
  .inl (65, [(.int .u64 (.ofNat 16167600)), (.int .u64 (.ofNat 7))], (.int .u64 (.ofNat 1))),
  .inl (61, [(A [(S [49, 54, 49, 54, 55, 54, 48, 48]), (S [55])])], (.tuple ⟨[(A [(I 16167600), (I 7)]), (.bool true)]⟩)),
  .inl (65, [(.int .u64 (.ofNat 16167600)), (.int .u64 (.ofNat 7000))], (.int .u64 (.ofNat 200))),
  .inl (65, [(.int .u64 (.ofNat 1)), (.int .u64 (.ofNat 7))], (.int .u64 (.ofNat 1))),
  .inl (104, [(I 80838), (I 1)], (.tuple ⟨[(I 80838), (.bool true)]⟩)),
  .inl (104, [(I 7), (I 35)], (.tuple ⟨[(I 245), (.bool true)]⟩)),
  .inl (131, [(I 80838), (I 10)], (S [56, 48, 56, 51, 56])),
  .inl (131, [(I 245), (I 10)], (S [50, 52, 53])),
  .inl (93, [(A [(I 16167600), (I 7)]), (A [(I 1), (I 7000)])], (.tuple ⟨[(A [(S [56, 48, 56, 51, 56]), (S [50, 52, 53])]), (.bool true)]⟩)),
  .inl (63, [(A [(S [49, 54, 49, 54, 55, 54, 48, 48]), (S [55])]), (A [(S [49]), (S [55, 48, 48, 48])])], (.tuple ⟨[(A [(S [56, 48, 56, 51, 56]), (S [50, 52, 53])]), (I 0)]⟩)),
  .inl (88, [(S [56, 48, 56, 51, 56])], (.tuple ⟨[(I 80838), (.bool true)]⟩)),
  .inl (88, [(S [50, 52, 53])], (.tuple ⟨[(I 245), (.bool true)]⟩))]
def T28 : Tab := pushT T27 L28
def L29 : List (Sum (FuncId × List Value × Value) KC) := [.inl (65, [(.int .u64 (.ofNat 80838)), (.int .u64 (.ofNat 245))], (.int .u64 (.ofNat 1))),
  .inl (65, [(.int .u64 (.ofNat 245)), (.int .u64 (.ofNat 100))], (.int .u64 (.ofNat 5))),
  .inl (104, [(I 80838), (I 20)], (.tuple ⟨[(I 1616760), (.bool true)]⟩)),
  .inl (104, [(I 9911), (I 49)], (.tuple ⟨[(I 485639), (.bool true)]⟩)),
  .inl (65, [(.int .u64 (.ofNat 2102399)), (.int .u64 (.ofNat 5))], (.int .u64 (.ofNat 1))),
  .inl (104, [(I 49), (I 100)], (.tuple ⟨[(I 4900), (.bool true)]⟩)),
  .inl (131, [(I 2102399), (I 10)], (S [50, 49, 48, 50, 51, 57, 57])),
  .inl (131, [(I 4900), (I 10)], (S [52, 57, 48, 48])),
  .inl (80, [(A [(I 80838), (I 245)]), (A [(I 9911), (I 100)])], (.tuple ⟨[(A [(S [50, 49, 48, 50, 51, 57, 57]), (S [52, 57, 48, 48])]), (.bool true)]⟩)),
  .inl (56, [(A [(S [56, 48, 56, 51, 56]), (S [50, 52, 53])]), (A [(S [57, 57, 49, 49]), (S [49, 48, 48])])], (.tuple ⟨[(A [(S [50, 49, 48, 50, 51, 57, 57]), (S [52, 57, 48, 48])]), (I 0)]⟩)),
  .inl (88, [(S [50, 49, 48, 50, 51, 57, 57])], (.tuple ⟨[(I 2102399), (.bool true)]⟩)),
  .inl (88, [(S [52, 57, 48, 48])], (.tuple ⟨[(I 4900), (.bool true)]⟩))]
def T29 : Tab := pushT T28 L29
def L30 : List (Sum (FuncId × List Value × Value) KC) := [.inl (65, [(.int .u64 (.ofNat 2102399)), (.int .u64 (.ofNat 4900))], (.int .u64 (.ofNat 1))),
  .inl (65, [(.int .u64 (.ofNat 2102399)), (.int .u64 (.ofNat 7000))], (.int .u64 (.ofNat 1))),
  .inl (65, [(.int .u64 (.ofNat 1)), (.int .u64 (.ofNat 4900))], (.int .u64 (.ofNat 1))),
  .inl (104, [(I 2102399), (I 1)], (.tuple ⟨[(I 2102399), (.bool true)]⟩)),
  .inl (104, [(I 4900), (I 7000)], (.tuple ⟨[(I 34300000), (.bool true)]⟩)),
  .inl (131, [(I 34300000), (I 10)], (S [51, 52, 51, 48, 48, 48, 48, 48])),
  .inl (93, [(A [(I 2102399), (I 4900)]), (A [(I 1), (I 7000)])], (.tuple ⟨[(A [(S [50, 49, 48, 50, 51, 57, 57]), (S [51, 52, 51, 48, 48, 48, 48, 48])]), (.bool true)]⟩)),
  .inl (63, [(A [(S [50, 49, 48, 50, 51, 57, 57]), (S [52, 57, 48, 48])]), (A [(S [49]), (S [55, 48, 48, 48])])], (.tuple ⟨[(A [(S [50, 49, 48, 50, 51, 57, 57]), (S [51, 52, 51, 48, 48, 48, 48, 48])]), (I 0)]⟩)),
  .inl (88, [(S [51, 52, 51, 48, 48, 48, 48, 48])], (.tuple ⟨[(I 34300000), (.bool true)]⟩)),
  .inl (65, [(.int .u64 (.ofNat 2102399)), (.int .u64 (.ofNat 34300000))], (.int .u64 (.ofNat 1)))]
def T30 : Tab := pushT T29 L30
def L31 : List (Sum (FuncId × List Value × Value) KC) := [.inl (65, [(.int .u64 (.ofNat 34300000)), (.int .u64 (.ofNat 1000000))], (.int .u64 (.ofNat 100000))),
  .inl (104, [(I 2102399), (I 10)], (.tuple ⟨[(I 21023990), (.bool true)]⟩)),
  .inl (104, [(I 244063), (I 343)], (.tuple ⟨[(I 83713609), (.bool true)]⟩)),
  .inl (65, [(.int .u64 (.ofNat 104737599)), (.int .u64 (.ofNat 100000))], (.int .u64 (.ofNat 1))),
  .inl (104, [(I 343), (I 1000000)], (.tuple ⟨[(I 343000000), (.bool true)]⟩)),
  .inl (131, [(I 104737599), (I 10)], (S [49, 48, 52, 55, 51, 55, 53, 57, 57])),
  .inl (131, [(I 343000000), (I 10)], (S [51, 52, 51, 48, 48, 48, 48, 48, 48])),
  .inl (80, [(A [(I 2102399), (I 34300000)]), (A [(I 244063), (I 1000000)])], (.tuple ⟨[(A [(S [49, 48, 52, 55, 51, 55, 53, 57, 57]), (S [51, 52, 51, 48, 48, 48, 48, 48, 48])]), (.bool true)]⟩)),
  .inl (56, [(A [(S [50, 49, 48, 50, 51, 57, 57]), (S [51, 52, 51, 48, 48, 48, 48, 48])]), (A [(S [50, 52, 52, 48, 54, 51]), (S [49, 48, 48, 48, 48, 48, 48])])], (.tuple ⟨[(A [(S [49, 48, 52, 55, 51, 55, 53, 57, 57]), (S [51, 52, 51, 48, 48, 48, 48, 48, 48])]), (I 0)]⟩)),
  .inl (88, [(S [49, 48, 52, 55, 51, 55, 53, 57, 57])], (.tuple ⟨[(I 104737599), (.bool true)]⟩)),
  .inl (88, [(S [51, 52, 51, 48, 48, 48, 48, 48, 48])], (.tuple ⟨[(I 343000000), (.bool true)]⟩))]
def T31 : Tab := pushT T30 L31
def L32 : List (Sum (FuncId × List Value × Value) KC) := [.inl (65, [(.int .u64 (.ofNat 104737599)), (.int .u64 (.ofNat 343000000))], (.int .u64 (.ofNat 1))),
  .inl (65, [(.int .u64 (.ofNat 3)), (.int .u64 (.ofNat 343000000))], (.int .u64 (.ofNat 1))),
  .inl (65, [(.int .u64 (.ofNat 104737599)), (.int .u64 (.ofNat 1))], (.int .u64 (.ofNat 1))),
  .inl (104, [(.int .i64 (.negSucc 2)), (I 104737599)], (.tuple ⟨[(.int .i64 (.negSucc 314212796)), (.bool true)]⟩)),
  .inl (104, [(I 1), (I 343000000)], (.tuple ⟨[(I 343000000), (.bool true)]⟩)),
  .inl (131, [(.int .i64 (.negSucc 314212796)), (I 10)], (S [45, 51, 49, 52, 50, 49, 50, 55, 57, 55])),
  .inl (93, [(A [(.int .i64 (.negSucc 2)), (I 1)]), (A [(I 104737599), (I 343000000)])], (.tuple ⟨[(A [(S [45, 51, 49, 52, 50, 49, 50, 55, 57, 55]), (S [51, 52, 51, 48, 48, 48, 48, 48, 48])]), (.bool true)]⟩)),
  .inl (63, [(A [(S [45, 51]), (S [49])]), (A [(S [49, 48, 52, 55, 51, 55, 53, 57, 57]), (S [51, 52, 51, 48, 48, 48, 48, 48, 48])])], (.tuple ⟨[(A [(S [45, 51, 49, 52, 50, 49, 50, 55, 57, 55]), (S [51, 52, 51, 48, 48, 48, 48, 48, 48])]), (I 0)]⟩)),
  .inl (88, [(S [45, 51, 49, 52, 50, 49, 50, 55, 57, 55])], (.tuple ⟨[(.int .i64 (.negSucc 314212796)), (.bool true)]⟩))]
def T32 : Tab := pushT T31 L32
def L33 : List (Sum (FuncId × List Value × Value) KC) := [.inl (65, [(.int .u64 (.ofNat 314212797)), (.int .u64 (.ofNat 343000000))], (.int .u64 (.ofNat 1))),
  .inl (65, [(.int .u64 (.ofNat 343000000)), (.int .u64 (.ofNat 100))], (.int .u64 (.ofNat 100))),
  .inl (104, [(.int .i64 (.negSucc 314212796)), (I 1)], (.tuple ⟨[(.int .i64 (.negSucc 314212796)), (.bool true)]⟩)),
  .inl (104, [(I 287), (I 3430000)], (.tuple ⟨[(I 984410000), (.bool true)]⟩)),
  .inl (65, [(.int .u64 (.ofNat 670197203)), (.int .u64 (.ofNat 100))], (.int .u64 (.ofNat 1))),
  .inl (104, [(I 3430000), (I 100)], (.tuple ⟨[(I 343000000), (.bool true)]⟩)),
  .inl (131, [(I 670197203), (I 10)], (S [54, 55, 48, 49, 57, 55, 50, 48, 51])),
  .inl (80, [(A [(.int .i64 (.negSucc 314212796)), (I 343000000)]), (A [(I 287), (I 100)])], (.tuple ⟨[(A [(S [54, 55, 48, 49, 57, 55, 50, 48, 51]), (S [51, 52, 51, 48, 48, 48, 48, 48, 48])]), (.bool true)]⟩)),
  .inl (56, [(A [(S [45, 51, 49, 52, 50, 49, 50, 55, 57, 55]), (S [51, 52, 51, 48, 48, 48, 48, 48, 48])]), (A [(S [50, 56, 55]), (S [49, 48, 48])])], (.tuple ⟨[(A [(S [54, 55, 48, 49, 57, 55, 50, 48, 51]), (S [51, 52, 51, 48, 48, 48, 48, 48, 48])]), (I 0)]⟩)),
  .inl (88, [(S [54, 55, 48, 49, 57, 55, 50, 48, 51])], (.tuple ⟨[(I 670197203), (.bool true)]⟩))]
def T33 : Tab := pushT T32 L33
def L34 : List (Sum (FuncId × List Value × Value) KC) := [.inl (65, [(.int .u64 (.ofNat 670197203)), (.int .u64 (.ofNat 343000000))], (.int .u64 (.ofNat 1))),
  .inl (104, [(I 670197203), (I 104737599)], (.tuple ⟨[(I 70194845898735597), (.bool true)]⟩)),
  .inl (104, [(I 343000000), (I 343000000)], (.tuple ⟨[(I 117649000000000000), (.bool true)]⟩)),
  .inl (131, [(I 70194845898735597), (I 10)], (S [55, 48, 49, 57, 52, 56, 52, 53, 56, 57, 56, 55, 51, 53, 53, 57, 55])),
  .inl (131, [(I 117649000000000000), (I 10)], (S [49, 49, 55, 54, 52, 57, 48, 48, 48, 48, 48, 48, 48, 48, 48, 48, 48, 48])),
  .inl (93, [(A [(I 670197203), (I 343000000)]), (A [(I 104737599), (I 343000000)])], (.tuple ⟨[(A [(S [55, 48, 49, 57, 52, 56, 52, 53, 56, 57, 56, 55, 51, 53, 53, 57, 55]), (S [49, 49, 55, 54, 52, 57, 48, 48, 48, 48, 48, 48, 48, 48, 48, 48, 48, 48])]), (.bool true)]⟩)),
  .inl (63, [(A [(S [54, 55, 48, 49, 57, 55, 50, 48, 51]), (S [51, 52, 51, 48, 48, 48, 48, 48, 48])]), (A [(S [49, 48, 52, 55, 51, 55, 53, 57, 57]), (S [51, 52, 51, 48, 48, 48, 48, 48, 48])])], (.tuple ⟨[(A [(S [55, 48, 49, 57, 52, 56, 52, 53, 56, 57, 56, 55, 51, 53, 53, 57, 55]), (S [49, 49, 55, 54, 52, 57, 48, 48, 48, 48, 48, 48, 48, 48, 48, 48, 48, 48])]), (I 0)]⟩)),
  .inl (88, [(S [55, 48, 49, 57, 52, 56, 52, 53, 56, 57, 56, 55, 51, 53, 53, 57, 55])], (.tuple ⟨[(I 70194845898735597), (.bool true)]⟩)),
  .inl (88, [(S [49, 49, 55, 54, 52, 57, 48, 48, 48, 48, 48, 48, 48, 48, 48, 48, 48, 48])], (.tuple ⟨[(I 117649000000000000), (.bool true)]⟩))]
def T34 : Tab := pushT T33 L34
def L35 : List (Sum (FuncId × List Value × Value) KC) := [.inl (65, [(.int .u64 (.ofNat 70194845898735597)), (.int .u64 (.ofNat 117649000000000000))], (.int .u64 (.ofNat 1))),
  .inl (65, [(.int .u64 (.ofNat 117649000000000000)), (.int .u64 (.ofNat 40))], (.int .u64 (.ofNat 40))),
  .inl (104, [(I 70194845898735597), (I 1)], (.tuple ⟨[(I 70194845898735597), (.bool true)]⟩)),
  .inl (104, [(.int .i64 (.negSucc 10)), (I 2941225000000000)], (.tuple ⟨[(.int .i64 (.negSucc 32353474999999999)), (.bool true)]⟩))]
def T35 : Tab := pushT T34 L35
def L36 : List (Sum (FuncId × List Value × Value) KC) := [.inl (65, [(.int .u64 (.ofNat 37841370898735597)), (.int .u64 (.ofNat 40))], (.int .u64 (.ofNat 1))),
  .inl (104, [(I 2941225000000000), (I 40)], (.tuple ⟨[(I 117649000000000000), (.bool true)]⟩)),
  .inl (131, [(I 37841370898735597), (I 10)], (S [51, 55, 56, 52, 49, 51, 55, 48, 56, 57, 56, 55, 51, 53, 53, 57, 55])),
  .inl (80, [(A [(I 70194845898735597), (I 117649000000000000)]), (A [(.int .i64 (.negSucc 10)), (I 40)])], (.tuple ⟨[(A [(S [51, 55, 56, 52, 49, 51, 55, 48, 56, 57, 56, 55, 51, 53, 53, 57, 55]), (S [49, 49, 55, 54, 52, 57, 48, 48, 48, 48, 48, 48, 48, 48, 48, 48, 48, 48])]), (.bool true)]⟩)),
  .inl (56, [(A [(S [55, 48, 49, 57, 52, 56, 52, 53, 56, 57, 56, 55, 51, 53, 53, 57, 55]), (S [49, 49, 55, 54, 52, 57, 48, 48, 48, 48, 48, 48, 48, 48, 48, 48, 48, 48])]), (A [(S [45, 49, 49]), (S [52, 48])])], (.tuple ⟨[(A [(S [51, 55, 56, 52, 49, 51, 55, 48, 56, 57, 56, 55, 51, 53, 53, 57, 55]), (S [49, 49, 55, 54, 52, 57, 48, 48, 48, 48, 48, 48, 48, 48, 48, 48, 48, 48])]), (I 0)]⟩))]
def T36 : Tab := pushT T35 L36
def B4 : List (Nat × List Value) := [(6016, [(I 7000)]), gq 320, gq 64, gq 256, gq 0]
def B5 : List (Nat × List Value) := [gq 320, gq 64, gq 256, gq 0, (11456, [(S [45, 51]), (S [49]), (S [50, 56, 55]), (S [49, 48, 48]), (S [45, 49, 49]), (S [52, 48])]), (10432, [(S [49, 48, 52, 55, 51, 55, 53, 57, 57]), (S [51, 52, 51, 48, 48, 48, 48, 48, 48])]), (6336, [(S [49, 48, 52, 55, 51, 55, 53, 57, 57]), (S [51, 52, 51, 48, 48, 48, 48, 48, 48]), (S [51, 55, 56, 52, 49, 51, 55, 48, 56, 57, 56, 55, 51, 53, 53, 57, 55]), (S [49, 49, 55, 54, 52, 57, 48, 48, 48, 48, 48, 48, 48, 48, 48, 48, 48, 48])]), (8064, [(S [45, 52, 54, 48, 55, 48, 48, 48, 48, 48, 48]), (S [49]), (S [50, 57, 54, 55, 56, 48, 48]), (S [49]), (S [57, 57, 49, 49]), (S [49, 48, 48]), (S [50, 52, 52, 48, 54, 51]), (S [49, 48, 48, 48, 48, 48, 48])]), (6720, [(S [49]), (S [55, 48, 48, 48])]), (6016, [(I 7000)])]
def Q6 : KC := ⟨33, [(Z 6016 0)], 99, 6016, B4, (A [(S [49, 48, 52, 55, 51, 55, 53, 57, 57]), (S [51, 52, 51, 48, 48, 48, 48, 48, 48]), (S [51, 55, 56, 52, 49, 51, 55, 48, 56, 57, 56, 55, 51, 53, 53, 57, 55]), (S [49, 49, 55, 54, 52, 57, 48, 48, 48, 48, 48, 48, 48, 48, 48, 48, 48, 48])]), 205, B5, [], []⟩
def L37 : List (Sum (FuncId × List Value × Value) KC) := [.inr Q6,
  .inl (65, [(.int .u64 (.ofNat 1)), (.int .u64 (.ofNat 7001))], (.int .u64 (.ofNat 1))),
  .inl (131, [(I 7001), (I 10)], (S [55, 48, 48, 49])),
  .inl (45, [(I 1), (I 7001)], (.tuple ⟨[(A [(S [49]), (S [55, 48, 48, 49])]), (.bool true)]⟩)),
  .inl (88, [(S [55, 48, 48, 49])], (.tuple ⟨[(I 7001), (.bool true)]⟩)),
  .inl (61, [(A [(S [49]), (S [55, 48, 48, 49])])], (.tuple ⟨[(A [(I 1), (I 7001)]), (.bool true)]⟩)),
  .inl (65, [(.int .u64 (.ofNat 4607000000)), (.int .u64 (.ofNat 7001))], (.int .u64 (.ofNat 1))),
  .inl (104, [(.int .i64 (.negSucc 4606999999)), (I 1)], (.tuple ⟨[(.int .i64 (.negSucc 4606999999)), (.bool true)]⟩)),
  .inl (104, [(I 1), (I 7001)], (.tuple ⟨[(I 7001), (.bool true)]⟩)),
  .inl (93, [(A [(.int .i64 (.negSucc 4606999999)), (I 1)]), (A [(I 1), (I 7001)])], (.tuple ⟨[(A [(S [45, 52, 54, 48, 55, 48, 48, 48, 48, 48, 48]), (S [55, 48, 48, 49])]), (.bool true)]⟩))]
def T37 : Tab := pushT T36 L37
def L38 : List (Sum (FuncId × List Value × Value) KC) := [.inl (63, [(A [(S [45, 52, 54, 48, 55, 48, 48, 48, 48, 48, 48]), (S [49])]), (A [(S [49]), (S [55, 48, 48, 49])])], (.tuple ⟨[(A [(S [45, 52, 54, 48, 55, 48, 48, 48, 48, 48, 48]), (S [55, 48, 48, 49])]), (I 0)]⟩)),
  .inl (65, [(.int .u64 (.ofNat 7001)), (.int .u64 (.ofNat 1))], (.int .u64 (.ofNat 1))),
  .inl (104, [(I 2967800), (I 7001)], (.tuple ⟨[(I 20777567800), (.bool true)]⟩)),
  .inl (65, [(.int .u64 (.ofNat 16170567800)), (.int .u64 (.ofNat 1))], (.int .u64 (.ofNat 1))),
  .inl (104, [(I 7001), (I 1)], (.tuple ⟨[(I 7001), (.bool true)]⟩)),
  .inl (131, [(I 16170567800), (I 10)], (S [49, 54, 49, 55, 48, 53, 54, 55, 56, 48, 48])),
  .inl (80, [(A [(.int .i64 (.negSucc 4606999999)), (I 7001)]), (A [(I 2967800), (I 1)])], (.tuple ⟨[(A [(S [49, 54, 49, 55, 48, 53, 54, 55, 56, 48, 48]), (S [55, 48, 48, 49])]), (.bool true)]⟩)),
  .inl (56, [(A [(S [45, 52, 54, 48, 55, 48, 48, 48, 48, 48, 48]), (S [55, 48, 48, 49])]), (A [(S [50, 57, 54, 55, 56, 48, 48]), (S [49])])], (.tuple ⟨[(A [(S [49, 54, 49, 55, 48, 53, 54, 55, 56, 48, 48]), (S [55, 48, 48, 49])]), (I 0)]⟩)),
  .inl (88, [(S [49, 54, 49, 55, 48, 53, 54, 55, 56, 48, 48])], (.tuple ⟨[(I 16170567800), (.bool true)]⟩)),
  .inl (65, [(.int .u64 (.ofNat 16170567800)), (.int .u64 (.ofNat 7001))], (.int .u64 (.ofNat 1))),
  .inl (104, [(I 16170567800), (I 1)], (.tuple ⟨[(I 16170567800), (.bool true)]⟩))]
def T38 : Tab := pushT T37 L38
def L39 : List (Sum (FuncId × List Value × Value) KC) := [.inl (104, [(I 7001), (I 7001)], (.tuple ⟨[(I 49014001), (.bool true)]⟩)),
  .inl (131, [(I 49014001), (I 10)], (S [52, 57, 48, 49, 52, 48, 48, 49])),
  .inl (93, [(A [(I 16170567800), (I 7001)]), (A [(I 1), (I 7001)])], (.tuple ⟨[(A [(S [49, 54, 49, 55, 48, 53, 54, 55, 56, 48, 48]), (S [52, 57, 48, 49, 52, 48, 48, 49])]), (.bool true)]⟩)),
  .inl (63, [(A [(S [49, 54, 49, 55, 48, 53, 54, 55, 56, 48, 48]), (S [55, 48, 48, 49])]), (A [(S [49]), (S [55, 48, 48, 49])])], (.tuple ⟨[(A [(S [49, 54, 49, 55, 48, 53, 54, 55, 56, 48, 48]), (S [52, 57, 48, 49, 52, 48, 48, 49])]), (I 0)]⟩)),
  .inl (88, [(S [52, 57, 48, 49, 52, 48, 48, 49])], (.tuple ⟨[(I 49014001), (.bool true)]⟩)),
  .inl (65, [(.int .u64 (.ofNat 16170567800)), (.int .u64 (.ofNat 49014001))], (.int .u64 (.ofNat 1))),
  .inl (65, [(.int .u64 (.ofNat 49014001)), (.int .u64 (.ofNat 100))], (.int .u64 (.ofNat 1))),
  .inl (104, [(I 16170567800), (I 100)], (.tuple ⟨[(I 1617056780000), (.bool true)]⟩)),
  .inl (104, [(I 9911), (I 49014001)], (.tuple ⟨[(I 485777763911), (.bool true)]⟩))]
def T39 : Tab := pushT T38 L39
def L40 : List (Sum (FuncId × List Value × Value) KC) := [.inl (65, [(.int .u64 (.ofNat 2102834543911)), (.int .u64 (.ofNat 1))], (.int .u64 (.ofNat 1))),
  .inl (104, [(I 49014001), (I 100)], (.tuple ⟨[(I 4901400100), (.bool true)]⟩)),
  .inl (131, [(I 2102834543911), (I 10)], (S [50, 49, 48, 50, 56, 51, 52, 53, 52, 51, 57, 49, 49])),
  .inl (131, [(I 4901400100), (I 10)], (S [52, 57, 48, 49, 52, 48, 48, 49, 48, 48])),
  .inl (80, [(A [(I 16170567800), (I 49014001)]), (A [(I 9911), (I 100)])], (.tuple ⟨[(A [(S [50, 49, 48, 50, 56, 51, 52, 53, 52, 51, 57, 49, 49]), (S [52, 57, 48, 49, 52, 48, 48, 49, 48, 48])]), (.bool true)]⟩)),
  .inl (56, [(A [(S [49, 54, 49, 55, 48, 53, 54, 55, 56, 48, 48]), (S [52, 57, 48, 49, 52, 48, 48, 49])]), (A [(S [57, 57, 49, 49]), (S [49, 48, 48])])], (.tuple ⟨[(A [(S [50, 49, 48, 50, 56, 51, 52, 53, 52, 51, 57, 49, 49]), (S [52, 57, 48, 49, 52, 48, 48, 49, 48, 48])]), (I 0)]⟩)),
  .inl (88, [(S [50, 49, 48, 50, 56, 51, 52, 53, 52, 51, 57, 49, 49])], (.tuple ⟨[(I 2102834543911), (.bool true)]⟩)),
  .inl (88, [(S [52, 57, 48, 49, 52, 48, 48, 49, 48, 48])], (.tuple ⟨[(I 4901400100), (.bool true)]⟩))]
def T40 : Tab := pushT T39 L40
def L41 : List (Sum (FuncId × List Value × Value) KC) := [.inl (65, [(.int .u64 (.ofNat 2102834543911)), (.int .u64 (.ofNat 4901400100))], (.int .u64 (.ofNat 1))),
  .inl (65, [(.int .u64 (.ofNat 2102834543911)), (.int .u64 (.ofNat 7001))], (.int .u64 (.ofNat 1))),
  .inl (65, [(.int .u64 (.ofNat 1)), (.int .u64 (.ofNat 4901400100))], (.int .u64 (.ofNat 1))),
  .inl (104, [(I 2102834543911), (I 1)], (.tuple ⟨[(I 2102834543911), (.bool true)]⟩)),
  .inl (104, [(I 4901400100), (I 7001)], (.tuple ⟨[(I 34314702100100), (.bool true)]⟩))]
def T41 : Tab := pushT T40 L41
def L42 : List (Sum (FuncId × List Value × Value) KC) := [.inl (131, [(I 34314702100100), (I 10)], (S [51, 52, 51, 49, 52, 55, 48, 50, 49, 48, 48, 49, 48, 48])),
  .inl (93, [(A [(I 2102834543911), (I 4901400100)]), (A [(I 1), (I 7001)])], (.tuple ⟨[(A [(S [50, 49, 48, 50, 56, 51, 52, 53, 52, 51, 57, 49, 49]), (S [51, 52, 51, 49, 52, 55, 48, 50, 49, 48, 48, 49, 48, 48])]), (.bool true)]⟩)),
  .inl (63, [(A [(S [50, 49, 48, 50, 56, 51, 52, 53, 52, 51, 57, 49, 49]), (S [52, 57, 48, 49, 52, 48, 48, 49, 48, 48])]), (A [(S [49]), (S [55, 48, 48, 49])])], (.tuple ⟨[(A [(S [50, 49, 48, 50, 56, 51, 52, 53, 52, 51, 57, 49, 49]), (S [51, 52, 51, 49, 52, 55, 48, 50, 49, 48, 48, 49, 48, 48])]), (I 0)]⟩)),
  .inl (88, [(S [51, 52, 51, 49, 52, 55, 48, 50, 49, 48, 48, 49, 48, 48])], (.tuple ⟨[(I 34314702100100), (.bool true)]⟩)),
  .inl (65, [(.int .u64 (.ofNat 2102834543911)), (.int .u64 (.ofNat 34314702100100))], (.int .u64 (.ofNat 1))),
  .inl (65, [(.int .u64 (.ofNat 34314702100100)), (.int .u64 (.ofNat 1000000))], (.int .u64 (.ofNat 100)))]
def T42 : Tab := pushT T41 L42
def L43 : List (Sum (FuncId × List Value × Value) KC) := [.inl (104, [(I 2102834543911), (I 10000)], (.tuple ⟨[(I 21028345439110000), (.bool true)]⟩)),
  .inl (104, [(I 244063), (I 343147021001)], (.tuple ⟨[(I 83749491386567063), (.bool true)]⟩)),
  .inl (65, [(.int .u64 (.ofNat 104777836825677063)), (.int .u64 (.ofNat 100))], (.int .u64 (.ofNat 1))),
  .inl (104, [(I 343147021001), (I 1000000)], (.tuple ⟨[(I 343147021001000000), (.bool true)]⟩)),
  .inl (131, [(I 104777836825677063), (I 10)], (S [49, 48, 52, 55, 55, 55, 56, 51, 54, 56, 50, 53, 54, 55, 55, 48, 54, 51])),
  .inl (131, [(I 343147021001000000), (I 10)], (S [51, 52, 51, 49, 52, 55, 48, 50, 49, 48, 48, 49, 48, 48, 48, 48, 48, 48])),
  .inl (80, [(A [(I 2102834543911), (I 34314702100100)]), (A [(I 244063), (I 1000000)])], (.tuple ⟨[(A [(S [49, 48, 52, 55, 55, 55, 56, 51, 54, 56, 50, 53, 54, 55, 55, 48, 54, 51]), (S [51, 52, 51, 49, 52, 55, 48, 50, 49, 48, 48, 49, 48, 48, 48, 48, 48, 48])]), (.bool true)]⟩)),
  .inl (56, [(A [(S [50, 49, 48, 50, 56, 51, 52, 53, 52, 51, 57, 49, 49]), (S [51, 52, 51, 49, 52, 55, 48, 50, 49, 48, 48, 49, 48, 48])]), (A [(S [50, 52, 52, 48, 54, 51]), (S [49, 48, 48, 48, 48, 48, 48])])], (.tuple ⟨[(A [(S [49, 48, 52, 55, 55, 55, 56, 51, 54, 56, 50, 53, 54, 55, 55, 48, 54, 51]), (S [51, 52, 51, 49, 52, 55, 48, 50, 49, 48, 48, 49, 48, 48, 48, 48, 48, 48])]), (I 0)]⟩))]
def T43 : Tab := pushT T42 L43
def L44 : List (Sum (FuncId × List Value × Value) KC) := [.inl (65, [(.int .u64 (.ofNat 2006400000)), (.int .u64 (.ofNat 1))], (.int .u64 (.ofNat 1))),
  .inl (131, [(.int .i64 (.negSucc 2006399999)), (I 10)], (S [45, 50, 48, 48, 54, 52, 48, 48, 48, 48, 48])),
  .inl (45, [(.int .i64 (.negSucc 2006399999)), (I 1)], (.tuple ⟨[(A [(S [45, 50, 48, 48, 54, 52, 48, 48, 48, 48, 48]), (S [49])]), (.bool true)]⟩)),
  .inl (65, [(.int .u64 (.ofNat 1901800)), (.int .u64 (.ofNat 1))], (.int .u64 (.ofNat 1))),
  .inl (131, [(I 1901800), (I 10)], (S [49, 57, 48, 49, 56, 48, 48])),
  .inl (45, [(I 1901800), (I 1)], (.tuple ⟨[(A [(S [49, 57, 48, 49, 56, 48, 48]), (S [49])]), (.bool true)]⟩)),
  .inl (65, [(.int .u64 (.ofNat 24748)), (.int .u64 (.ofNat 100))], (.int .u64 (.ofNat 4))),
  .inl (131, [(I 6187), (I 10)], (S [54, 49, 56, 55])),
  .inl (45, [(I 24748), (I 100)], (.tuple ⟨[(A [(S [54, 49, 56, 55]), (S [50, 53])]), (.bool true)]⟩)),
  .inl (65, [(.int .u64 (.ofNat 23704)), (.int .u64 (.ofNat 100000))], (.int .u64 (.ofNat 8))),
  .inl (131, [(I 2963), (I 10)], (S [50, 57, 54, 51])),
  .inl (131, [(I 12500), (I 10)], (S [49, 50, 53, 48, 48]))]
def T44 : Tab := pushT T43 L44
def L45 : List (Sum (FuncId × List Value × Value) KC) := [.inl (45, [(I 23704), (I 100000)], (.tuple ⟨[(A [(S [50, 57, 54, 51]), (S [49, 50, 53, 48, 48])]), (.bool true)]⟩)),
  .inl (88, [(S [45, 50, 48, 48, 54, 52, 48, 48, 48, 48, 48])], (.tuple ⟨[(.int .i64 (.negSucc 2006399999)), (.bool true)]⟩)),
  .inl (61, [(A [(S [45, 50, 48, 48, 54, 52, 48, 48, 48, 48, 48]), (S [49])])], (.tuple ⟨[(A [(.int .i64 (.negSucc 2006399999)), (I 1)]), (.bool true)]⟩)),
  .inl (65, [(.int .u64 (.ofNat 2006400000)), (.int .u64 (.ofNat 7001))], (.int .u64 (.ofNat 1))),
  .inl (104, [(.int .i64 (.negSucc 2006399999)), (I 1)], (.tuple ⟨[(.int .i64 (.negSucc 2006399999)), (.bool true)]⟩)),
  .inl (93, [(A [(.int .i64 (.negSucc 2006399999)), (I 1)]), (A [(I 1), (I 7001)])], (.tuple ⟨[(A [(S [45, 50, 48, 48, 54, 52, 48, 48, 48, 48, 48]), (S [55, 48, 48, 49])]), (.bool true)]⟩)),
  .inl (63, [(A [(S [45, 50, 48, 48, 54, 52, 48, 48, 48, 48, 48]), (S [49])]), (A [(S [49]), (S [55, 48, 48, 49])])], (.tuple ⟨[(A [(S [45, 50, 48, 48, 54, 52, 48, 48, 48, 48, 48]), (S [55, 48, 48, 49])]), (I 0)]⟩)),
  .inl (88, [(S [49, 57, 48, 49, 56, 48, 48])], (.tuple ⟨[(I 1901800), (.bool true)]⟩)),
  .inl (61, [(A [(S [49, 57, 48, 49, 56, 48, 48]), (S [49])])], (.tuple ⟨[(A [(I 1901800), (I 1)]), (.bool true)]⟩)),
  .inl (104, [(I 1901800), (I 7001)], (.tuple ⟨[(I 13314501800), (.bool true)]⟩)),
  .inl (65, [(.int .u64 (.ofNat 11308101800)), (.int .u64 (.ofNat 1))], (.int .u64 (.ofNat 1))),
  .inl (131, [(I 11308101800), (I 10)], (S [49, 49, 51, 48, 56, 49, 48, 49, 56, 48, 48])),
  .inl (80, [(A [(.int .i64 (.negSucc 2006399999)), (I 7001)]), (A [(I 1901800), (I 1)])], (.tuple ⟨[(A [(S [49, 49, 51, 48, 56, 49, 48, 49, 56, 48, 48]), (S [55, 48, 48, 49])]), (.bool true)]⟩)),
  .inl (56, [(A [(S [45, 50, 48, 48, 54, 52, 48, 48, 48, 48, 48]), (S [55, 48, 48, 49])]), (A [(S [49, 57, 48, 49, 56, 48, 48]), (S [49])])], (.tuple ⟨[(A [(S [49, 49, 51, 48, 56, 49, 48, 49, 56, 48, 48]), (S [55, 48, 48, 49])]), (I 0)]⟩))]
def T45 : Tab := pushT T44 L45
def L46 : List (Sum (FuncId × List Value × Value) KC) := [.inl (88, [(S [49, 49, 51, 48, 56, 49, 48, 49, 56, 48, 48])], (.tuple ⟨[(I 11308101800), (.bool true)]⟩)),
  .inl (65, [(.int .u64 (.ofNat 11308101800)), (.int .u64 (.ofNat 7001))], (.int .u64 (.ofNat 1))),
  .inl (104, [(I 11308101800), (I 1)], (.tuple ⟨[(I 11308101800), (.bool true)]⟩)),
  .inl (93, [(A [(I 11308101800), (I 7001)]), (A [(I 1), (I 7001)])], (.tuple ⟨[(A [(S [49, 49, 51, 48, 56, 49, 48, 49, 56, 48, 48]), (S [52, 57, 48, 49, 52, 48, 48, 49])]), (.bool true)]⟩)),
  .inl (63, [(A [(S [49, 49, 51, 48, 56, 49, 48, 49, 56, 48, 48]), (S [55, 48, 48, 49])]), (A [(S [49]), (S [55, 48, 48, 49])])], (.tuple ⟨[(A [(S [49, 49, 51, 48, 56, 49, 48, 49, 56, 48, 48]), (S [52, 57, 48, 49, 52, 48, 48, 49])]), (I 0)]⟩)),
  .inl (65, [(.int .u64 (.ofNat 11308101800)), (.int .u64 (.ofNat 49014001))], (.int .u64 (.ofNat 1))),
  .inl (88, [(S [54, 49, 56, 55])], (.tuple ⟨[(I 6187), (.bool true)]⟩)),
  .inl (65, [(.int .u64 (.ofNat 6187)), (.int .u64 (.ofNat 25))], (.int .u64 (.ofNat 1)))]
def T46 : Tab := pushT T45 L46
def L47 : List (Sum (FuncId × List Value × Value) KC) := [.inl (65, [(.int .u64 (.ofNat 49014001)), (.int .u64 (.ofNat 25))], (.int .u64 (.ofNat 1))),
  .inl (104, [(I 11308101800), (I 25)], (.tuple ⟨[(I 282702545000), (.bool true)]⟩)),
  .inl (104, [(I 6187), (I 49014001)], (.tuple ⟨[(I 303249624187), (.bool true)]⟩)),
  .inl (65, [(.int .u64 (.ofNat 585952169187)), (.int .u64 (.ofNat 1))], (.int .u64 (.ofNat 1))),
  .inl (104, [(I 49014001), (I 25)], (.tuple ⟨[(I 1225350025), (.bool true)]⟩)),
  .inl (131, [(I 585952169187), (I 10)], (S [53, 56, 53, 57, 53, 50, 49, 54, 57, 49, 56, 55])),
  .inl (131, [(I 1225350025), (I 10)], (S [49, 50, 50, 53, 51, 53, 48, 48, 50, 53])),
  .inl (80, [(A [(I 11308101800), (I 49014001)]), (A [(I 6187), (I 25)])], (.tuple ⟨[(A [(S [53, 56, 53, 57, 53, 50, 49, 54, 57, 49, 56, 55]), (S [49, 50, 50, 53, 51, 53, 48, 48, 50, 53])]), (.bool true)]⟩)),
  .inl (56, [(A [(S [49, 49, 51, 48, 56, 49, 48, 49, 56, 48, 48]), (S [52, 57, 48, 49, 52, 48, 48, 49])]), (A [(S [54, 49, 56, 55]), (S [50, 53])])], (.tuple ⟨[(A [(S [53, 56, 53, 57, 53, 50, 49, 54, 57, 49, 56, 55]), (S [49, 50, 50, 53, 51, 53, 48, 48, 50, 53])]), (I 0)]⟩)),
  .inl (88, [(S [53, 56, 53, 57, 53, 50, 49, 54, 57, 49, 56, 55])], (.tuple ⟨[(I 585952169187), (.bool true)]⟩))]
def T47 : Tab := pushT T46 L47
def L48 : List (Sum (FuncId × List Value × Value) KC) := [.inl (88, [(S [49, 50, 50, 53, 51, 53, 48, 48, 50, 53])], (.tuple ⟨[(I 1225350025), (.bool true)]⟩)),
  .inl (65, [(.int .u64 (.ofNat 585952169187)), (.int .u64 (.ofNat 1225350025))], (.int .u64 (.ofNat 1))),
  .inl (65, [(.int .u64 (.ofNat 585952169187)), (.int .u64 (.ofNat 7001))], (.int .u64 (.ofNat 1))),
  .inl (65, [(.int .u64 (.ofNat 1)), (.int .u64 (.ofNat 1225350025))], (.int .u64 (.ofNat 1))),
  .inl (104, [(I 585952169187), (I 1)], (.tuple ⟨[(I 585952169187), (.bool true)]⟩)),
  .inl (104, [(I 1225350025), (I 7001)], (.tuple ⟨[(I 8578675525025), (.bool true)]⟩))]
def T48 : Tab := pushT T47 L48
def L49 : List (Sum (FuncId × List Value × Value) KC) := [.inl (131, [(I 8578675525025), (I 10)], (S [56, 53, 55, 56, 54, 55, 53, 53, 50, 53, 48, 50, 53])),
  .inl (93, [(A [(I 585952169187), (I 1225350025)]), (A [(I 1), (I 7001)])], (.tuple ⟨[(A [(S [53, 56, 53, 57, 53, 50, 49, 54, 57, 49, 56, 55]), (S [56, 53, 55, 56, 54, 55, 53, 53, 50, 53, 48, 50, 53])]), (.bool true)]⟩)),
  .inl (63, [(A [(S [53, 56, 53, 57, 53, 50, 49, 54, 57, 49, 56, 55]), (S [49, 50, 50, 53, 51, 53, 48, 48, 50, 53])]), (A [(S [49]), (S [55, 48, 48, 49])])], (.tuple ⟨[(A [(S [53, 56, 53, 57, 53, 50, 49, 54, 57, 49, 56, 55]), (S [56, 53, 55, 56, 54, 55, 53, 53, 50, 53, 48, 50, 53])]), (I 0)]⟩)),
  .inl (88, [(S [56, 53, 55, 56, 54, 55, 53, 53, 50, 53, 48, 50, 53])], (.tuple ⟨[(I 8578675525025), (.bool true)]⟩)),
  .inl (65, [(.int .u64 (.ofNat 585952169187)), (.int .u64 (.ofNat 8578675525025))], (.int .u64 (.ofNat 1))),
  .inl (88, [(S [50, 57, 54, 51])], (.tuple ⟨[(I 2963), (.bool true)]⟩)),
  .inl (88, [(S [49, 50, 53, 48, 48])], (.tuple ⟨[(I 12500), (.bool true)]⟩)),
  .inl (65, [(.int .u64 (.ofNat 2963)), (.int .u64 (.ofNat 12500))], (.int .u64 (.ofNat 1)))]
def T49 : Tab := pushT T48 L49
def L50 : List (Sum (FuncId × List Value × Value) KC) := [.inl (65, [(.int .u64 (.ofNat 8578675525025)), (.int .u64 (.ofNat 12500))], (.int .u64 (.ofNat 25))),
  .inl (104, [(I 585952169187), (I 500)], (.tuple ⟨[(I 292976084593500), (.bool true)]⟩)),
  .inl (104, [(I 2963), (I 343147021001)], (.tuple ⟨[(I 1016744623225963), (.bool true)]⟩)),
  .inl (65, [(.int .u64 (.ofNat 1309720707819463)), (.int .u64 (.ofNat 25))], (.int .u64 (.ofNat 1))),
  .inl (104, [(I 343147021001), (I 12500)], (.tuple ⟨[(I 4289337762512500), (.bool true)]⟩)),
  .inl (131, [(I 1309720707819463), (I 10)], (S [49, 51, 48, 57, 55, 50, 48, 55, 48, 55, 56, 49, 57, 52, 54, 51])),
  .inl (131, [(I 4289337762512500), (I 10)], (S [52, 50, 56, 57, 51, 51, 55, 55, 54, 50, 53, 49, 50, 53, 48, 48])),
  .inl (80, [(A [(I 585952169187), (I 8578675525025)]), (A [(I 2963), (I 12500)])], (.tuple ⟨[(A [(S [49, 51, 48, 57, 55, 50, 48, 55, 48, 55, 56, 49, 57, 52, 54, 51]), (S [52, 50, 56, 57, 51, 51, 55, 55, 54, 50, 53, 49, 50, 53, 48, 48])]), (.bool true)]⟩)),
  .inl (56, [(A [(S [53, 56, 53, 57, 53, 50, 49, 54, 57, 49, 56, 55]), (S [56, 53, 55, 56, 54, 55, 53, 53, 50, 53, 48, 50, 53])]), (A [(S [50, 57, 54, 51]), (S [49, 50, 53, 48, 48])])], (.tuple ⟨[(A [(S [49, 51, 48, 57, 55, 50, 48, 55, 48, 55, 56, 49, 57, 52, 54, 51]), (S [52, 50, 56, 57, 51, 51, 55, 55, 54, 50, 53, 49, 50, 53, 48, 48])]), (I 0)]⟩))]
def T50 : Tab := pushT T49 L50
def L51 : List (Sum (FuncId × List Value × Value) KC) := [.inl (88, [(S [49, 51, 48, 57, 55, 50, 48, 55, 48, 55, 56, 49, 57, 52, 54, 51])], (.tuple ⟨[(I 1309720707819463), (.bool true)]⟩)),
  .inl (88, [(S [52, 50, 56, 57, 51, 51, 55, 55, 54, 50, 53, 49, 50, 53, 48, 48])], (.tuple ⟨[(I 4289337762512500), (.bool true)]⟩)),
  .inl (65, [(.int .u64 (.ofNat 1309720707819463)), (.int .u64 (.ofNat 4289337762512500))], (.int .u64 (.ofNat 1)))]
def T51 : Tab := pushT T50 L51
def L52 : List (Sum (FuncId × List Value × Value) KC) := [.inl (65, [(.int .u64 (.ofNat 3)), (.int .u64 (.ofNat 4289337762512500))], (.int .u64 (.ofNat 1))),
  .inl (65, [(.int .u64 (.ofNat 1309720707819463)), (.int .u64 (.ofNat 1))], (.int .u64 (.ofNat 1))),
  .inl (104, [(.int .i64 (.negSucc 2)), (I 1309720707819463)], (.tuple ⟨[(.int .i64 (.negSucc 3929162123458388)), (.bool true)]⟩)),
  .inl (104, [(I 1), (I 4289337762512500)], (.tuple ⟨[(I 4289337762512500), (.bool true)]⟩)),
  .inl (131, [(.int .i64 (.negSucc 3929162123458388)), (I 10)], (S [45, 51, 57, 50, 57, 49, 54, 50, 49, 50, 51, 52, 53, 56, 51, 56, 57])),
  .inl (93, [(A [(.int .i64 (.negSucc 2)), (I 1)]), (A [(I 1309720707819463), (I 4289337762512500)])], (.tuple ⟨[(A [(S [45, 51, 57, 50, 57, 49, 54, 50, 49, 50, 51, 52, 53, 56, 51, 56, 57]), (S [52, 50, 56, 57, 51, 51, 55, 55, 54, 50, 53, 49, 50, 53, 48, 48])]), (.bool true)]⟩))]
def T52 : Tab := pushT T51 L52
def L53 : List (Sum (FuncId × List Value × Value) KC) := [.inl (63, [(A [(S [45, 51]), (S [49])]), (A [(S [49, 51, 48, 57, 55, 50, 48, 55, 48, 55, 56, 49, 57, 52, 54, 51]), (S [52, 50, 56, 57, 51, 51, 55, 55, 54, 50, 53, 49, 50, 53, 48, 48])])], (.tuple ⟨[(A [(S [45, 51, 57, 50, 57, 49, 54, 50, 49, 50, 51, 52, 53, 56, 51, 56, 57]), (S [52, 50, 56, 57, 51, 51, 55, 55, 54, 50, 53, 49, 50, 53, 48, 48])]), (I 0)]⟩)),
  .inl (88, [(S [45, 51, 57, 50, 57, 49, 54, 50, 49, 50, 51, 52, 53, 56, 51, 56, 57])], (.tuple ⟨[(.int .i64 (.negSucc 3929162123458388)), (.bool true)]⟩)),
  .inl (65, [(.int .u64 (.ofNat 3929162123458389)), (.int .u64 (.ofNat 4289337762512500))], (.int .u64 (.ofNat 1))),
  .inl (65, [(.int .u64 (.ofNat 4289337762512500)), (.int .u64 (.ofNat 100))], (.int .u64 (.ofNat 100))),
  .inl (104, [(.int .i64 (.negSucc 3929162123458388)), (I 1)], (.tuple ⟨[(.int .i64 (.negSucc 3929162123458388)), (.bool true)]⟩)),
  .inl (104, [(I 287), (I 42893377625125)], (.tuple ⟨[(I 12310399378410875), (.bool true)]⟩))]
def T53 : Tab := pushT T52 L53
def L54 : List (Sum (FuncId × List Value × Value) KC) := [.inl (65, [(.int .u64 (.ofNat 8381237254952486)), (.int .u64 (.ofNat 100))], (.int .u64 (.ofNat 2))),
  .inl (104, [(I 42893377625125), (I 50)], (.tuple ⟨[(I 2144668881256250), (.bool true)]⟩)),
  .inl (131, [(I 4190618627476243), (I 10)], (S [52, 49, 57, 48, 54, 49, 56, 54, 50, 55, 52, 55, 54, 50, 52, 51])),
  .inl (131, [(I 2144668881256250), (I 10)], (S [50, 49, 52, 52, 54, 54, 56, 56, 56, 49, 50, 53, 54, 50, 53, 48])),
  .inl (80, [(A [(.int .i64 (.negSucc 3929162123458388)), (I 4289337762512500)]), (A [(I 287), (I 100)])], (.tuple ⟨[(A [(S [52, 49, 57, 48, 54, 49, 56, 54, 50, 55, 52, 55, 54, 50, 52, 51]), (S [50, 49, 52, 52, 54, 54, 56, 56, 56, 49, 50, 53, 54, 50, 53, 48])]), (.bool true)]⟩)),
  .inl (56, [(A [(S [45, 51, 57, 50, 57, 49, 54, 50, 49, 50, 51, 52, 53, 56, 51, 56, 57]), (S [52, 50, 56, 57, 51, 51, 55, 55, 54, 50, 53, 49, 50, 53, 48, 48])]), (A [(S [50, 56, 55]), (S [49, 48, 48])])], (.tuple ⟨[(A [(S [52, 49, 57, 48, 54, 49, 56, 54, 50, 55, 52, 55, 54, 50, 52, 51]), (S [50, 49, 52, 52, 54, 54, 56, 56, 56, 49, 50, 53, 54, 50, 53, 48])]), (I 0)]⟩)),
  .inl (88, [(S [52, 49, 57, 48, 54, 49, 56, 54, 50, 55, 52, 55, 54, 50, 52, 51])], (.tuple ⟨[(I 4190618627476243), (.bool true)]⟩))]
def T54 : Tab := pushT T53 L54
def L55 : List (Sum (FuncId × List Value × Value) KC) := [.inl (88, [(S [50, 49, 52, 52, 54, 54, 56, 56, 56, 49, 50, 53, 54, 50, 53, 48])], (.tuple ⟨[(I 2144668881256250), (.bool true)]⟩)),
  .inl (65, [(.int .u64 (.ofNat 4190618627476243)), (.int .u64 (.ofNat 2144668881256250))], (.int .u64 (.ofNat 1))),
  .inl (65, [(.int .u64 (.ofNat 4190618627476243)), (.int .u64 (.ofNat 4289337762512500))], (.int .u64 (.ofNat 1)))]
def T55 : Tab := pushT T54 L55
def L56 : List (Sum (FuncId × List Value × Value) KC) := [.inl (65, [(.int .u64 (.ofNat 1309720707819463)), (.int .u64 (.ofNat 2144668881256250))], (.int .u64 (.ofNat 1))),
  .inl (104, [(I 4190618627476243), (I 1309720707819463)], (.tuple ⟨[(I 0), (.bool false)]⟩)),
  .inl (104, [(I 2144668881256250), (I 4289337762512500)], (.tuple ⟨[(I 0), (.bool false)]⟩)),
  .inl (67, [(A [(I 0), (I 0)])], (A [(S [48]), (S [48])])),
  .inl (93, [(A [(I 4190618627476243), (I 2144668881256250)]), (A [(I 1309720707819463), (I 4289337762512500)])], (.tuple ⟨[(A [(S [48]), (S [48])]), (.bool false)]⟩)),
  .inl (112, [(.int .u64 (.ofNat 4190618627476243))], (I 16)),
  .inl (117, [(.int .u64 (.ofNat 2144668881256250)), (.int .u64 (.ofNat 2045949746219993))], (.int .u64 (.ofNat 1))),
  .inl (112, [(.int .u64 (.ofNat 1309720707819463))], (I 16)),
  .inl (117, [(.int .u64 (.ofNat 1309720707819463)), (.int .u64 (.ofNat 360175639054111))], (.int .u64 (.ofNat 1))),
  .inl (117, [(.int .u64 (.ofNat 4190618627476243)), (.int .u64 (.ofNat 98719135036257))], (.int .u64 (.ofNat 1))),
  .inl (117, [(.int .u64 (.ofNat 1309720707819463)), (.int .u64 (.ofNat 834948173436787))], (.int .u64 (.ofNat 1)))]
def T56 : Tab := pushT T55 L56
def B7 : List (Nat × List Value) := [gq 320, gq 64, gq 256, gq 0, gq 320, gq 64, gq 256, gq 0, gq 320, gq 64, gq 256, gq 0, gq 320, gq 64, gq 256, gq 0, (26112, [(.int .u64 (.ofNat 4289337762512500))]), (25792, [(.int .u64 (.ofNat 1309720707819463))]), gq 320, gq 64, gq 256, gq 0, gq 320, gq 64, gq 256, gq 0, gq 320, gq 64, gq 256, gq 0, gq 320, gq 64, gq 256, gq 0, (24768, [(.int .u64 (.ofNat 4190618627476243))]), (25088, [(.int .u64 (.ofNat 2144668881256250))]), gq 320, gq 64, gq 256, gq 0, gq 320, gq 64, gq 256, gq 0]
def B8 : List (Nat × List Value) := [gq 320, gq 64, gq 256, gq 0, gq 320, gq 64, gq 256, gq 0, gq 320, gq 64, gq 256, gq 0, gq 320, gq 64, gq 256, gq 0, gq 320, gq 64, gq 256, gq 0, gq 320, gq 64, gq 256, gq 0, gq 320, gq 64, gq 256, gq 0, gq 320, gq 64, gq 256, gq 0, gq 320, gq 64, gq 256, gq 0, gq 320, gq 64, gq 256, gq 0, gq 320, gq 64, gq 256, gq 0, gq 320, gq 64, gq 256, gq 0, (27328, [(.int .u64 (.ofNat 869925156328125000)), (.int .u64 (.ofNat 9199209220457))]), (25088, [(.int .u64 (.ofNat 2144668881256250))]), (26112, [(.int .u64 (.ofNat 4289337762512500))]), (27264, [(.int .u64 (.ofNat 611519991365517509)), (.int .u64 (.ofNat 5488539994979))]), (25792, [(.int .u64 (.ofNat 1309720707819463))]), (24768, [(.int .u64 (.ofNat 4190618627476243))]), (27200, [(.int .u64 (.ofNat 1)), (.int .u64 (.ofNat 0))]), (27136, [(.int .u64 (.ofNat 1))]), (27072, [(.int .u64 (.ofNat 1)), (.int .u64 (.ofNat 0))]), (27008, [(.int .u64 (.ofNat 1))]), (26944, [(C 27264 0 2 2), (.bool false), (C 27328 0 2 2)]), (26880, [(C 25792 0 1 1), (.bool false), (C 26112 0 1 1)]), (26816, [(C 24768 0 1 1), (.bool false), (C 25088 0 1 1)])]
def Q9 : KC := ⟨94, [(A [(C 24768 0 1 1), (.bool false), (C 25088 0 1 1)]), (A [(C 25792 0 1 1), (.bool false), (C 26112 0 1 1)])], 419, 23872, B7, (A [(C 27264 0 2 2), (.bool false), (C 27328 0 2 2)]), 428, B8, [], []⟩
def L57 : List (Sum (FuncId × List Value × Value) KC) := [.inl (123, [(.int .u64 (.ofNat 297534349316)), (.int .u64 (.ofNat 9660937550689222853)), (.int .u64 (.ofNat 1000000000000000000))], (.tuple ⟨[(.int .u64 (.ofNat 5488539994979)), (.int .u64 (.ofNat 611519991365517509))]⟩)),
  .inl (123, [(.int .u64 (.ofNat 498690131098)), (.int .u64 (.ofNat 8399054598490370632)), (.int .u64 (.ofNat 1000000000000000000))], (.tuple ⟨[(.int .u64 (.ofNat 9199209220457)), (.int .u64 (.ofNat 869925156328125000))]⟩)),
  .inr Q9,
  .inl (112, [(.int .u64 (.ofNat 5488539994979))], (I 13)),
  .inl (112, [(.int .u64 (.ofNat 9199209220457))], (I 13))]
def T57 : Tab := pushT T56 L57
def B10 : List (Nat × List Value) := [gq 320, gq 64, gq 256, gq 0, gq 320, gq 64, gq 256, gq 0, gq 320, gq 64, gq 256, gq 0, gq 320, gq 64, gq 256, gq 0, gq 320, gq 64, gq 256, gq 0, gq 320, gq 64, gq 256, gq 0, gq 320, gq 64, gq 256, gq 0, gq 320, gq 64, gq 256, gq 0, gq 320, gq 64, gq 256, gq 0, gq 320, gq 64, gq 256, gq 0, gq 320, gq 64, gq 256, gq 0, gq 320, gq 64, gq 256, gq 0, (27328, [(.int .u64 (.ofNat 869925156328125000)), (.int .u64 (.ofNat 9199209220457))]), (27264, [(.int .u64 (.ofNat 611519991365517509)), (.int .u64 (.ofNat 5488539994979))])]
def B11 : List (Nat × List Value) := [(28032, [(I 1)]), (27968, [(C 27904 0 32 32)]), (27904, [(U 0), (U 57), (U 49), (U 57), (U 57), (U 50), (U 48), (U 57), (U 50), (U 50), (U 48), (U 52), (U 53), (U 55), (U 56), (U 54), (U 57), (U 57), (U 50), (U 53), (U 49), (U 53), (U 54), (U 51), (U 50), (U 56), (U 49), (U 50), (U 53), (U 48), (U 48), (U 48)]), gq 320, gq 64, gq 256, gq 0, (27328, [(.int .u64 (.ofNat 869925156328125000)), (.int .u64 (.ofNat 9199209220457))]), (27840, [(C 27328 0 2 2), (.bool false)]), (27776, [(C 27328 0 2 2), (.bool false)]), (27712, [(I 1)]), (27648, [(C 27584 0 32 32)]), (27584, [(U 0), (U 53), (U 52), (U 56), (U 56), (U 53), (U 51), (U 57), (U 57), (U 57), (U 52), (U 57), (U 55), (U 57), (U 54), (U 49), (U 49), (U 53), (U 49), (U 57), (U 57), (U 57), (U 49), (U 51), (U 54), (U 53), (U 53), (U 49), (U 55), (U 53), (U 48), (U 57)]), (27264, [(.int .u64 (.ofNat 611519991365517509)), (.int .u64 (.ofNat 5488539994979))]), (27520, [(C 27264 0 2 2), (.bool false)]), (27456, [(S [53, 52, 56, 56, 53, 51, 57, 57, 57, 52, 57, 55, 57, 54, 49, 49, 53, 49, 57, 57, 57, 49, 51, 54, 53, 53, 49, 55, 53, 48, 57]), (S [57, 49, 57, 57, 50, 48, 57, 50, 50, 48, 52, 53, 55, 56, 54, 57, 57, 50, 53, 49, 53, 54, 51, 50, 56, 49, 50, 53, 48, 48, 48])]), (27392, [(C 27264 0 2 2), (.bool false), (C 27328 0 2 2)])]
def Q12 : KC := ⟨71, [(A [(C 27264 0 2 2), (.bool false), (C 27328 0 2 2)])], 428, 23872, B10, (.tuple ⟨[(A [(S [53, 52, 56, 56, 53, 51, 57, 57, 57, 52, 57, 55, 57, 54, 49, 49, 53, 49, 57, 57, 57, 49, 51, 54, 53, 53, 49, 55, 53, 48, 57]), (S [57, 49, 57, 57, 50, 48, 57, 50, 50, 48, 52, 53, 55, 56, 54, 57, 57, 50, 53, 49, 53, 54, 51, 50, 56, 49, 50, 53, 48, 48, 48])]), (I 0)]⟩), 439, B11, [], []⟩
def L58 : List (Sum (FuncId × List Value × Value) KC) := [.inr Q12]
def T58 : Tab := pushT T57 L58
def B13 : List (Nat × List Value) := [(23808, [(.func (.func 94) ⟨[]⟩ ⟨[]⟩)]), gq 320, gq 64, gq 256, gq 0, gq 320, gq 64, gq 256, gq 0]
def B14 : List (Nat × List Value) := [gq 320, gq 64, gq 256, gq 0, (25088, [(.int .u64 (.ofNat 2144668881256250))]), (26112, [(.int .u64 (.ofNat 4289337762512500))]), (25792, [(.int .u64 (.ofNat 1309720707819463))]), (24768, [(.int .u64 (.ofNat 4190618627476243))]), (23808, [(.func (.func 94) ⟨[]⟩ ⟨[]⟩)]), (26560, [(C 25792 0 1 1), (.bool false), (C 26112 0 1 1)]), (26496, [(.int .u64 (.ofNat 1)), (.int .u64 (.ofNat 0))]), (26432, [(.int .u64 (.ofNat 3))]), (26368, [(C 26112 0 1 1), (.bool false)]), (26304, [(C 26112 0 1 1), (.bool false)]), (26240, [(C 26112 0 1 1), (.bool false)]), (26176, [(.int .u64 (.ofNat 4289337762512500))]), (26048, [(C 26112 0 1 1), (.bool false)]), (25984, [(C 25792 0 1 1), (.bool false)]), (25920, [(C 25792 0 1 1), (.bool false)]), (25856, [(.int .u64 (.ofNat 1309720707819463))]), (25728, [(C 25792 0 1 1), (.bool false)]), (25664, [(C 25792 0 1 1), (.bool false), (C 26112 0 1 1)]), (25600, [(S [49, 51, 48, 57, 55, 50, 48, 55, 48, 55, 56, 49, 57, 52, 54, 51]), (S [52, 50, 56, 57, 51, 51, 55, 55, 54, 50, 53, 49, 50, 53, 48, 48])]), (25536, [(C 24768 0 1 1), (.bool false), (C 25088 0 1 1)]), (25472, [(.int .u64 (.ofNat 1)), (.int .u64 (.ofNat 0))]), (25408, [(.int .u64 (.ofNat 1))]), (25344, [(C 25088 0 1 1), (.bool false)]), (25280, [(C 25088 0 1 1), (.bool false)]), (25216, [(C 25088 0 1 1), (.bool false)]), (25152, [(.int .u64 (.ofNat 2144668881256250))]), (25024, [(C 25088 0 1 1), (.bool false)]), (24960, [(C 24768 0 1 1), (.bool false)]), (24896, [(C 24768 0 1 1), (.bool false)]), (24832, [(.int .u64 (.ofNat 4190618627476243))]), (24704, [(C 24768 0 1 1), (.bool false)]), (24640, [(C 24768 0 1 1), (.bool false), (C 25088 0 1 1)]), (24576, [(S [52, 49, 57, 48, 54, 49, 56, 54, 50, 55, 52, 55, 54, 50, 52, 51]), (S [50, 49, 52, 52, 54, 54, 56, 56, 56, 49, 50, 53, 54, 50, 53, 48])]), (24512, [(S [48]), (S [48])]), (24448, [(I 1309720707819463), (I 4289337762512500)]), (24256, [(I 4190618627476243), (I 2144668881256250)]), (24064, [(S []), (S [])]), (24000, [(S [53, 52, 56, 56, 53, 51, 57, 57, 57, 52, 57, 55, 57, 54, 49, 49, 53, 49, 57, 57, 57, 49, 51, 54, 53, 53, 49, 55, 53, 48, 57]), (S [57, 49, 57, 57, 50, 48, 57, 50, 50, 48, 52, 53, 55, 56, 54, 57, 57, 50, 53, 49, 53, 54, 51, 50, 56, 49, 50, 53, 48, 48, 48])]), (23936, [(S [49, 51, 48, 57, 55, 50, 48, 55, 48, 55, 56, 49, 57, 52, 54, 51]), (S [52, 50, 56, 57, 51, 51, 55, 55, 54, 50, 53, 49, 50, 53, 48, 48])]), (23872, [(S [52, 49, 57, 48, 54, 49, 56, 54, 50, 55, 52, 55, 54, 50, 52, 51]), (S [50, 49, 52, 52, 54, 54, 56, 56, 56, 49, 50, 53, 54, 50, 53, 48])])]
def Q15 : KC := ⟨79, [(A [(S [52, 49, 57, 48, 54, 49, 56, 54, 50, 55, 52, 55, 54, 50, 52, 51]), (S [50, 49, 52, 52, 54, 54, 56, 56, 56, 49, 50, 53, 54, 50, 53, 48])]), (A [(S [49, 51, 48, 57, 55, 50, 48, 55, 48, 55, 56, 49, 57, 52, 54, 51]), (S [52, 50, 56, 57, 51, 51, 55, 55, 54, 50, 53, 49, 50, 53, 48, 48])]), (.func (.func 93) ⟨[]⟩ ⟨[]⟩), (.func (.func 106) ⟨[]⟩ ⟨[(Z 23808 0)]⟩)], 373, 23872, B13, (.tuple ⟨[(A [(S [53, 52, 56, 56, 53, 51, 57, 57, 57, 52, 57, 55, 57, 54, 49, 49, 53, 49, 57, 57, 57, 49, 51, 54, 53, 53, 49, 55, 53, 48, 57]), (S [57, 49, 57, 57, 50, 48, 57, 50, 50, 48, 52, 53, 55, 56, 54, 57, 57, 50, 53, 49, 53, 54, 51, 50, 56, 49, 50, 53, 48, 48, 48])]), (I 0)]⟩), 439, B14, [], []⟩
def L59 : List (Sum (FuncId × List Value × Value) KC) := [.inr Q15]
def T59 : Tab := pushT T58 L59
def L60 : List (Sum (FuncId × List Value × Value) KC) := [.inl (61, [(A [(S [53, 52, 56, 56, 53, 51, 57, 57, 57, 52, 57, 55, 57, 54, 49, 49, 53, 49, 57, 57, 57, 49, 51, 54, 53, 53, 49, 55, 53, 48, 57]), (S [57, 49, 57, 57, 50, 48, 57, 50, 50, 48, 52, 53, 55, 56, 54, 57, 57, 50, 53, 49, 53, 54, 51, 50, 56, 49, 50, 53, 48, 48, 48])])], (.tuple ⟨[(A [(I 0), (I 0)]), (.bool false)]⟩)),
  .inl (128, [(I 13)], (.int .u64 (.ofNat 10000000000000))),
  .inl (113, [(I 919920922045786992), (I 548853999497961151)], (.tuple ⟨[(I 79271565), (.int .i64 (.negSucc 132865153)), (.int .i64 (.negSucc 92590320)), (I 155188399)]⟩)),
  .inl (123, [(.int .u64 (.ofNat 3738346)), (.int .u64 (.ofNat 16654024314820157864)), (.int .u64 (.ofNat 1000000000000000000))], (.tuple ⟨[(.int .u64 (.ofNat 68960328)), (.int .u64 (.ofNat 575000122265625000))]⟩)),
  .inl (123, [(.int .u64 (.ofNat 4404554)), (.int .u64 (.ofNat 17430024453714522122)), (.int .u64 (.ofNat 1000000000000000000))], (.tuple ⟨[(.int .u64 (.ofNat 81249697)), (.int .u64 (.ofNat 826858154122981386))]⟩)),
  .inl (123, [(.int .u64 (.ofNat 39)), (.int .u64 (.ofNat 9812692793452852509)), (.int .u64 (.ofNat 1000000000000000000))], (.tuple ⟨[(.int .u64 (.ofNat 729)), (.int .u64 (.ofNat 235711668125365533))]⟩)),
  .inl (123, [(.int .u64 (.ofNat 39)), (.int .u64 (.ofNat 9812692793452798439)), (.int .u64 (.ofNat 1000000000000000000))], (.tuple ⟨[(.int .u64 (.ofNat 729)), (.int .u64 (.ofNat 235711668125311463))]⟩))]
def T60 : Tab := pushT T59 L60
def B16 : List (Nat × List Value) := [(29760, [(.int .u64 (.ofNat 869925156328125000)), (.int .u64 (.ofNat 9199209220457))]), gq 320, gq 64, gq 256, gq 0, gq 320, gq 64, gq 256, gq 0, gq 320, gq 64, gq 256, gq 0, (29376, [(.int .u64 (.ofNat 611519991365517509)), (.int .u64 (.ofNat 5488539994979))])]
def B17 : List (Nat × List Value) := [gq 320, gq 64, gq 256, gq 0, gq 320, gq 64, gq 256, gq 0, gq 320, gq 64, gq 256, gq 0, (30144, [(.int .u64 (.ofNat 748141968142643614)), (.int .u64 (.ofNat 54069)), (.int .u64 (.ofNat 0))]), (29376, [(.int .u64 (.ofNat 611519991365517509)), (.int .u64 (.ofNat 5488539994979))]), (29760, [(.int .u64 (.ofNat 869925156328125000)), (.int .u64 (.ofNat 9199209220457))])]
def Q18 : KC := ⟨115, [(C 29760 0 2 2), (C 29376 0 2 2), (I 79271565), (.int .i64 (.negSucc 132865153))], 471, 29184, B16, (C 30144 0 2 2), 472, B17, [], []⟩
def B19 : List (Nat × List Value) := [gq 320, gq 64, gq 256, gq 0, gq 320, gq 64, gq 256, gq 0, gq 320, gq 64, gq 256, gq 0, (29376, [(.int .u64 (.ofNat 611519991365517509)), (.int .u64 (.ofNat 5488539994979))]), (29760, [(.int .u64 (.ofNat 869925156328125000)), (.int .u64 (.ofNat 9199209220457))])]
def B20 : List (Nat × List Value) := [gq 320, gq 64, gq 256, gq 0, gq 320, gq 64, gq 256, gq 0, gq 320, gq 64, gq 256, gq 0, (30208, [(.int .u64 (.ofNat 946112210950053091)), (.int .u64 (.ofNat 6082)), (.int .u64 (.ofNat 0))]), (29760, [(.int .u64 (.ofNat 869925156328125000)), (.int .u64 (.ofNat 9199209220457))]), (29376, [(.int .u64 (.ofNat 611519991365517509)), (.int .u64 (.ofNat 5488539994979))])]
def Q21 : KC := ⟨115, [(C 29760 0 2 2), (C 29376 0 2 2), (.int .i64 (.negSucc 92590320)), (I 155188399)], 472, 29184, B19, (C 30208 0 2 2), 473, B20, [], []⟩
def L61 : List (Sum (FuncId × List Value × Value) KC) := [.inr Q18,
  .inl (123, [(.int .u64 (.ofNat 5144583)), (.int .u64 (.ofNat 2449551579846881963)), (.int .u64 (.ofNat 1000000000000000000))], (.tuple ⟨[(.int .u64 (.ofNat 94900808)), (.int .u64 (.ofNat 416508486028178091))]⟩)),
  .inl (123, [(.int .u64 (.ofNat 4366442)), (.int .u64 (.ofNat 11383699793100854728)), (.int .u64 (.ofNat 1000000000000000000))], (.tuple ⟨[(.int .u64 (.ofNat 80546649)), (.int .u64 (.ofNat 470396275078125000))]⟩)),
  .inl (123, [(.int .u64 (.ofNat 46)), (.int .u64 (.ofNat 3207507277714575093)), (.int .u64 (.ofNat 1000000000000000000))], (.tuple ⟨[(.int .u64 (.ofNat 851)), (.int .u64 (.ofNat 757734668353949429))]⟩)),
  .inl (123, [(.int .u64 (.ofNat 46)), (.int .u64 (.ofNat 3207507277714569010)), (.int .u64 (.ofNat 1000000000000000000))], (.tuple ⟨[(.int .u64 (.ofNat 851)), (.int .u64 (.ofNat 757734668353943346))]⟩)),
  .inr Q21]
def T61 : Tab := pushT T60 L61
def B22 : List (Nat × List Value) := [gq 320, gq 64, gq 256, gq 0, gq 320, gq 64, gq 256, gq 0, gq 320, gq 64, gq 256, gq 0, (30144, [(.int .u64 (.ofNat 748141968142643614)), (.int .u64 (.ofNat 54069)), (.int .u64 (.ofNat 0))]), (30208, [(.int .u64 (.ofNat 946112210950053091)), (.int .u64 (.ofNat 6082)), (.int .u64 (.ofNat 0))])]
def B23 : List (Nat × List Value) := [gq 320, gq 64, gq 256, gq 0, gq 320, gq 64, gq 256, gq 0, gq 320, gq 64, gq 256, gq 0, (30272, [(.int .u64 (.ofNat 1469015713320539)), (.int .u64 (.ofNat 0)), (.int .u64 (.ofNat 0))]), (30208, [(.int .u64 (.ofNat 946112210950053091)), (.int .u64 (.ofNat 6082)), (.int .u64 (.ofNat 0))]), (30144, [(.int .u64 (.ofNat 748141968142643614)), (.int .u64 (.ofNat 54069)), (.int .u64 (.ofNat 0))])]
def Q24 : KC := ⟨115, [(C 30144 0 2 2), (C 30208 0 2 2), (I 788305), (.int .i64 (.negSucc 7007040))], 473, 29184, B22, (C 30272 0 1 1), 474, B23, [], []⟩
def L62 : List (Sum (FuncId × List Value × Value) KC) := [.inl (113, [(I 540697481419681426), (I 60829461122109500)], (.tuple ⟨[(I 788305), (.int .i64 (.negSucc 7007040)), (.int .i64 (.negSucc 4135733)), (I 36761479)]⟩)),
  .inl (123, [(.int .u64 (.ofNat 31971)), (.int .u64 (.ofNat 3199416118599419134)), (.int .u64 (.ofNat 1000000000000000000))], (.tuple ⟨[(.int .u64 (.ofNat 589764)), (.int .u64 (.ofNat 54196686674134270))]⟩)),
  .inl (123, [(.int .u64 (.ofNat 359383)), (.int .u64 (.ofNat 827285711172400803)), (.int .u64 (.ofNat 1000000000000000000))], (.tuple ⟨[(.int .u64 (.ofNat 6629447)), (.int .u64 (.ofNat 52727670960813731))]⟩)),
  .inr Q24,
  .inl (123, [(.int .u64 (.ofNat 1885453)), (.int .u64 (.ofNat 15220476051530639541)), (.int .u64 (.ofNat 1000000000000000000))], (.tuple ⟨[(.int .u64 (.ofNat 34780484)), (.int .u64 (.ofNat 174483946753681589))]⟩)),
  .inl (123, [(.int .u64 (.ofNat 167732)), (.int .u64 (.ofNat 6897502997532647764)), (.int .u64 (.ofNat 1000000000000000000))], (.tuple ⟨[(.int .u64 (.ofNat 3094116)), (.int .u64 (.ofNat 174474448044302676))]⟩))]
def T62 : Tab := pushT T61 L62
def B25 : List (Nat × List Value) := [gq 320, gq 64, gq 256, gq 0, gq 320, gq 64, gq 256, gq 0, gq 320, gq 64, gq 256, gq 0, (30208, [(.int .u64 (.ofNat 946112210950053091)), (.int .u64 (.ofNat 6082)), (.int .u64 (.ofNat 0))]), (30144, [(.int .u64 (.ofNat 748141968142643614)), (.int .u64 (.ofNat 54069)), (.int .u64 (.ofNat 0))])]
def B26 : List (Nat × List Value) := [gq 320, gq 64, gq 256, gq 0, gq 320, gq 64, gq 256, gq 0, gq 320, gq 64, gq 256, gq 0, (30336, [(.int .u64 (.ofNat 9498709378913)), (.int .u64 (.ofNat 0)), (.int .u64 (.ofNat 0))]), (30144, [(.int .u64 (.ofNat 748141968142643614)), (.int .u64 (.ofNat 54069)), (.int .u64 (.ofNat 0))]), (30208, [(.int .u64 (.ofNat 946112210950053091)), (.int .u64 (.ofNat 6082)), (.int .u64 (.ofNat 0))])]
def Q27 : KC := ⟨115, [(C 30144 0 2 2), (C 30208 0 2 2), (.int .i64 (.negSucc 4135733)), (I 36761479)], 474, 29184, B25, (C 30336 0 1 1), 475, B26, [], []⟩
def L63 : List (Sum (FuncId × List Value × Value) KC) := [.inr Q27,
  .inl (117, [(.int .u64 (.ofNat 9498709378913)), (.int .u64 (.ofNat 6214468967937))], (.int .u64 (.ofNat 1))),
  .inl (123, [(.int .u64 (.ofNat 1)), (.int .u64 (.ofNat 15250546499665731518)), (.int .u64 (.ofNat 40))], (.tuple ⟨[(.int .u64 (.ofNat 842432264334382078)), (.int .u64 (.ofNat 14))]⟩))]
def T63 : Tab := pushT T62 L63
def B28 : List (Nat × List Value) := [gq 320, gq 64, gq 256, gq 0, gq 320, gq 64, gq 256, gq 0, gq 320, gq 64, gq 256, gq 0, gq 320, gq 64, gq 256, gq 0, (31104, [(.int .u64 (.ofNat 40))]), (30784, [(.int .u64 (.ofNat 11))]), gq 320, gq 64, gq 256, gq 0, gq 320, gq 64, gq 256, gq 0, gq 320, gq 64, gq 256, gq 0, gq 320, gq 64, gq 256, gq 0, (29760, [(.int .u64 (.ofNat 869925156328125000)), (.int .u64 (.ofNat 9199209220457))]), (29376, [(.int .u64 (.ofNat 611519991365517509)), (.int .u64 (.ofNat 5488539994979))]), gq 320, gq 64, gq 256, gq 0, gq 320, gq 64, gq 256, gq 0]
def B29 : List (Nat × List Value) := [gq 320, gq 64, gq 256, gq 0, gq 320, gq 64, gq 256, gq 0, gq 320, gq 64, gq 256, gq 0, gq 320, gq 64, gq 256, gq 0, (33920, [(.int .u64 (.ofNat 934962578164062500)), (.int .u64 (.ofNat 4599604610228)), (.int .u64 (.ofNat 0))]), (33792, [(.int .u64 (.ofNat 20))]), (32128, [(.int .u64 (.ofNat 446748128908203125)), (.int .u64 (.ofNat 229980230511))]), (33664, [(.int .u64 (.ofNat 848645286687641567)), (.int .u64 (.ofNat 1479378729676))]), (33472, [(C 33664 0 2 2), (.bool false)]), (31936, [(C 33664 0 2 2), (.bool false), (C 33920 0 2 2)]), (33856, [(.int .u64 (.ofNat 0)), (.int .u64 (.ofNat 0))]), (31104, [(.int .u64 (.ofNat 40))]), (33600, [(.int .u64 (.ofNat 2)), (.int .u64 (.ofNat 0))]), (33728, [(.int .u64 (.ofNat 0)), (.int .u64 (.ofNat 0))]), (33344, [(.int .u64 (.ofNat 697290573375283134)), (.int .u64 (.ofNat 2958757459353))]), (33536, [(.int .u64 (.ofNat 842432264334382078)), (.int .u64 (.ofNat 73968936483))]), (32064, [(.int .u64 (.ofNat 40)), (.int .u64 (.ofNat 0))]), (33024, [(.int .u64 (.ofNat 914229417990234375)), (.int .u64 (.ofNat 2529782535625)), (.int .u64 (.ofNat 0))]), (32640, [(.int .u64 (.ofNat 611519991365517509)), (.int .u64 (.ofNat 5488539994979)), (.int .u64 (.ofNat 0))]), (30784, [(.int .u64 (.ofNat 11))]), (32256, [(.int .u64 (.ofNat 1))]), (29376, [(.int .u64 (.ofNat 611519991365517509)), (.int .u64 (.ofNat 5488539994979))]), (29760, [(.int .u64 (.ofNat 869925156328125000)), (.int .u64 (.ofNat 9199209220457))]), (31872, [(C 30784 0 1 1), (.bool true), (C 31104 0 1 1)]), (31808, [(C 29376 0 2 2), (.bool false), (C 29760 0 2 2)]), (32320, [(.int .u64 (.ofNat 0)), (.int .u64 (.ofNat 0))]), (32192, [(.int .u64 (.ofNat 0)), (.int .u64 (.ofNat 0))]), (32000, [(.int .u64 (.ofNat 446748128908203125)), (.int .u64 (.ofNat 229980230511))])]
def Q30 : KC := ⟨82, [(A [(C 29376 0 2 2), (.bool false), (C 29760 0 2 2)]), (A [(C 30784 0 1 1), (.bool true), (C 31104 0 1 1)])], 497, 28672, B28, (A [(C 33664 0 2 2), (.bool false), (C 33920 0 2 2)]), 531, B29, [], []⟩
def L64 : List (Sum (FuncId × List Value × Value) KC) := [.inr Q30]
def T64 : Tab := pushT T63 L64
def B31 : List (Nat × List Value) := [gq 320, gq 64, gq 256, gq 0, gq 320, gq 64, gq 256, gq 0, gq 320, gq 64, gq 256, gq 0, gq 320, gq 64, gq 256, gq 0, (33920, [(.int .u64 (.ofNat 934962578164062500)), (.int .u64 (.ofNat 4599604610228)), (.int .u64 (.ofNat 0))]), (33664, [(.int .u64 (.ofNat 848645286687641567)), (.int .u64 (.ofNat 1479378729676))])]
def B32 : List (Nat × List Value) := [(34624, [(I 1)]), (34560, [(C 34496 0 32 32)]), (34496, [(U 0), (U 52), (U 53), (U 57), (U 57), (U 54), (U 48), (U 52), (U 54), (U 49), (U 48), (U 50), (U 50), (U 56), (U 57), (U 51), (U 52), (U 57), (U 54), (U 50), (U 53), (U 55), (U 56), (U 49), (U 54), (U 52), (U 48), (U 54), (U 50), (U 53), (U 48), (U 48)]), gq 320, gq 64, gq 256, gq 0, (33920, [(.int .u64 (.ofNat 934962578164062500)), (.int .u64 (.ofNat 4599604610228)), (.int .u64 (.ofNat 0))]), (34432, [(C 33920 0 2 2), (.bool false)]), (34368, [(C 33920 0 2 2), (.bool false)]), (34304, [(I 1)]), (34240, [(C 34176 0 32 32)]), (34176, [(U 0), (U 49), (U 52), (U 55), (U 57), (U 51), (U 55), (U 56), (U 55), (U 50), (U 57), (U 54), (U 55), (U 54), (U 56), (U 52), (U 56), (U 54), (U 52), (U 53), (U 50), (U 56), (U 54), (U 54), (U 56), (U 55), (U 54), (U 52), (U 49), (U 53), (U 54), (U 55)]), (33664, [(.int .u64 (.ofNat 848645286687641567)), (.int .u64 (.ofNat 1479378729676))]), (34112, [(C 33664 0 2 2), (.bool false)]), (34048, [(S [49, 52, 55, 57, 51, 55, 56, 55, 50, 57, 54, 55, 54, 56, 52, 56, 54, 52, 53, 50, 56, 54, 54, 56, 55, 54, 52, 49, 53, 54, 55]), (S [52, 53, 57, 57, 54, 48, 52, 54, 49, 48, 50, 50, 56, 57, 51, 52, 57, 54, 50, 53, 55, 56, 49, 54, 52, 48, 54, 50, 53, 48, 48])]), (33984, [(C 33664 0 2 2), (.bool false), (C 33920 0 2 2)])]
def Q33 : KC := ⟨71, [(A [(C 33664 0 2 2), (.bool false), (C 33920 0 2 2)])], 531, 28672, B31, (.tuple ⟨[(A [(S [49, 52, 55, 57, 51, 55, 56, 55, 50, 57, 54, 55, 54, 56, 52, 56, 54, 52, 53, 50, 56, 54, 54, 56, 55, 54, 52, 49, 53, 54, 55]), (S [52, 53, 57, 57, 54, 48, 52, 54, 49, 48, 50, 50, 56, 57, 51, 52, 57, 54, 50, 53, 55, 56, 49, 54, 52, 48, 54, 50, 53, 48, 48])]), (I 0)]⟩), 542, B32, [], []⟩
def L65 : List (Sum (FuncId × List Value × Value) KC) := [.inl (112, [(.int .u64 (.ofNat 1479378729676))], (I 13)),
  .inl (112, [(.int .u64 (.ofNat 4599604610228))], (I 13)),
  .inr Q33]
def T65 : Tab := pushT T64 L65
def B34 : List (Nat × List Value) := [(28608, [(.func (.func 82) ⟨[]⟩ ⟨[]⟩)]), gq 320, gq 64, gq 256, gq 0, gq 320, gq 64, gq 256, gq 0]
def B35 : List (Nat × List Value) := [gq 320, gq 64, gq 256, gq 0, (31104, [(.int .u64 (.ofNat 40))]), (30784, [(.int .u64 (.ofNat 11))]), (29376, [(.int .u64 (.ofNat 611519991365517509)), (.int .u64 (.ofNat 5488539994979))]), (29760, [(.int .u64 (.ofNat 869925156328125000)), (.int .u64 (.ofNat 9199209220457))]), (28608, [(.func (.func 82) ⟨[]⟩ ⟨[]⟩)]), (31552, [(C 30784 0 1 1), (.bool true), (C 31104 0 1 1)]), (31488, [(.int .u64 (.ofNat 1)), (.int .u64 (.ofNat 0))]), (31424, [(.int .u64 (.ofNat 3))]), (31360, [(C 31104 0 1 1), (.bool false)]), (31296, [(C 31104 0 1 1), (.bool false)]), (31232, [(C 31104 0 1 1), (.bool false)]), (31168, [(.int .u64 (.ofNat 40))]), (31040, [(C 31104 0 1 1), (.bool false)]), (30976, [(C 30784 0 1 1), (.bool true)]), (30912, [(C 30784 0 1 1), (.bool true)]), (30848, [(.int .u64 (.ofNat 11))]), (30720, [(C 30784 0 1 1), (.bool true)]), (30656, [(C 30784 0 1 1), (.bool true), (C 31104 0 1 1)]), (30592, [(S [45, 49, 49]), (S [52, 48])]), (30528, [(C 29376 0 2 2), (.bool false), (C 29760 0 2 2)]), (30464, [(.int .u64 (.ofNat 1)), (.int .u64 (.ofNat 0))]), (30400, [(.int .u64 (.ofNat 154))]), (30272, [(.int .u64 (.ofNat 1469015713320539)), (.int .u64 (.ofNat 0)), (.int .u64 (.ofNat 0))]), (30336, [(.int .u64 (.ofNat 9498709378913)), (.int .u64 (.ofNat 0)), (.int .u64 (.ofNat 0))]), (30144, [(.int .u64 (.ofNat 748141968142643614)), (.int .u64 (.ofNat 54069)), (.int .u64 (.ofNat 0))]), (30208, [(.int .u64 (.ofNat 946112210950053091)), (.int .u64 (.ofNat 6082)), (.int .u64 (.ofNat 0))]), (30080, [(C 29760 0 2 2), (.bool false)]), (30016, [(C 29760 0 2 2), (.bool false)]), (29952, [(C 29760 0 2 2), (.bool false)]), (29888, [(.int .u64 (.ofNat 9199209220457))]), (29824, [(.int .u64 (.ofNat 869925156328125000))]), (29696, [(C 29760 0 2 2), (.bool false)]), (29632, [(C 29376 0 2 2), (.bool false)]), (29568, [(C 29376 0 2 2), (.bool false)]), (29504, [(.int .u64 (.ofNat 5488539994979))]), (29440, [(.int .u64 (.ofNat 611519991365517509))]), (29312, [(C 29376 0 2 2), (.bool false)]), (29248, [(C 29376 0 2 2), (.bool false), (C 29760 0 2 2)]), (29184, [(S [53, 52, 56, 56, 53, 51, 57, 57, 57, 52, 57, 55, 57, 54, 49, 49, 53, 49, 57, 57, 57, 49, 51, 54, 53, 53, 49, 55, 53, 48, 57]), (S [57, 49, 57, 57, 50, 48, 57, 50, 50, 48, 52, 53, 55, 56, 54, 57, 57, 50, 53, 49, 53, 54, 51, 50, 56, 49, 50, 53, 48, 48, 48])]), (29120, [(.int .i64 (.negSucc 10)), (I 40)]), (28928, [(I 0), (I 0)]), (28864, [(S []), (S [])]), (28800, [(S [49, 52, 55, 57, 51, 55, 56, 55, 50, 57, 54, 55, 54, 56, 52, 56, 54, 52, 53, 50, 56, 54, 54, 56, 55, 54, 52, 49, 53, 54, 55]), (S [52, 53, 57, 57, 54, 48, 52, 54, 49, 48, 50, 50, 56, 57, 51, 52, 57, 54, 50, 53, 55, 56, 49, 54, 52, 48, 54, 50, 53, 48, 48])]), (28736, [(S [45, 49, 49]), (S [52, 48])]), (28672, [(S [53, 52, 56, 56, 53, 51, 57, 57, 57, 52, 57, 55, 57, 54, 49, 49, 53, 49, 57, 57, 57, 49, 51, 54, 53, 53, 49, 55, 53, 48, 57]), (S [57, 49, 57, 57, 50, 48, 57, 50, 50, 48, 52, 53, 55, 56, 54, 57, 57, 50, 53, 49, 53, 54, 51, 50, 56, 49, 50, 53, 48, 48, 48])])]
def Q36 : KC := ⟨79, [(A [(S [53, 52, 56, 56, 53, 51, 57, 57, 57, 52, 57, 55, 57, 54, 49, 49, 53, 49, 57, 57, 57, 49, 51, 54, 53, 53, 49, 55, 53, 48, 57]), (S [57, 49, 57, 57, 50, 48, 57, 50, 50, 48, 52, 53, 55, 56, 54, 57, 57, 50, 53, 49, 53, 54, 51, 50, 56, 49, 50, 53, 48, 48, 48])]), (A [(S [45, 49, 49]), (S [52, 48])]), (.func (.func 80) ⟨[]⟩ ⟨[]⟩), (.func (.func 106) ⟨[]⟩ ⟨[(Z 28608 0)]⟩)], 448, 28672, B34, (.tuple ⟨[(A [(S [49, 52, 55, 57, 51, 55, 56, 55, 50, 57, 54, 55, 54, 56, 52, 56, 54, 52, 53, 50, 56, 54, 54, 56, 55, 54, 52, 49, 53, 54, 55]), (S [52, 53, 57, 57, 54, 48, 52, 54, 49, 48, 50, 50, 56, 57, 51, 52, 57, 54, 50, 53, 55, 56, 49, 54, 52, 48, 54, 50, 53, 48, 48])]), (I 0)]⟩), 542, B35, [], []⟩
def L66 : List (Sum (FuncId × List Value × Value) KC) := [.inr Q36]
def T66 : Tab := pushT T65 L66
def B37 : List (Nat × List Value) := [(13312, [(I 7001)]), gq 320, gq 64, gq 256, gq 0]
def B38 : List (Nat × List Value) := [gq 320, gq 64, gq 256, gq 0, (22400, [(S [45, 51]), (S [49]), (S [50, 56, 55]), (S [49, 48, 48]), (S [45, 49, 49]), (S [52, 48])]), (17728, [(S [49, 51, 48, 57, 55, 50, 48, 55, 48, 55, 56, 49, 57, 52, 54, 51]), (S [52, 50, 56, 57, 51, 51, 55, 55, 54, 50, 53, 49, 50, 53, 48, 48])]), (13632, [(S [49, 51, 48, 57, 55, 50, 48, 55, 48, 55, 56, 49, 57, 52, 54, 51]), (S [52, 50, 56, 57, 51, 51, 55, 55, 54, 50, 53, 49, 50, 53, 48, 48]), (S [49, 52, 55, 57, 51, 55, 56, 55, 50, 57, 54, 55, 54, 56, 52, 56, 54, 52, 53, 50, 56, 54, 54, 56, 55, 54, 52, 49, 53, 54, 55]), (S [52, 53, 57, 57, 54, 48, 52, 54, 49, 48, 50, 50, 56, 57, 51, 52, 57, 54, 50, 53, 55, 56, 49, 54, 52, 48, 54, 50, 53, 48, 48])]), (19072, [(S [45, 50, 48, 48, 54, 52, 48, 48, 48, 48, 48]), (S [49]), (S [49, 57, 48, 49, 56, 48, 48]), (S [49]), (S [54, 49, 56, 55]), (S [50, 53]), (S [50, 57, 54, 51]), (S [49, 50, 53, 48, 48])]), (14016, [(S [49]), (S [55, 48, 48, 49])]), (15360, [(S [45, 52, 54, 48, 55, 48, 48, 48, 48, 48, 48]), (S [49]), (S [50, 57, 54, 55, 56, 48, 48]), (S [49]), (S [57, 57, 49, 49]), (S [49, 48, 48]), (S [50, 52, 52, 48, 54, 51]), (S [49, 48, 48, 48, 48, 48, 48])]), (13312, [(I 7001)])]
def Q39 : KC := ⟨33, [(Z 13312 0)], 213, 13312, B37, (A [(S [49, 51, 48, 57, 55, 50, 48, 55, 48, 55, 56, 49, 57, 52, 54, 51]), (S [52, 50, 56, 57, 51, 51, 55, 55, 54, 50, 53, 49, 50, 53, 48, 48]), (S [49, 52, 55, 57, 51, 55, 56, 55, 50, 57, 54, 55, 54, 56, 52, 56, 54, 52, 53, 50, 56, 54, 54, 56, 55, 54, 52, 49, 53, 54, 55]), (S [52, 53, 57, 57, 54, 48, 52, 54, 49, 48, 50, 50, 56, 57, 51, 52, 57, 54, 50, 53, 55, 56, 49, 54, 52, 48, 54, 50, 53, 48, 48])]), 544, B38, [], []⟩
def L67 : List (Sum (FuncId × List Value × Value) KC) := [.inr Q39,
  .inl (65, [(.int .u64 (.ofNat 1)), (.int .u64 (.ofNat 25000))], (.int .u64 (.ofNat 1))),
  .inl (131, [(I 25000), (I 10)], (S [50, 53, 48, 48, 48])),
  .inl (45, [(I 1), (I 25000)], (.tuple ⟨[(A [(S [49]), (S [50, 53, 48, 48, 48])]), (.bool true)]⟩)),
  .inl (88, [(S [50, 53, 48, 48, 48])], (.tuple ⟨[(I 25000), (.bool true)]⟩)),
  .inl (61, [(A [(S [49]), (S [50, 53, 48, 48, 48])])], (.tuple ⟨[(A [(I 1), (I 25000)]), (.bool true)]⟩)),
  .inl (65, [(.int .u64 (.ofNat 4607000000)), (.int .u64 (.ofNat 25000))], (.int .u64 (.ofNat 25000))),
  .inl (104, [(.int .i64 (.negSucc 184279)), (I 1)], (.tuple ⟨[(.int .i64 (.negSucc 184279)), (.bool true)]⟩))]
def T67 : Tab := pushT T66 L67
def L68 : List (Sum (FuncId × List Value × Value) KC) := [.inl (131, [(.int .i64 (.negSucc 184279)), (I 10)], (S [45, 49, 56, 52, 50, 56, 48])),
  .inl (93, [(A [(.int .i64 (.negSucc 4606999999)), (I 1)]), (A [(I 1), (I 25000)])], (.tuple ⟨[(A [(S [45, 49, 56, 52, 50, 56, 48]), (S [49])]), (.bool true)]⟩)),
  .inl (63, [(A [(S [45, 52, 54, 48, 55, 48, 48, 48, 48, 48, 48]), (S [49])]), (A [(S [49]), (S [50, 53, 48, 48, 48])])], (.tuple ⟨[(A [(S [45, 49, 56, 52, 50, 56, 48]), (S [49])]), (I 0)]⟩)),
  .inl (88, [(S [45, 49, 56, 52, 50, 56, 48])], (.tuple ⟨[(.int .i64 (.negSucc 184279)), (.bool true)]⟩)),
  .inl (65, [(.int .u64 (.ofNat 184280)), (.int .u64 (.ofNat 1))], (.int .u64 (.ofNat 1))),
  .inl (61, [(A [(S [45, 49, 56, 52, 50, 56, 48]), (S [49])])], (.tuple ⟨[(A [(.int .i64 (.negSucc 184279)), (I 1)]), (.bool true)]⟩)),
  .inl (65, [(.int .u64 (.ofNat 2783520)), (.int .u64 (.ofNat 1))], (.int .u64 (.ofNat 1))),
  .inl (131, [(I 2783520), (I 10)], (S [50, 55, 56, 51, 53, 50, 48])),
  .inl (80, [(A [(.int .i64 (.negSucc 184279)), (I 1)]), (A [(I 2967800), (I 1)])], (.tuple ⟨[(A [(S [50, 55, 56, 51, 53, 50, 48]), (S [49])]), (.bool true)]⟩)),
  .inl (56, [(A [(S [45, 49, 56, 52, 50, 56, 48]), (S [49])]), (A [(S [50, 57, 54, 55, 56, 48, 48]), (S [49])])], (.tuple ⟨[(A [(S [50, 55, 56, 51, 53, 50, 48]), (S [49])]), (I 0)]⟩)),
  .inl (88, [(S [50, 55, 56, 51, 53, 50, 48])], (.tuple ⟨[(I 2783520), (.bool true)]⟩)),
  .inl (61, [(A [(S [50, 55, 56, 51, 53, 50, 48]), (S [49])])], (.tuple ⟨[(A [(I 2783520), (I 1)]), (.bool true)]⟩)),
  .inl (65, [(.int .u64 (.ofNat 2783520)), (.int .u64 (.ofNat 25000))], (.int .u64 (.ofNat 40))),
  .inl (104, [(I 69588), (I 1)], (.tuple ⟨[(I 69588), (.bool true)]⟩)),
  .inl (104, [(I 1), (I 625)], (.tuple ⟨[(I 625), (.bool true)]⟩))]
def T68 : Tab := pushT T67 L68
def L69 : List (Sum (FuncId × List Value × Value) KC) := [.inl (131, [(I 69588), (I 10)], (S [54, 57, 53, 56, 56])),
  .inl (131, [(I 625), (I 10)], (S [54, 50, 53])),
  .inl (93, [(A [(I 2783520), (I 1)]), (A [(I 1), (I 25000)])], (.tuple ⟨[(A [(S [54, 57, 53, 56, 56]), (S [54, 50, 53])]), (.bool true)]⟩)),
  .inl (63, [(A [(S [50, 55, 56, 51, 53, 50, 48]), (S [49])]), (A [(S [49]), (S [50, 53, 48, 48, 48])])], (.tuple ⟨[(A [(S [54, 57, 53, 56, 56]), (S [54, 50, 53])]), (I 0)]⟩)),
  .inl (88, [(S [54, 57, 53, 56, 56])], (.tuple ⟨[(I 69588), (.bool true)]⟩)),
  .inl (88, [(S [54, 50, 53])], (.tuple ⟨[(I 625), (.bool true)]⟩)),
  .inl (65, [(.int .u64 (.ofNat 69588)), (.int .u64 (.ofNat 625))], (.int .u64 (.ofNat 1))),
  .inl (65, [(.int .u64 (.ofNat 625)), (.int .u64 (.ofNat 100))], (.int .u64 (.ofNat 25))),
  .inl (104, [(I 69588), (I 4)], (.tuple ⟨[(I 278352), (.bool true)]⟩)),
  .inl (104, [(I 9911), (I 25)], (.tuple ⟨[(I 247775), (.bool true)]⟩)),
  .inl (65, [(.int .u64 (.ofNat 526127)), (.int .u64 (.ofNat 25))], (.int .u64 (.ofNat 1))),
  .inl (104, [(I 25), (I 100)], (.tuple ⟨[(I 2500), (.bool true)]⟩)),
  .inl (131, [(I 526127), (I 10)], (S [53, 50, 54, 49, 50, 55])),
  .inl (131, [(I 2500), (I 10)], (S [50, 53, 48, 48])),
  .inl (80, [(A [(I 69588), (I 625)]), (A [(I 9911), (I 100)])], (.tuple ⟨[(A [(S [53, 50, 54, 49, 50, 55]), (S [50, 53, 48, 48])]), (.bool true)]⟩)),
  .inl (56, [(A [(S [54, 57, 53, 56, 56]), (S [54, 50, 53])]), (A [(S [57, 57, 49, 49]), (S [49, 48, 48])])], (.tuple ⟨[(A [(S [53, 50, 54, 49, 50, 55]), (S [50, 53, 48, 48])]), (I 0)]⟩))]
def T69 : Tab := pushT T68 L69
def L70 : List (Sum (FuncId × List Value × Value) KC) := [.inl (88, [(S [53, 50, 54, 49, 50, 55])], (.tuple ⟨[(I 526127), (.bool true)]⟩)),
  .inl (88, [(S [50, 53, 48, 48])], (.tuple ⟨[(I 2500), (.bool true)]⟩)),
  .inl (65, [(.int .u64 (.ofNat 526127)), (.int .u64 (.ofNat 2500))], (.int .u64 (.ofNat 1))),
  .inl (65, [(.int .u64 (.ofNat 526127)), (.int .u64 (.ofNat 25000))], (.int .u64 (.ofNat 1))),
  .inl (65, [(.int .u64 (.ofNat 1)), (.int .u64 (.ofNat 2500))], (.int .u64 (.ofNat 1))),
  .inl (104, [(I 526127), (I 1)], (.tuple ⟨[(I 526127), (.bool true)]⟩)),
  .inl (104, [(I 2500), (I 25000)], (.tuple ⟨[(I 62500000), (.bool true)]⟩)),
  .inl (131, [(I 62500000), (I 10)], (S [54, 50, 53, 48, 48, 48, 48, 48])),
  .inl (93, [(A [(I 526127), (I 2500)]), (A [(I 1), (I 25000)])], (.tuple ⟨[(A [(S [53, 50, 54, 49, 50, 55]), (S [54, 50, 53, 48, 48, 48, 48, 48])]), (.bool true)]⟩)),
  .inl (63, [(A [(S [53, 50, 54, 49, 50, 55]), (S [50, 53, 48, 48])]), (A [(S [49]), (S [50, 53, 48, 48, 48])])], (.tuple ⟨[(A [(S [53, 50, 54, 49, 50, 55]), (S [54, 50, 53, 48, 48, 48, 48, 48])]), (I 0)]⟩)),
  .inl (88, [(S [54, 50, 53, 48, 48, 48, 48, 48])], (.tuple ⟨[(I 62500000), (.bool true)]⟩))]
def T70 : Tab := pushT T69 L70
def L71 : List (Sum (FuncId × List Value × Value) KC) := [.inl (65, [(.int .u64 (.ofNat 526127)), (.int .u64 (.ofNat 62500000))], (.int .u64 (.ofNat 1))),
  .inl (65, [(.int .u64 (.ofNat 62500000)), (.int .u64 (.ofNat 1000000))], (.int .u64 (.ofNat 500000))),
  .inl (104, [(I 526127), (I 2)], (.tuple ⟨[(I 1052254), (.bool true)]⟩)),
  .inl (104, [(I 244063), (I 125)], (.tuple ⟨[(I 30507875), (.bool true)]⟩)),
  .inl (65, [(.int .u64 (.ofNat 31560129)), (.int .u64 (.ofNat 500000))], (.int .u64 (.ofNat 1))),
  .inl (104, [(I 125), (I 1000000)], (.tuple ⟨[(I 125000000), (.bool true)]⟩)),
  .inl (131, [(I 31560129), (I 10)], (S [51, 49, 53, 54, 48, 49, 50, 57])),
  .inl (131, [(I 125000000), (I 10)], (S [49, 50, 53, 48, 48, 48, 48, 48, 48])),
  .inl (80, [(A [(I 526127), (I 62500000)]), (A [(I 244063), (I 1000000)])], (.tuple ⟨[(A [(S [51, 49, 53, 54, 48, 49, 50, 57]), (S [49, 50, 53, 48, 48, 48, 48, 48, 48])]), (.bool true)]⟩)),
  .inl (56, [(A [(S [53, 50, 54, 49, 50, 55]), (S [54, 50, 53, 48, 48, 48, 48, 48])]), (A [(S [50, 52, 52, 48, 54, 51]), (S [49, 48, 48, 48, 48, 48, 48])])], (.tuple ⟨[(A [(S [51, 49, 53, 54, 48, 49, 50, 57]), (S [49, 50, 53, 48, 48, 48, 48, 48, 48])]), (I 0)]⟩)),
  .inl (65, [(.int .u64 (.ofNat 2006400000)), (.int .u64 (.ofNat 25000))], (.int .u64 (.ofNat 25000))),
  .inl (104, [(.int .i64 (.negSucc 80255)), (I 1)], (.tuple ⟨[(.int .i64 (.negSucc 80255)), (.bool true)]⟩))]
def T71 : Tab := pushT T70 L71
def L72 : List (Sum (FuncId × List Value × Value) KC) := [.inl (131, [(.int .i64 (.negSucc 80255)), (I 10)], (S [45, 56, 48, 50, 53, 54])),
  .inl (93, [(A [(.int .i64 (.negSucc 2006399999)), (I 1)]), (A [(I 1), (I 25000)])], (.tuple ⟨[(A [(S [45, 56, 48, 50, 53, 54]), (S [49])]), (.bool true)]⟩)),
  .inl (42, [(A [(S [45, 50, 48, 48, 54, 52, 48, 48, 48, 48, 48]), (S [49])]), (A [(S [49]), (S [50, 53, 48, 48, 48])])], (A [(S [45, 56, 48, 50, 53, 54]), (S [49])])),
  .inl (88, [(S [45, 56, 48, 50, 53, 54])], (.tuple ⟨[(.int .i64 (.negSucc 80255)), (.bool true)]⟩)),
  .inl (65, [(.int .u64 (.ofNat 80256)), (.int .u64 (.ofNat 1))], (.int .u64 (.ofNat 1))),
  .inl (61, [(A [(S [45, 56, 48, 50, 53, 54]), (S [49])])], (.tuple ⟨[(A [(.int .i64 (.negSucc 80255)), (I 1)]), (.bool true)]⟩)),
  .inl (104, [(I 1901800), (I 1)], (.tuple ⟨[(I 1901800), (.bool true)]⟩)),
  .inl (65, [(.int .u64 (.ofNat 1821544)), (.int .u64 (.ofNat 1))], (.int .u64 (.ofNat 1))),
  .inl (131, [(I 1821544), (I 10)], (S [49, 56, 50, 49, 53, 52, 52])),
  .inl (80, [(A [(.int .i64 (.negSucc 80255)), (I 1)]), (A [(I 1901800), (I 1)])], (.tuple ⟨[(A [(S [49, 56, 50, 49, 53, 52, 52]), (S [49])]), (.bool true)]⟩)),
  .inl (56, [(A [(S [45, 56, 48, 50, 53, 54]), (S [49])]), (A [(S [49, 57, 48, 49, 56, 48, 48]), (S [49])])], (.tuple ⟨[(A [(S [49, 56, 50, 49, 53, 52, 52]), (S [49])]), (I 0)]⟩)),
  .inl (88, [(S [49, 56, 50, 49, 53, 52, 52])], (.tuple ⟨[(I 1821544), (.bool true)]⟩)),
  .inl (61, [(A [(S [49, 56, 50, 49, 53, 52, 52]), (S [49])])], (.tuple ⟨[(A [(I 1821544), (I 1)]), (.bool true)]⟩)),
  .inl (65, [(.int .u64 (.ofNat 1821544)), (.int .u64 (.ofNat 25000))], (.int .u64 (.ofNat 8))),
  .inl (104, [(I 227693), (I 1)], (.tuple ⟨[(I 227693), (.bool true)]⟩))]
def T72 : Tab := pushT T71 L72
def L73 : List (Sum (FuncId × List Value × Value) KC) := [.inl (104, [(I 1), (I 3125)], (.tuple ⟨[(I 3125), (.bool true)]⟩)),
  .inl (131, [(I 227693), (I 10)], (S [50, 50, 55, 54, 57, 51])),
  .inl (131, [(I 3125), (I 10)], (S [51, 49, 50, 53])),
  .inl (93, [(A [(I 1821544), (I 1)]), (A [(I 1), (I 25000)])], (.tuple ⟨[(A [(S [50, 50, 55, 54, 57, 51]), (S [51, 49, 50, 53])]), (.bool true)]⟩)),
  .inl (63, [(A [(S [49, 56, 50, 49, 53, 52, 52]), (S [49])]), (A [(S [49]), (S [50, 53, 48, 48, 48])])], (.tuple ⟨[(A [(S [50, 50, 55, 54, 57, 51]), (S [51, 49, 50, 53])]), (I 0)]⟩)),
  .inl (88, [(S [50, 50, 55, 54, 57, 51])], (.tuple ⟨[(I 227693), (.bool true)]⟩)),
  .inl (88, [(S [51, 49, 50, 53])], (.tuple ⟨[(I 3125), (.bool true)]⟩)),
  .inl (65, [(.int .u64 (.ofNat 227693)), (.int .u64 (.ofNat 3125))], (.int .u64 (.ofNat 1))),
  .inl (65, [(.int .u64 (.ofNat 3125)), (.int .u64 (.ofNat 25))], (.int .u64 (.ofNat 25))),
  .inl (104, [(I 6187), (I 125)], (.tuple ⟨[(I 773375), (.bool true)]⟩)),
  .inl (65, [(.int .u64 (.ofNat 1001068)), (.int .u64 (.ofNat 25))], (.int .u64 (.ofNat 1))),
  .inl (104, [(I 125), (I 25)], (.tuple ⟨[(I 3125), (.bool true)]⟩)),
  .inl (131, [(I 1001068), (I 10)], (S [49, 48, 48, 49, 48, 54, 56])),
  .inl (80, [(A [(I 227693), (I 3125)]), (A [(I 6187), (I 25)])], (.tuple ⟨[(A [(S [49, 48, 48, 49, 48, 54, 56]), (S [51, 49, 50, 53])]), (.bool true)]⟩))]
def T73 : Tab := pushT T72 L73
def L74 : List (Sum (FuncId × List Value × Value) KC) := [.inl (56, [(A [(S [50, 50, 55, 54, 57, 51]), (S [51, 49, 50, 53])]), (A [(S [54, 49, 56, 55]), (S [50, 53])])], (.tuple ⟨[(A [(S [49, 48, 48, 49, 48, 54, 56]), (S [51, 49, 50, 53])]), (I 0)]⟩)),
  .inl (88, [(S [49, 48, 48, 49, 48, 54, 56])], (.tuple ⟨[(I 1001068), (.bool true)]⟩)),
  .inl (65, [(.int .u64 (.ofNat 1001068)), (.int .u64 (.ofNat 3125))], (.int .u64 (.ofNat 1))),
  .inl (65, [(.int .u64 (.ofNat 1001068)), (.int .u64 (.ofNat 25000))], (.int .u64 (.ofNat 4))),
  .inl (65, [(.int .u64 (.ofNat 1)), (.int .u64 (.ofNat 3125))], (.int .u64 (.ofNat 1))),
  .inl (104, [(I 250267), (I 1)], (.tuple ⟨[(I 250267), (.bool true)]⟩)),
  .inl (104, [(I 3125), (I 6250)], (.tuple ⟨[(I 19531250), (.bool true)]⟩)),
  .inl (131, [(I 250267), (I 10)], (S [50, 53, 48, 50, 54, 55])),
  .inl (131, [(I 19531250), (I 10)], (S [49, 57, 53, 51, 49, 50, 53, 48])),
  .inl (93, [(A [(I 1001068), (I 3125)]), (A [(I 1), (I 25000)])], (.tuple ⟨[(A [(S [50, 53, 48, 50, 54, 55]), (S [49, 57, 53, 51, 49, 50, 53, 48])]), (.bool true)]⟩)),
  .inl (63, [(A [(S [49, 48, 48, 49, 48, 54, 56]), (S [51, 49, 50, 53])]), (A [(S [49]), (S [50, 53, 48, 48, 48])])], (.tuple ⟨[(A [(S [50, 53, 48, 50, 54, 55]), (S [49, 57, 53, 51, 49, 50, 53, 48])]), (I 0)]⟩)),
  .inl (88, [(S [50, 53, 48, 50, 54, 55])], (.tuple ⟨[(I 250267), (.bool true)]⟩)),
  .inl (88, [(S [49, 57, 53, 51, 49, 50, 53, 48])], (.tuple ⟨[(I 19531250), (.bool true)]⟩))]
def T74 : Tab := pushT T73 L74
def L75 : List (Sum (FuncId × List Value × Value) KC) := [.inl (65, [(.int .u64 (.ofNat 250267)), (.int .u64 (.ofNat 19531250))], (.int .u64 (.ofNat 1))),
  .inl (65, [(.int .u64 (.ofNat 19531250)), (.int .u64 (.ofNat 12500))], (.int .u64 (.ofNat 6250))),
  .inl (104, [(I 250267), (I 2)], (.tuple ⟨[(I 500534), (.bool true)]⟩)),
  .inl (104, [(I 2963), (I 3125)], (.tuple ⟨[(I 9259375), (.bool true)]⟩)),
  .inl (65, [(.int .u64 (.ofNat 9759909)), (.int .u64 (.ofNat 6250))], (.int .u64 (.ofNat 1))),
  .inl (104, [(I 3125), (I 12500)], (.tuple ⟨[(I 39062500), (.bool true)]⟩)),
  .inl (131, [(I 9759909), (I 10)], (S [57, 55, 53, 57, 57, 48, 57])),
  .inl (131, [(I 39062500), (I 10)], (S [51, 57, 48, 54, 50, 53, 48, 48])),
  .inl (80, [(A [(I 250267), (I 19531250)]), (A [(I 2963), (I 12500)])], (.tuple ⟨[(A [(S [57, 55, 53, 57, 57, 48, 57]), (S [51, 57, 48, 54, 50, 53, 48, 48])]), (.bool true)]⟩)),
  .inl (56, [(A [(S [50, 53, 48, 50, 54, 55]), (S [49, 57, 53, 51, 49, 50, 53, 48])]), (A [(S [50, 57, 54, 51]), (S [49, 50, 53, 48, 48])])], (.tuple ⟨[(A [(S [57, 55, 53, 57, 57, 48, 57]), (S [51, 57, 48, 54, 50, 53, 48, 48])]), (I 0)]⟩)),
  .inl (88, [(S [57, 55, 53, 57, 57, 48, 57])], (.tuple ⟨[(I 9759909), (.bool true)]⟩)),
  .inl (88, [(S [51, 57, 48, 54, 50, 53, 48, 48])], (.tuple ⟨[(I 39062500), (.bool true)]⟩))]
def T75 : Tab := pushT T74 L75
def L76 : List (Sum (FuncId × List Value × Value) KC) := [.inl (65, [(.int .u64 (.ofNat 9759909)), (.int .u64 (.ofNat 39062500))], (.int .u64 (.ofNat 1))),
  .inl (65, [(.int .u64 (.ofNat 3)), (.int .u64 (.ofNat 39062500))], (.int .u64 (.ofNat 1))),
  .inl (65, [(.int .u64 (.ofNat 9759909)), (.int .u64 (.ofNat 1))], (.int .u64 (.ofNat 1))),
  .inl (104, [(.int .i64 (.negSucc 2)), (I 9759909)], (.tuple ⟨[(.int .i64 (.negSucc 29279726)), (.bool true)]⟩)),
  .inl (104, [(I 1), (I 39062500)], (.tuple ⟨[(I 39062500), (.bool true)]⟩)),
  .inl (131, [(.int .i64 (.negSucc 29279726)), (I 10)], (S [45, 50, 57, 50, 55, 57, 55, 50, 55])),
  .inl (93, [(A [(.int .i64 (.negSucc 2)), (I 1)]), (A [(I 9759909), (I 39062500)])], (.tuple ⟨[(A [(S [45, 50, 57, 50, 55, 57, 55, 50, 55]), (S [51, 57, 48, 54, 50, 53, 48, 48])]), (.bool true)]⟩)),
  .inl (63, [(A [(S [45, 51]), (S [49])]), (A [(S [57, 55, 53, 57, 57, 48, 57]), (S [51, 57, 48, 54, 50, 53, 48, 48])])], (.tuple ⟨[(A [(S [45, 50, 57, 50, 55, 57, 55, 50, 55]), (S [51, 57, 48, 54, 50, 53, 48, 48])]), (I 0)]⟩)),
  .inl (88, [(S [45, 50, 57, 50, 55, 57, 55, 50, 55])], (.tuple ⟨[(.int .i64 (.negSucc 29279726)), (.bool true)]⟩))]
def T76 : Tab := pushT T75 L76
def L77 : List (Sum (FuncId × List Value × Value) KC) := [.inl (65, [(.int .u64 (.ofNat 29279727)), (.int .u64 (.ofNat 39062500))], (.int .u64 (.ofNat 1))),
  .inl (65, [(.int .u64 (.ofNat 39062500)), (.int .u64 (.ofNat 100))], (.int .u64 (.ofNat 100))),
  .inl (104, [(.int .i64 (.negSucc 29279726)), (I 1)], (.tuple ⟨[(.int .i64 (.negSucc 29279726)), (.bool true)]⟩)),
  .inl (104, [(I 287), (I 390625)], (.tuple ⟨[(I 112109375), (.bool true)]⟩)),
  .inl (65, [(.int .u64 (.ofNat 82829648)), (.int .u64 (.ofNat 100))], (.int .u64 (.ofNat 4))),
  .inl (104, [(I 390625), (I 25)], (.tuple ⟨[(I 9765625), (.bool true)]⟩)),
  .inl (131, [(I 20707412), (I 10)], (S [50, 48, 55, 48, 55, 52, 49, 50])),
  .inl (131, [(I 9765625), (I 10)], (S [57, 55, 54, 53, 54, 50, 53])),
  .inl (80, [(A [(.int .i64 (.negSucc 29279726)), (I 39062500)]), (A [(I 287), (I 100)])], (.tuple ⟨[(A [(S [50, 48, 55, 48, 55, 52, 49, 50]), (S [57, 55, 54, 53, 54, 50, 53])]), (.bool true)]⟩)),
  .inl (56, [(A [(S [45, 50, 57, 50, 55, 57, 55, 50, 55]), (S [51, 57, 48, 54, 50, 53, 48, 48])]), (A [(S [50, 56, 55]), (S [49, 48, 48])])], (.tuple ⟨[(A [(S [50, 48, 55, 48, 55, 52, 49, 50]), (S [57, 55, 54, 53, 54, 50, 53])]), (I 0)]⟩)),
  .inl (88, [(S [50, 48, 55, 48, 55, 52, 49, 50])], (.tuple ⟨[(I 20707412), (.bool true)]⟩))]
def T77 : Tab := pushT T76 L77
def L78 : List (Sum (FuncId × List Value × Value) KC) := [.inl (88, [(S [57, 55, 54, 53, 54, 50, 53])], (.tuple ⟨[(I 9765625), (.bool true)]⟩)),
  .inl (65, [(.int .u64 (.ofNat 20707412)), (.int .u64 (.ofNat 9765625))], (.int .u64 (.ofNat 1))),
  .inl (65, [(.int .u64 (.ofNat 20707412)), (.int .u64 (.ofNat 39062500))], (.int .u64 (.ofNat 4))),
  .inl (65, [(.int .u64 (.ofNat 9759909)), (.int .u64 (.ofNat 9765625))], (.int .u64 (.ofNat 1))),
  .inl (104, [(I 5176853), (I 9759909)], (.tuple ⟨[(I 50525614186377), (.bool true)]⟩)),
  .inl (104, [(I 9765625), (I 9765625)], (.tuple ⟨[(I 95367431640625), (.bool true)]⟩)),
  .inl (131, [(I 50525614186377), (I 10)], (S [53, 48, 53, 50, 53, 54, 49, 52, 49, 56, 54, 51, 55, 55]))]
def T78 : Tab := pushT T77 L78
def L79 : List (Sum (FuncId × List Value × Value) KC) := [.inl (131, [(I 95367431640625), (I 10)], (S [57, 53, 51, 54, 55, 52, 51, 49, 54, 52, 48, 54, 50, 53])),
  .inl (93, [(A [(I 20707412), (I 9765625)]), (A [(I 9759909), (I 39062500)])], (.tuple ⟨[(A [(S [53, 48, 53, 50, 53, 54, 49, 52, 49, 56, 54, 51, 55, 55]), (S [57, 53, 51, 54, 55, 52, 51, 49, 54, 52, 48, 54, 50, 53])]), (.bool true)]⟩)),
  .inl (63, [(A [(S [50, 48, 55, 48, 55, 52, 49, 50]), (S [57, 55, 54, 53, 54, 50, 53])]), (A [(S [57, 55, 53, 57, 57, 48, 57]), (S [51, 57, 48, 54, 50, 53, 48, 48])])], (.tuple ⟨[(A [(S [53, 48, 53, 50, 53, 54, 49, 52, 49, 56, 54, 51, 55, 55]), (S [57, 53, 51, 54, 55, 52, 51, 49, 54, 52, 48, 54, 50, 53])]), (I 0)]⟩)),
  .inl (88, [(S [53, 48, 53, 50, 53, 54, 49, 52, 49, 56, 54, 51, 55, 55])], (.tuple ⟨[(I 50525614186377), (.bool true)]⟩)),
  .inl (88, [(S [57, 53, 51, 54, 55, 52, 51, 49, 54, 52, 48, 54, 50, 53])], (.tuple ⟨[(I 95367431640625), (.bool true)]⟩)),
  .inl (65, [(.int .u64 (.ofNat 50525614186377)), (.int .u64 (.ofNat 95367431640625))], (.int .u64 (.ofNat 1)))]
def T79 : Tab := pushT T78 L79
def L80 : List (Sum (FuncId × List Value × Value) KC) := [.inl (65, [(.int .u64 (.ofNat 95367431640625)), (.int .u64 (.ofNat 40))], (.int .u64 (.ofNat 5))),
  .inl (104, [(I 50525614186377), (I 8)], (.tuple ⟨[(I 404204913491016), (.bool true)]⟩)),
  .inl (104, [(.int .i64 (.negSucc 10)), (I 19073486328125)], (.tuple ⟨[(.int .i64 (.negSucc 209808349609374)), (.bool true)]⟩)),
  .inl (65, [(.int .u64 (.ofNat 194396563881641)), (.int .u64 (.ofNat 5))], (.int .u64 (.ofNat 1))),
  .inl (104, [(I 19073486328125), (I 40)], (.tuple ⟨[(I 762939453125000), (.bool true)]⟩)),
  .inl (131, [(I 194396563881641), (I 10)], (S [49, 57, 52, 51, 57, 54, 53, 54, 51, 56, 56, 49, 54, 52, 49])),
  .inl (131, [(I 762939453125000), (I 10)], (S [55, 54, 50, 57, 51, 57, 52, 53, 51, 49, 50, 53, 48, 48, 48])),
  .inl (80, [(A [(I 50525614186377), (I 95367431640625)]), (A [(.int .i64 (.negSucc 10)), (I 40)])], (.tuple ⟨[(A [(S [49, 57, 52, 51, 57, 54, 53, 54, 51, 56, 56, 49, 54, 52, 49]), (S [55, 54, 50, 57, 51, 57, 52, 53, 51, 49, 50, 53, 48, 48, 48])]), (.bool true)]⟩)),
  .inl (56, [(A [(S [53, 48, 53, 50, 53, 54, 49, 52, 49, 56, 54, 51, 55, 55]), (S [57, 53, 51, 54, 55, 52, 51, 49, 54, 52, 48, 54, 50, 53])]), (A [(S [45, 49, 49]), (S [52, 48])])], (.tuple ⟨[(A [(S [49, 57, 52, 51, 57, 54, 53, 54, 51, 56, 56, 49, 54, 52, 49]), (S [55, 54, 50, 57, 51, 57, 52, 53, 51, 49, 50, 53, 48, 48, 48])]), (I 0)]⟩))]
def T80 : Tab := pushT T79 L80
def B40 : List (Nat × List Value) := [(35328, [(I 25000)]), gq 320, gq 64, gq 256, gq 0]
def B41 : List (Nat × List Value) := [gq 320, gq 64, gq 256, gq 0, (44096, [(S [45, 51]), (S [49]), (S [50, 56, 55]), (S [49, 48, 48]), (S [45, 49, 49]), (S [52, 48])]), (39744, [(S [57, 55, 53, 57, 57, 48, 57]), (S [51, 57, 48, 54, 50, 53, 48, 48])]), (35648, [(S [57, 55, 53, 57, 57, 48, 57]), (S [51, 57, 48, 54, 50, 53, 48, 48]), (S [49, 57, 52, 51, 57, 54, 53, 54, 51, 56, 56, 49, 54, 52, 49]), (S [55, 54, 50, 57, 51, 57, 52, 53, 51, 49, 50, 53, 48, 48, 48])]), (41088, [(S [45, 50, 48, 48, 54, 52, 48, 48, 48, 48, 48]), (S [49]), (S [49, 57, 48, 49, 56, 48, 48]), (S [49]), (S [54, 49, 56, 55]), (S [50, 53]), (S [50, 57, 54, 51]), (S [49, 50, 53, 48, 48])]), (36032, [(S [49]), (S [50, 53, 48, 48, 48])]), (37376, [(S [45, 52, 54, 48, 55, 48, 48, 48, 48, 48, 48]), (S [49]), (S [50, 57, 54, 55, 56, 48, 48]), (S [49]), (S [57, 57, 49, 49]), (S [49, 48, 48]), (S [50, 52, 52, 48, 54, 51]), (S [49, 48, 48, 48, 48, 48, 48])]), (35328, [(I 25000)])]
def Q42 : KC := ⟨33, [(Z 35328 0)], 557, 35328, B40, (A [(S [57, 55, 53, 57, 57, 48, 57]), (S [51, 57, 48, 54, 50, 53, 48, 48]), (S [49, 57, 52, 51, 57, 54, 53, 54, 51, 56, 56, 49, 54, 52, 49]), (S [55, 54, 50, 57, 51, 57, 52, 53, 51, 49, 50, 53, 48, 48, 48])]), 715, B41, [], []⟩
def L81 : List (Sum (FuncId × List Value × Value) KC) := [.inr Q42,
  .inl (14, [(A [(S [49]), (S [49])]), (A [(S []), (S [])])], (.tuple ⟨[(A [(S []), (S [])]), (I 20)]⟩)),
  .inl (15, [(A [(S [49]), (S [49]), (S [49]), (S [49]), (S [49]), (S [49])]), (A [(S [49]), (S [49]), (S [49]), (S [49]), (S [49]), (S [49])]), (A [(S [45, 49]), (S [50])])], (.tuple ⟨[(A [(S []), (S []), (S []), (S []), (S []), (S [])]), (I 2)]⟩))]
def T81 : Tab := pushT T80 L81
end Ev
end Go.Proofs.YtbcpfpombpfihabGreatDoor
