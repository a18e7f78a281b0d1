/- CurveKnown: the closed calls that it makes, and some calls in a state of memory, with what each gives: lists, nothing proved. -/
import Derived.Test.YtbmnclnmpheodaaGreatDoorProg
import Derived.Test.YtbmnclnmpheodaaGreatDoorEvM
import Derived.KernelRfl
namespace Go.Proofs.YtbmnclnmpheodaaGreatDoor
open Go.RowKit
namespace Ev
set_option maxHeartbeats 4000000
def S (l : List Nat) : Value := .string ⟨⟨l.map UInt8.ofNat⟩⟩
def I (n : Nat) : Value := .int .i64 (.ofNat n)
def U (n : Nat) : Value := .int .u8 (.ofNat n)
def A (l : List Value) : Value := .agg ⟨l⟩
def C (b o n c : Nat) : Value := .slice (some ⟨b, o, none⟩) n c
def Z (b o : Nat) : Value := .pointer (some ⟨b, o, none⟩)
def G0 : List (Nat × List Value) := [(256, [(.int .u8 (.ofNat 0)), (.int .u8 (.ofNat 1)), (.int .u8 (.ofNat 28)), (.int .u8 (.ofNat 2)), (.int .u8 (.ofNat 29)), (.int .u8 (.ofNat 14)), (.int .u8 (.ofNat 24)), (.int .u8 (.ofNat 3)), (.int .u8 (.ofNat 30)), (.int .u8 (.ofNat 22)), (.int .u8 (.ofNat 20)), (.int .u8 (.ofNat 15)), (.int .u8 (.ofNat 25)), (.int .u8 (.ofNat 17)), (.int .u8 (.ofNat 4)), (.int .u8 (.ofNat 8)), (.int .u8 (.ofNat 31)), (.int .u8 (.ofNat 27)), (.int .u8 (.ofNat 13)), (.int .u8 (.ofNat 23)), (.int .u8 (.ofNat 21)), (.int .u8 (.ofNat 19)), (.int .u8 (.ofNat 16)), (.int .u8 (.ofNat 7)), (.int .u8 (.ofNat 26)), (.int .u8 (.ofNat 12)), (.int .u8 (.ofNat 18)), (.int .u8 (.ofNat 6)), (.int .u8 (.ofNat 11)), (.int .u8 (.ofNat 5)), (.int .u8 (.ofNat 10)), (.int .u8 (.ofNat 9))]), (0, [(.int .u8 (.ofNat 0)), (.int .u8 (.ofNat 1)), (.int .u8 (.ofNat 56)), (.int .u8 (.ofNat 2)), (.int .u8 (.ofNat 57)), (.int .u8 (.ofNat 49)), (.int .u8 (.ofNat 28)), (.int .u8 (.ofNat 3)), (.int .u8 (.ofNat 61)), (.int .u8 (.ofNat 58)), (.int .u8 (.ofNat 42)), (.int .u8 (.ofNat 50)), (.int .u8 (.ofNat 38)), (.int .u8 (.ofNat 29)), (.int .u8 (.ofNat 17)), (.int .u8 (.ofNat 4)), (.int .u8 (.ofNat 62)), (.int .u8 (.ofNat 47)), (.int .u8 (.ofNat 59)), (.int .u8 (.ofNat 36)), (.int .u8 (.ofNat 45)), (.int .u8 (.ofNat 43)), (.int .u8 (.ofNat 51)), (.int .u8 (.ofNat 22)), (.int .u8 (.ofNat 53)), (.int .u8 (.ofNat 39)), (.int .u8 (.ofNat 33)), (.int .u8 (.ofNat 30)), (.int .u8 (.ofNat 24)), (.int .u8 (.ofNat 18)), (.int .u8 (.ofNat 12)), (.int .u8 (.ofNat 5)), (.int .u8 (.ofNat 63)), (.int .u8 (.ofNat 55)), (.int .u8 (.ofNat 48)), (.int .u8 (.ofNat 27)), (.int .u8 (.ofNat 60)), (.int .u8 (.ofNat 41)), (.int .u8 (.ofNat 37)), (.int .u8 (.ofNat 16)), (.int .u8 (.ofNat 46)), (.int .u8 (.ofNat 35)), (.int .u8 (.ofNat 44)), (.int .u8 (.ofNat 21)), (.int .u8 (.ofNat 52)), (.int .u8 (.ofNat 32)), (.int .u8 (.ofNat 23)), (.int .u8 (.ofNat 11)), (.int .u8 (.ofNat 54)), (.int .u8 (.ofNat 26)), (.int .u8 (.ofNat 40)), (.int .u8 (.ofNat 15)), (.int .u8 (.ofNat 34)), (.int .u8 (.ofNat 20)), (.int .u8 (.ofNat 31)), (.int .u8 (.ofNat 10)), (.int .u8 (.ofNat 25)), (.int .u8 (.ofNat 14)), (.int .u8 (.ofNat 19)), (.int .u8 (.ofNat 9)), (.int .u8 (.ofNat 13)), (.int .u8 (.ofNat 8)), (.int .u8 (.ofNat 7)), (.int .u8 (.ofNat 6))]), (192, [(.int .u64 (.ofNat 1)), (.int .u64 (.ofNat 10)), (.int .u64 (.ofNat 100)), (.int .u64 (.ofNat 1000)), (.int .u64 (.ofNat 10000)), (.int .u64 (.ofNat 100000)), (.int .u64 (.ofNat 1000000)), (.int .u64 (.ofNat 10000000)), (.int .u64 (.ofNat 100000000)), (.int .u64 (.ofNat 1000000000)), (.int .u64 (.ofNat 10000000000)), (.int .u64 (.ofNat 100000000000)), (.int .u64 (.ofNat 1000000000000)), (.int .u64 (.ofNat 10000000000000)), (.int .u64 (.ofNat 100000000000000)), (.int .u64 (.ofNat 1000000000000000)), (.int .u64 (.ofNat 10000000000000000)), (.int .u64 (.ofNat 100000000000000000)), (.int .u64 (.ofNat 1000000000000000000)), (.int .u64 (.ofNat 10000000000000000000))])]
def gq (i : Nat) : Nat × List Value := (i, (look G0 i).getD [])
def T0 : Tab := (Tab.mk .e .e)
def B1 : List (Nat × List Value) := [(64001, [(I 1)])]
def B2 : List (Nat × List Value) := [(64064, [(I 0)]), (64001, [(I 1)])]
def Q3 : KC := ⟨205, [(C 64001 0 1 1), (I 4)], 1001, 64064, B1, (.tuple ⟨[(C 64064 0 0 1), (I 1)]⟩), 1002, B2, [], []⟩
def B4 : List (Nat × List Value) := [(64001, [(I 1)]), (64065, [(I 4)])]
def B5 : List (Nat × List Value) := [(64192, [(I 1)]), (64128, [(I 0)]), (64001, [(I 1)]), (64065, [(I 4)])]
def Q6 : KC := ⟨190, [(C 64001 0 1 1), (C 64065 0 1 1)], 1002, 64128, B4, (.tuple ⟨[(C 64128 0 0 1), (C 64192 0 1 1)]⟩), 1004, B5, [], []⟩
def B7 : List (Nat × List Value) := [(64001, [(I 4)])]
def B8 : List (Nat × List Value) := [(64064, [(I 4)]), (64001, [(I 4)])]
def Q9 : KC := ⟨205, [(C 64001 0 1 1), (I 1)], 1001, 64064, B7, (.tuple ⟨[(C 64064 0 1 1), (I 0)]⟩), 1002, B8, [], []⟩
def B10 : List (Nat × List Value) := [(64001, [(I 4)]), (64064, [(I 1)])]
def B11 : List (Nat × List Value) := [(64192, [(I 0)]), (64128, [(I 4)]), (64001, [(I 4)]), (64064, [(I 1)])]
def Q12 : KC := ⟨190, [(C 64001 0 1 1), (C 64064 0 1 1)], 1002, 64128, B10, (.tuple ⟨[(C 64128 0 1 1), (C 64192 0 0 1)]⟩), 1004, B11, [], []⟩
def B13 : List (Nat × List Value) := [(64001, [(I 1)]), (64065, [(I 4)])]
def B14 : List (Nat × List Value) := [(64065, [(I 4)]), (64384, [(I 1)]), (64001, [(I 1)])]
def Q15 : KC := ⟨158, [(A [(.bool false), (C 64001 0 1 1)]), (A [(.bool false), (C 64065 0 1 1)])], 1002, 64128, B13, (A [(.bool false), (C 64384 0 1 1)]), 1009, B14, [], []⟩
def B16 : List (Nat × List Value) := [(64001, [(I 1)])]
def B17 : List (Nat × List Value) := [(64064, [(I 1)]), (64001, [(I 1)])]
def Q18 : KC := ⟨205, [(C 64001 0 1 1), (I 1)], 1001, 64064, B16, (.tuple ⟨[(C 64064 0 1 1), (I 0)]⟩), 1002, B17, [], []⟩
def B19 : List (Nat × List Value) := [(64001, [(I 1)]), (64064, [(I 1)])]
def B20 : List (Nat × List Value) := [(64192, [(I 0)]), (64128, [(I 1)]), (64001, [(I 1)]), (64064, [(I 1)])]
def Q21 : KC := ⟨190, [(C 64001 0 1 1), (C 64064 0 1 1)], 1002, 64128, B19, (.tuple ⟨[(C 64128 0 1 1), (C 64192 0 0 1)]⟩), 1004, B20, [], []⟩
def B22 : List (Nat × List Value) := [(64001, [(I 1)]), (64064, [(I 1)])]
def B23 : List (Nat × List Value) := [(64448, [(I 0)]), (64384, [(I 1)]), (64001, [(I 1)]), (64064, [(I 1)])]
def Q24 : KC := ⟨159, [(A [(.bool false), (C 64001 0 1 1)]), (A [(.bool false), (C 64064 0 1 1)])], 1002, 64128, B22, (.tuple ⟨[(A [(.bool false), (C 64384 0 1 1)]), (A [(.bool false), (C 64448 0 0 1)])]⟩), 1012, B23, [], []⟩
def B25 : List (Nat × List Value) := [(64001, [(I 4)]), (64064, [(I 1)])]
def B26 : List (Nat × List Value) := [(64448, [(I 0)]), (64384, [(I 4)]), (64001, [(I 4)]), (64064, [(I 1)])]
def Q27 : KC := ⟨159, [(A [(.bool false), (C 64001 0 1 1)]), (A [(.bool false), (C 64064 0 1 1)])], 1002, 64128, B25, (.tuple ⟨[(A [(.bool false), (C 64384 0 1 1)]), (A [(.bool false), (C 64448 0 0 1)])]⟩), 1012, B26, [], []⟩
def B28 : List (Nat × List Value) := [(64000, [(I 1)])]
def B29 : List (Nat × List Value) := [(64064, [(.bool false), (C 64000 0 1 1)]), (64000, [(I 1)])]
def Q30 : KC := ⟨156, [(A [(.bool false), (C 64000 0 1 1)])], 1001, 64064, B28, (S [49]), 1003, B29, [], []⟩
def B31 : List (Nat × List Value) := [(64000, [(I 4)])]
def B32 : List (Nat × List Value) := [(64064, [(.bool false), (C 64000 0 1 1)]), (64000, [(I 4)])]
def Q33 : KC := ⟨156, [(A [(.bool false), (C 64000 0 1 1)])], 1001, 64064, B31, (S [52]), 1003, B32, [], []⟩
def B34 : List (Nat × List Value) := [(64000, [(I 1)]), (64064, [(I 4)])]
def B35 : List (Nat × List Value) := [(64064, [(I 4)]), (64000, [(I 1)])]
def Q36 : KC := ⟨67, [(A [(.bool false), (C 64000 0 1 1), (.bool false), (C 64064 0 1 1)])], 1002, 64128, B34, (.tuple ⟨[(A [(S [49]), (S [52])]), (I 0)]⟩), 1010, B35, [], []⟩
def B37 : List (Nat × List Value) := [(64000, [(I 1000000), (I 1000000), (I 0), (I 1), (I 2), (I 0)])]
def B38 : List (Nat × List Value) := [(64128, [(I 1000000), (I 1000000), (I 0), (I 1), (I 2), (I 0)]), (64000, [(I 1000000), (I 1000000), (I 0), (I 1), (I 2), (I 0)]), (64064, [(I 3), (.slice none 0 0), (C 64000 0 1 1)])]
def Q39 : KC := ⟨8, [(A [(I 3), (.slice none 0 0), (C 64000 0 1 1)])], 1001, 64064, B37, (I 0), 1003, B38, [], []⟩
def L1 : List (Sum (FuncId × List Value × Value) KC) := [.inr Q3,
  .inr Q6,
  .inr Q9,
  .inr Q12,
  .inr Q15,
  .inr Q18,
  .inr Q21,
  .inr Q24,
  .inr Q27,
  .inr Q30,
  .inr Q33,
  .inr Q36,
  .inl (34, [(I 1), (I 4)], (.tuple ⟨[(A [(S [49]), (S [52])]), (I 0)]⟩)),
  .inl (66, [(A [(I 1000000), (I 1000000), (I 0), (I 1), (I 2), (I 0)])], (.bool true)),
  .inr Q39,
  .inl (113, [(A [(I 0), (I 1)])], (A [(S [48]), (S [49])])),
  .inl (94, [(I 0), (I 1)], (.tuple ⟨[(A [(S [48]), (S [49])]), (.bool true)]⟩)),
  .inl (110, [(.int .u64 (.ofNat 1)), (.int .u64 (.ofNat 1))], (.int .u64 (.ofNat 1))),
  .inl (113, [(A [(I 1), (I 1)])], (A [(S [49]), (S [49])])),
  .inl (94, [(I 1), (I 1)], (.tuple ⟨[(A [(S [49]), (S [49])]), (.bool true)]⟩)),
  .inl (161, [(S [49])], (.tuple ⟨[(I 1), (.bool true)]⟩)),
  .inl (161, [(S [52])], (.tuple ⟨[(I 4), (.bool true)]⟩))]
def T1 : Tab := pushT T0 L1
def B40 : List (Nat × List Value) := [(64000, [(S [49]), (S [52]), (S [48]), (S [49]), (S [49]), (S [49])])]
def B41 : List (Nat × List Value) := [(64000, [(S [49]), (S [52]), (S [48]), (S [49]), (S [49]), (S [49])])]
def Q42 : KC := ⟨49, [(C 64000 0 3 3)], 1001, 64064, B40, (I 0), 1010, B41, [], []⟩
def B43 : List (Nat × List Value) := [(64000, [(I 1000000), (I 1000000), (I 0), (I 1), (I 2), (I 0)])]
def B44 : List (Nat × List Value) := [(64000, [(I 1000000), (I 1000000), (I 0), (I 1), (I 2), (I 0)])]
def Q45 : KC := ⟨5, [(A [(I 3), (.slice none 0 0), (C 64000 0 1 1)]), (A [(S [49]), (S [52])])], 1001, 64064, B43, (.tuple ⟨[(A [(S []), (S [])]), (I 5)]⟩), 1040, B44, [], []⟩
def B46 : List (Nat × List Value) := [(64000, [(I 0)]), (64064, [(I 1000000000000)]), (64128, [(I 250000000000), (I 250000000000)])]
def B47 : List (Nat × List Value) := [(64000, [(I 0)]), (64064, [(I 1000000000000)]), (64128, [(I 250000000000), (I 250000000000)])]
def Q48 : KC := ⟨61, [(Z 64000 0), (Z 64064 0), (Z 64128 0)], 1003, 64192, B46, (.tuple ⟨[(A [(I 250000000000), (I 250000000000)]), (I 0)]⟩), 1012, B47, [], []⟩
def B49 : List (Nat × List Value) := [(64000, [(I 0)]), (64064, [(I 1000000000000)]), (64128, [(I 250000000000), (I 250000000000)]), (64192, [(I 250000000000), (I 250000000000)])]
def Q50 : KC := ⟨60, [(.func (.func 61) ⟨[]⟩ ⟨[(Z 64000 0), (Z 64064 0), (Z 64128 0)]⟩), (C 64192 0 1 1)], 1004, 64256, B49, (.tuple ⟨[(A [(I 250000000000), (I 250000000000)]), (I 0)]⟩), 1016, B49, [], []⟩
def L2 : List (Sum (FuncId × List Value × Value) KC) := [.inl (110, [(.int .u64 (.ofNat 1)), (.int .u64 (.ofNat 4))], (.int .u64 (.ofNat 1))),
  .inl (108, [(A [(S [49]), (S [52])])], (.tuple ⟨[(A [(I 1), (I 4)]), (.bool true)]⟩)),
  .inl (161, [(S [48])], (.tuple ⟨[(I 0), (.bool true)]⟩)),
  .inl (108, [(A [(S [48]), (S [49])])], (.tuple ⟨[(A [(I 0), (I 1)]), (.bool true)]⟩)),
  .inl (108, [(A [(S [49]), (S [49])])], (.tuple ⟨[(A [(I 1), (I 1)]), (.bool true)]⟩)),
  .inr Q42,
  .inl (143, [(.int .u64 (.ofNat 0)), (.int .u64 (.ofNat 1))], (.tuple ⟨[(.int .u64 (.ofNat 0)), (.int .u64 (.ofNat 0))]⟩)),
  .inl (143, [(.int .u64 (.ofNat 1)), (.int .u64 (.ofNat 1))], (.tuple ⟨[(.int .u64 (.ofNat 0)), (.int .u64 (.ofNat 1))]⟩)),
  .inl (91, [(A [(I 0), (I 1)]), (A [(I 1), (I 1)])], (.tuple ⟨[(.int .i64 (.negSucc 0)), (.bool true)]⟩)),
  .inl (50, [(A [(S [48]), (S [49])]), (A [(S [49]), (S [49])])], (.tuple ⟨[(.int .i64 (.negSucc 0)), (I 0)]⟩)),
  .inl (143, [(.int .u64 (.ofNat 0)), (.int .u64 (.ofNat 4))], (.tuple ⟨[(.int .u64 (.ofNat 0)), (.int .u64 (.ofNat 0))]⟩)),
  .inl (91, [(A [(I 1), (I 4)]), (A [(I 0), (I 1)])], (.tuple ⟨[(I 1), (.bool true)]⟩)),
  .inl (50, [(A [(S [49]), (S [52])]), (A [(S [48]), (S [49])])], (.tuple ⟨[(I 1), (I 0)]⟩)),
  .inl (143, [(.int .u64 (.ofNat 1)), (.int .u64 (.ofNat 4))], (.tuple ⟨[(.int .u64 (.ofNat 0)), (.int .u64 (.ofNat 4))]⟩)),
  .inl (91, [(A [(I 1), (I 4)]), (A [(I 1), (I 1)])], (.tuple ⟨[(.int .i64 (.negSucc 0)), (.bool true)]⟩)),
  .inl (50, [(A [(S [49]), (S [52])]), (A [(S [49]), (S [49])])], (.tuple ⟨[(.int .i64 (.negSucc 0)), (I 0)]⟩)),
  .inl (21, [(A [(S [49]), (S [52])]), (A [(S [48]), (S [49])]), (A [(S [49]), (S [49])])], (.tuple ⟨[(A [(S [49]), (S [52])]), (I 0)]⟩)),
  .inl (110, [(.int .u64 (.ofNat 1000000)), (.int .u64 (.ofNat 1000000))], (.int .u64 (.ofNat 1000000))),
  .inl (94, [(I 1000000), (I 1000000)], (.tuple ⟨[(A [(S [49]), (S [49])]), (.bool true)]⟩)),
  .inr Q45,
  .inr Q48,
  .inr Q50]
def T2 : Tab := pushT T1 L2
def B51 : List (Nat × List Value) := [(64000, [(U 0), (U 0), (U 0), (U 0), (U 0), (U 0), (U 0), (U 0), (U 0), (U 0), (U 0), (U 0), (U 0), (U 0), (U 0), (U 0), (U 0), (U 0), (U 0), (U 0), (U 0), (U 0), (U 0), (U 0)])]
def B52 : List (Nat × List Value) := [(64000, [(U 0), (U 49), (U 48), (U 48), (U 48), (U 48), (U 48), (U 48), (U 0), (U 0), (U 0), (U 0), (U 0), (U 0), (U 0), (U 0), (U 0), (U 0), (U 0), (U 0), (U 0), (U 0), (U 0), (U 0)])]
def Q53 : KC := ⟨216, [(C 64000 1 7 23), (.int .u64 (.ofNat 1000000))], 1001, 64000, B51, (.tuple ⟨[]⟩), 1001, B52, [], []⟩
def B54 : List (Nat × List Value) := [(64000, [(U 0), (U 0), (U 0), (U 0), (U 0), (U 0), (U 0), (U 0), (U 0), (U 0), (U 0), (U 0), (U 0), (U 0), (U 0), (U 0), (U 0), (U 0), (U 0), (U 0), (U 0), (U 0), (U 0), (U 0)])]
def B55 : List (Nat × List Value) := [(64000, [(U 0), (U 50), (U 53), (U 48), (U 48), (U 48), (U 48), (U 0), (U 0), (U 0), (U 0), (U 0), (U 0), (U 0), (U 0), (U 0), (U 0), (U 0), (U 0), (U 0), (U 0), (U 0), (U 0), (U 0)])]
def Q56 : KC := ⟨216, [(C 64000 1 6 23), (.int .u64 (.ofNat 250000))], 1001, 64000, B54, (.tuple ⟨[]⟩), 1001, B55, [], []⟩
def B57 : List (Nat × List Value) := [(64000, [(.func (.func 72) ⟨[]⟩ ⟨[]⟩)])]
def B58 : List (Nat × List Value) := [(64000, [(.func (.func 72) ⟨[]⟩ ⟨[]⟩)])]
def Q59 : KC := ⟨69, [(A [(S [49, 48, 48, 48, 48, 48, 48]), (S [49])]), (A [(S [49]), (S [52])]), (.func (.func 70) ⟨[]⟩ ⟨[]⟩), (.func (.func 114) ⟨[]⟩ ⟨[(Z 64000 0)]⟩)], 1001, 64064, B57, (.tuple ⟨[(A [(S [50, 53, 48, 48, 48, 48]), (S [49])]), (I 0)]⟩), 1008, B58, [], []⟩
def L3 : List (Sum (FuncId × List Value × Value) KC) := [.inl (110, [(.int .u64 (.ofNat 250000000000)), (.int .u64 (.ofNat 1000000000000))], (.int .u64 (.ofNat 250000000000))),
  .inl (113, [(A [(I 1), (I 4)])], (A [(S [49]), (S [52])])),
  .inl (94, [(I 250000000000), (I 1000000000000)], (.tuple ⟨[(A [(S [49]), (S [52])]), (.bool true)]⟩)),
  .inl (110, [(.int .u64 (.ofNat 1000000)), (.int .u64 (.ofNat 1))], (.int .u64 (.ofNat 1))),
  .inl (215, [(.int .u64 (.ofNat 1000000))], (I 7)),
  .inr Q53,
  .inl (164, [(I 1000000)], (S [49, 48, 48, 48, 48, 48, 48])),
  .inl (113, [(A [(I 1000000), (I 1)])], (A [(S [49, 48, 48, 48, 48, 48, 48]), (S [49])])),
  .inl (94, [(I 1000000), (I 1)], (.tuple ⟨[(A [(S [49, 48, 48, 48, 48, 48, 48]), (S [49])]), (.bool true)]⟩)),
  .inl (161, [(S [49, 48, 48, 48, 48, 48, 48])], (.tuple ⟨[(I 1000000), (.bool true)]⟩)),
  .inl (108, [(A [(S [49, 48, 48, 48, 48, 48, 48]), (S [49])])], (.tuple ⟨[(A [(I 1000000), (I 1)]), (.bool true)]⟩)),
  .inl (110, [(.int .u64 (.ofNat 1000000)), (.int .u64 (.ofNat 4))], (.int .u64 (.ofNat 4))),
  .inl (143, [(.int .u64 (.ofNat 250000)), (.int .u64 (.ofNat 1))], (.tuple ⟨[(.int .u64 (.ofNat 0)), (.int .u64 (.ofNat 250000))]⟩)),
  .inl (112, [(I 250000), (I 1)], (.tuple ⟨[(I 250000), (.bool true)]⟩)),
  .inl (215, [(.int .u64 (.ofNat 250000))], (I 6)),
  .inr Q56,
  .inl (164, [(I 250000)], (S [50, 53, 48, 48, 48, 48])),
  .inl (113, [(A [(I 250000), (I 1)])], (A [(S [50, 53, 48, 48, 48, 48]), (S [49])])),
  .inl (70, [(A [(I 1000000), (I 1)]), (A [(I 1), (I 4)])], (.tuple ⟨[(A [(S [50, 53, 48, 48, 48, 48]), (S [49])]), (.bool true)]⟩)),
  .inr Q59,
  .inl (161, [(S [50, 53, 48, 48, 48, 48])], (.tuple ⟨[(I 250000), (.bool true)]⟩))]
def T3 : Tab := pushT T2 L3
def B60 : List (Nat × List Value) := [(64000, [(.func (.func 80) ⟨[]⟩ ⟨[]⟩)])]
def B61 : List (Nat × List Value) := [(64000, [(.func (.func 80) ⟨[]⟩ ⟨[]⟩)])]
def Q62 : KC := ⟨69, [(A [(S [50, 53, 48, 48, 48, 48]), (S [49])]), (A [(S [48]), (S [49])]), (.func (.func 79) ⟨[]⟩ ⟨[]⟩), (.func (.func 114) ⟨[]⟩ ⟨[(Z 64000 0)]⟩)], 1001, 64064, B60, (.tuple ⟨[(A [(S [50, 53, 48, 48, 48, 48]), (S [49])]), (I 0)]⟩), 1008, B61, [], []⟩
def B63 : List (Nat × List Value) := [(64000, [(S [50, 53, 48, 48, 48, 48]), (S [49]), (S [49, 48, 48, 48, 48, 48, 48]), (S [49])])]
def B64 : List (Nat × List Value) := [(64256, [(S [49, 48, 48, 48, 48, 48, 48]), (S [49])]), (64064, [(S [50, 53, 48, 48, 48, 48]), (S [49])]), (64000, [(S [50, 53, 48, 48, 48, 48]), (S [49]), (S [49, 48, 48, 48, 48, 48, 48]), (S [49])])]
def Q65 : KC := ⟨49, [(C 64000 0 2 2)], 1001, 64064, B63, (I 0), 1007, B64, [], []⟩
def B66 : List (Nat × List Value) := [(64000, [(.func (.func 82) ⟨[]⟩ ⟨[]⟩)])]
def B67 : List (Nat × List Value) := [(64000, [(.func (.func 82) ⟨[]⟩ ⟨[]⟩)])]
def Q68 : KC := ⟨69, [(A [(S [50, 53, 48, 48, 48, 48]), (S [49])]), (A [(S [49, 48, 48, 48, 48, 48, 48]), (S [49])]), (.func (.func 81) ⟨[]⟩ ⟨[]⟩), (.func (.func 114) ⟨[]⟩ ⟨[(Z 64000 0)]⟩)], 1001, 64064, B66, (.tuple ⟨[(A [(S [49]), (S [52])]), (I 0)]⟩), 1011, B67, [], []⟩
def B69 : List (Nat × List Value) := [(64000, [(I 1000000), (I 1000000), (I 0), (I 1), (I 2), (I 0), (I 0), (.bool true)])]
def B70 : List (Nat × List Value) := [(64000, [(I 1000000), (I 1000000), (I 0), (I 1), (I 2), (I 0), (I 0), (.bool true)])]
def Q71 : KC := ⟨102, [(I 250000000000), (Z 64000 0)], 1001, 64064, B69, (A [(I 250000000000), (I 250000000000)]), 1011, B70, [], []⟩
def B72 : List (Nat × List Value) := [(64000, [(.func (.func 64) ⟨[]⟩ ⟨[]⟩), (.func (.func 64) ⟨[]⟩ ⟨[]⟩), (.func (.func 65) ⟨[]⟩ ⟨[]⟩), (.func (.func 65) ⟨[]⟩ ⟨[]⟩), (.func (.func 64) ⟨[]⟩ ⟨[]⟩), (.func (.func 65) ⟨[]⟩ ⟨[]⟩), (.func (.func 65) ⟨[]⟩ ⟨[]⟩), (.func (.func 64) ⟨[]⟩ ⟨[]⟩)]), (64064, [(I 2)]), (64128, [(I 250000000000), (I 250000000000)]), (64192, [(I 250000000000), (I 250000000000)])]
def B73 : List (Nat × List Value) := [(64448, [(I 250000000000), (I 250000000000)]), (64384, [(I 250000000000)]), (64320, [(I 250000000000)]), (64000, [(.func (.func 64) ⟨[]⟩ ⟨[]⟩), (.func (.func 64) ⟨[]⟩ ⟨[]⟩), (.func (.func 65) ⟨[]⟩ ⟨[]⟩), (.func (.func 65) ⟨[]⟩ ⟨[]⟩), (.func (.func 64) ⟨[]⟩ ⟨[]⟩), (.func (.func 65) ⟨[]⟩ ⟨[]⟩), (.func (.func 65) ⟨[]⟩ ⟨[]⟩), (.func (.func 64) ⟨[]⟩ ⟨[]⟩)]), (64064, [(I 2)]), (64128, [(I 250000000000), (I 250000000000)]), (64192, [(I 250000000000), (I 250000000000)]), (64256, [(I 250000000000), (I 250000000000)])]
def Q74 : KC := ⟨183, [(Z 64000 0), (Z 64064 0), (Z 64128 0), (Z 64192 0)], 1004, 64256, B72, (.tuple ⟨[(A [(I 250000000000), (I 250000000000)]), (I 0)]⟩), 1008, B73, [], []⟩
def L4 : List (Sum (FuncId × List Value × Value) KC) := [.inl (110, [(.int .u64 (.ofNat 250000)), (.int .u64 (.ofNat 1))], (.int .u64 (.ofNat 1))),
  .inl (108, [(A [(S [50, 53, 48, 48, 48, 48]), (S [49])])], (.tuple ⟨[(A [(I 250000), (I 1)]), (.bool true)]⟩)),
  .inl (79, [(A [(I 250000), (I 1)]), (A [(I 0), (I 1)])], (.tuple ⟨[(A [(S [50, 53, 48, 48, 48, 48]), (S [49])]), (.bool true)]⟩)),
  .inr Q62,
  .inr Q65,
  .inl (110, [(.int .u64 (.ofNat 250000)), (.int .u64 (.ofNat 1000000))], (.int .u64 (.ofNat 250000))),
  .inl (70, [(A [(I 250000), (I 1)]), (A [(I 1), (I 1000000)])], (.tuple ⟨[(A [(S [49]), (S [52])]), (.bool true)]⟩)),
  .inr Q68,
  .inl (46, [(A [(I 1000000), (I 1000000), (I 0), (I 1), (I 2), (I 0), (I 0), (.bool true)]), (A [(S [49]), (S [52])])], (A [(S [49]), (S [52])])),
  .inl (143, [(.int .u64 (.ofNat 1)), (.int .u64 (.ofNat 2000000000000))], (.tuple ⟨[(.int .u64 (.ofNat 0)), (.int .u64 (.ofNat 2000000000000))]⟩)),
  .inl (112, [(I 1), (I 2000000000000)], (.tuple ⟨[(I 2000000000000), (.bool true)]⟩)),
  .inl (118, [(A [(I 1), (I 4)]), (I 1000000000000)], (.tuple ⟨[(I 250000000000), (.bool true)]⟩)),
  .inl (74, [(A [(S [49]), (S [52])]), (I 1000000000000)], (.tuple ⟨[(I 250000000000), (I 0)]⟩)),
  .inl (91, [(A [(I 1), (I 4)]), (A [(I 1), (I 4)])], (.tuple ⟨[(I 0), (.bool true)]⟩)),
  .inl (50, [(A [(S [49]), (S [52])]), (A [(S [49]), (S [52])])], (.tuple ⟨[(I 0), (I 0)]⟩)),
  .inl (98, [(A [(S [49]), (S [52])])], (.tuple ⟨[(A [(I 250000000000), (I 250000000000)]), (I 0)]⟩)),
  .inr Q71,
  .inr Q74]
def T4 : Tab := pushT T3 L4
def B75 : List (Nat × List Value) := [(64000, [(.func (.func 64) ⟨[]⟩ ⟨[]⟩), (.func (.func 64) ⟨[]⟩ ⟨[]⟩), (.func (.func 65) ⟨[]⟩ ⟨[]⟩), (.func (.func 65) ⟨[]⟩ ⟨[]⟩), (.func (.func 64) ⟨[]⟩ ⟨[]⟩), (.func (.func 65) ⟨[]⟩ ⟨[]⟩), (.func (.func 65) ⟨[]⟩ ⟨[]⟩), (.func (.func 64) ⟨[]⟩ ⟨[]⟩)]), (64064, [(I 2)]), (64128, [(I 250000000000), (I 250000000000)]), (64192, [(I 250000000000), (I 250000000000)]), (64256, [(I 250000000000), (I 250000000000), (I 250000000000), (I 250000000000)])]
def Q76 : KC := ⟨60, [(.func (.func 183) ⟨[]⟩ ⟨[(Z 64000 0), (Z 64064 0), (Z 64128 0), (Z 64192 0)]⟩), (C 64256 0 2 2)], 1005, 64320, B75, (.tuple ⟨[(A [(I 250000000000), (I 250000000000)]), (I 0)]⟩), 1014, B75, [], []⟩
def B77 : List (Nat × List Value) := [(64000, [(I 250000000000), (I 250000000000)])]
def B78 : List (Nat × List Value) := [(64000, [(I 250000000000), (I 250000000000)])]
def Q79 : KC := ⟨53, [(A [(I 250000000000), (I 250000000000)]), (C 64000 0 1 1)], 1001, 64064, B77, (A [(I 250000000000), (I 250000000000)]), 1024, B78, [], []⟩
def B80 : List (Nat × List Value) := [(64000, [(I 0)]), (64064, [(I 1000000000000000000)]), (64128, [(I 250000000000), (I 250000000000)])]
def B81 : List (Nat × List Value) := [(64000, [(I 0)]), (64064, [(I 1000000000000000000)]), (64128, [(I 250000000000), (I 250000000000)])]
def Q82 : KC := ⟨61, [(Z 64000 0), (Z 64064 0), (Z 64128 0)], 1003, 64192, B80, (.tuple ⟨[(A [(I 250000000000), (I 250000000000)]), (I 0)]⟩), 1012, B81, [], []⟩
def B83 : List (Nat × List Value) := [(64000, [(I 0)]), (64064, [(I 1000000000000000000)]), (64128, [(I 250000000000), (I 250000000000)]), (64192, [(I 250000000000), (I 250000000000)])]
def Q84 : KC := ⟨60, [(.func (.func 61) ⟨[]⟩ ⟨[(Z 64000 0), (Z 64064 0), (Z 64128 0)]⟩), (C 64192 0 1 1)], 1004, 64256, B83, (.tuple ⟨[(A [(I 250000000000), (I 250000000000)]), (I 0)]⟩), 1016, B83, [], []⟩
def B85 : List (Nat × List Value) := [(64000, [(.int .u64 (.ofNat 1)), (.int .u64 (.ofNat 0))]), (64064, [(.int .u64 (.ofNat 250000000000)), (.int .u64 (.ofNat 0))])]
def B86 : List (Nat × List Value) := [(64128, [(.int .u64 (.ofNat 250000000000)), (.int .u64 (.ofNat 0))]), (64000, [(.int .u64 (.ofNat 1)), (.int .u64 (.ofNat 0))]), (64064, [(.int .u64 (.ofNat 250000000000)), (.int .u64 (.ofNat 0))])]
def Q87 : KC := ⟨116, [(C 64000 0 1 1), (C 64064 0 1 1)], 1002, 64128, B85, (C 64128 0 1 1), 1003, B86, [], []⟩
def B88 : List (Nat × List Value) := [(64000, [(.int .u64 (.ofNat 250000000000)), (.int .u64 (.ofNat 0))])]
def B89 : List (Nat × List Value) := [(64128, [(.int .u64 (.ofNat 250000000000)), (.int .u64 (.ofNat 0))]), (64064, [(.int .u64 (.ofNat 1)), (.int .u64 (.ofNat 0))]), (64000, [(.int .u64 (.ofNat 250000000000)), (.int .u64 (.ofNat 0))])]
def Q90 : KC := ⟨141, [(C 64000 0 1 1), (I 1)], 1001, 64064, B88, (C 64128 0 1 1), 1003, B89, [], []⟩
def B91 : List (Nat × List Value) := [(64000, [(.int .u64 (.ofNat 250000000000)), (.int .u64 (.ofNat 0))])]
def B92 : List (Nat × List Value) := [(64064, [(.int .u64 (.ofNat 0)), (.int .u64 (.ofNat 250000))]), (64000, [(.int .u64 (.ofNat 250000000000)), (.int .u64 (.ofNat 0))])]
def Q93 : KC := ⟨200, [(C 64000 0 1 1), (.int .u64 (.ofNat 1000000000000))], 1001, 64064, B91, (C 64064 0 2 2), 1002, B92, [], []⟩
def B94 : List (Nat × List Value) := [(64000, [(.int .u64 (.ofNat 250000000000)), (.int .u64 (.ofNat 0))])]
def B95 : List (Nat × List Value) := [(64064, [(.int .u64 (.ofNat 0)), (.int .u64 (.ofNat 250000))]), (64128, [(.int .u64 (.ofNat 0)), (.int .u64 (.ofNat 250000))]), (64000, [(.int .u64 (.ofNat 250000000000)), (.int .u64 (.ofNat 0))])]
def Q96 : KC := ⟨186, [(C 64000 0 1 1), (I 12)], 1001, 64064, B94, (C 64064 0 2 2), 1003, B95, [], []⟩
def B97 : List (Nat × List Value) := [(64000, [(.int .u64 (.ofNat 0)), (.int .u64 (.ofNat 250000))])]
def B98 : List (Nat × List Value) := [(64064, [(.int .u64 (.ofNat 250000000000)), (.int .u64 (.ofNat 0))]), (64000, [(.int .u64 (.ofNat 0)), (.int .u64 (.ofNat 250000))])]
def Q99 : KC := ⟨175, [(C 64000 0 2 2), (.int .u64 (.ofNat 1000000000000))], 1001, 64064, B97, (.tuple ⟨[(C 64064 0 1 1), (.int .u64 (.ofNat 0))]⟩), 1002, B98, [], []⟩
def L5 : List (Sum (FuncId × List Value × Value) KC) := [.inr Q76,
  .inr Q79,
  .inr Q82,
  .inr Q84,
  .inl (184, [(A [(I 1), (I 2)])], (.bool true)),
  .inl (151, [(I 1), (I 2)], (.tuple ⟨[(A [(I 1), (I 2)]), (I 0)]⟩)),
  .inl (143, [(.int .u64 (.ofNat 1)), (.int .u64 (.ofNat 250000000000))], (.tuple ⟨[(.int .u64 (.ofNat 0)), (.int .u64 (.ofNat 250000000000))]⟩)),
  .inr Q87,
  .inr Q90,
  .inl (197, [(I 12)], (.int .u64 (.ofNat 1000000000000))),
  .inl (143, [(.int .u64 (.ofNat 250000000000)), (.int .u64 (.ofNat 1000000000000))], (.tuple ⟨[(.int .u64 (.ofNat 13552)), (.int .u64 (.ofNat 9724313088156499968))]⟩)),
  .inl (166, [(.int .u64 (.ofNat 13552)), (.int .u64 (.ofNat 9724313088156499968)), (.int .u64 (.ofNat 1000000000000000000))], (.tuple ⟨[(.int .u64 (.ofNat 250000)), (.int .u64 (.ofNat 0))]⟩)),
  .inr Q93,
  .inr Q96,
  .inl (182, [(.int .u64 (.ofNat 250000))], (I 6)),
  .inl (143, [(.int .u64 (.ofNat 0)), (.int .u64 (.ofNat 1000000000000000000))], (.tuple ⟨[(.int .u64 (.ofNat 0)), (.int .u64 (.ofNat 0))]⟩)),
  .inl (143, [(.int .u64 (.ofNat 250000)), (.int .u64 (.ofNat 1000000000000000000))], (.tuple ⟨[(.int .u64 (.ofNat 13552)), (.int .u64 (.ofNat 9724313088156499968))]⟩)),
  .inl (166, [(.int .u64 (.ofNat 13552)), (.int .u64 (.ofNat 9724313088156499968)), (.int .u64 (.ofNat 1000000000000))], (.tuple ⟨[(.int .u64 (.ofNat 250000000000)), (.int .u64 (.ofNat 0))]⟩)),
  .inr Q99,
  .inl (182, [(.int .u64 (.ofNat 250000000000))], (I 12))]
def T5 : Tab := pushT T4 L5
def B100 : List (Nat × List Value) := [(64000, [(.int .u64 (.ofNat 250000000000)), (.int .u64 (.ofNat 0))])]
def B101 : List (Nat × List Value) := [(64064, [(.int .u64 (.ofNat 250000))]), (64000, [(.int .u64 (.ofNat 250000000000)), (.int .u64 (.ofNat 0))])]
def Q102 : KC := ⟨175, [(C 64000 0 1 1), (.int .u64 (.ofNat 1000000))], 1001, 64064, B100, (.tuple ⟨[(C 64064 0 1 1), (.int .u64 (.ofNat 0))]⟩), 1002, B101, [], []⟩
def B103 : List (Nat × List Value) := [(64000, [(.int .u64 (.ofNat 250000))])]
def B104 : List (Nat × List Value) := [(64064, [(.int .u64 (.ofNat 2500))]), (64000, [(.int .u64 (.ofNat 250000))])]
def Q105 : KC := ⟨175, [(C 64000 0 1 1), (.int .u64 (.ofNat 100))], 1001, 64064, B103, (.tuple ⟨[(C 64064 0 1 1), (.int .u64 (.ofNat 0))]⟩), 1002, B104, [], []⟩
def B106 : List (Nat × List Value) := [(64000, [(.int .u64 (.ofNat 250000))])]
def B107 : List (Nat × List Value) := [(64064, [(.int .u64 (.ofNat 2500))]), (64000, [(.int .u64 (.ofNat 250000))])]
def Q108 : KC := ⟨188, [(C 64000 0 1 1), (I 2)], 1001, 64064, B106, (C 64064 0 1 1), 1002, B107, [], []⟩
def B109 : List (Nat × List Value) := [(64000, [(.int .u64 (.ofNat 2500))])]
def B110 : List (Nat × List Value) := [(64000, [(.int .u64 (.ofNat 2500))])]
def Q111 : KC := ⟨142, [(C 64000 0 1 1)], 1001, 64064, B109, (I 4), 1001, B110, [], []⟩
def B112 : List (Nat × List Value) := [(64000, [(.int .u64 (.ofNat 2500))])]
def B113 : List (Nat × List Value) := [(64064, [(.int .u64 (.ofNat 25))]), (64000, [(.int .u64 (.ofNat 2500))])]
def Q114 : KC := ⟨175, [(C 64000 0 1 1), (.int .u64 (.ofNat 100))], 1001, 64064, B112, (.tuple ⟨[(C 64064 0 1 1), (.int .u64 (.ofNat 0))]⟩), 1002, B113, [], []⟩
def B115 : List (Nat × List Value) := [(64000, [(.int .u64 (.ofNat 2500))])]
def B116 : List (Nat × List Value) := [(64064, [(.int .u64 (.ofNat 25))]), (64000, [(.int .u64 (.ofNat 2500))])]
def Q117 : KC := ⟨188, [(C 64000 0 1 1), (I 2)], 1001, 64064, B115, (C 64064 0 1 1), 1002, B116, [], []⟩
def B118 : List (Nat × List Value) := [(64000, [(.int .u64 (.ofNat 2)), (.int .u64 (.ofNat 0))])]
def B119 : List (Nat × List Value) := [(64064, [(.int .u64 (.ofNat 4)), (.int .u64 (.ofNat 0))]), (64000, [(.int .u64 (.ofNat 2)), (.int .u64 (.ofNat 0))])]
def Q120 : KC := ⟨116, [(C 64000 0 1 1), (C 64000 0 1 1)], 1001, 64064, B118, (C 64064 0 1 1), 1002, B119, [], []⟩
def B121 : List (Nat × List Value) := [(64000, [(.int .u64 (.ofNat 1)), (.int .u64 (.ofNat 0))]), (64064, [(.int .u64 (.ofNat 4)), (.int .u64 (.ofNat 0))])]
def B122 : List (Nat × List Value) := [(64128, [(.int .u64 (.ofNat 4)), (.int .u64 (.ofNat 0))]), (64000, [(.int .u64 (.ofNat 1)), (.int .u64 (.ofNat 0))]), (64064, [(.int .u64 (.ofNat 4)), (.int .u64 (.ofNat 0))])]
def Q123 : KC := ⟨116, [(C 64000 0 1 1), (C 64064 0 1 1)], 1002, 64128, B121, (C 64128 0 1 1), 1003, B122, [], []⟩
def B124 : List (Nat × List Value) := [(64000, [(.int .u64 (.ofNat 2)), (.int .u64 (.ofNat 0))])]
def B125 : List (Nat × List Value) := [(64192, [(.int .u64 (.ofNat 4)), (.int .u64 (.ofNat 0))]), (64064, [(.int .u64 (.ofNat 1)), (.int .u64 (.ofNat 0))]), (64128, [(.int .u64 (.ofNat 4)), (.int .u64 (.ofNat 0))]), (64000, [(.int .u64 (.ofNat 2)), (.int .u64 (.ofNat 0))])]
def Q126 : KC := ⟨141, [(C 64000 0 1 1), (I 2)], 1001, 64064, B124, (C 64192 0 1 1), 1004, B125, [], []⟩
def B127 : List (Nat × List Value) := [(64000, [(.int .u64 (.ofNat 3)), (.int .u64 (.ofNat 0))])]
def B128 : List (Nat × List Value) := [(64064, [(.int .u64 (.ofNat 9)), (.int .u64 (.ofNat 0))]), (64000, [(.int .u64 (.ofNat 3)), (.int .u64 (.ofNat 0))])]
def Q129 : KC := ⟨116, [(C 64000 0 1 1), (C 64000 0 1 1)], 1001, 64064, B127, (C 64064 0 1 1), 1002, B128, [], []⟩
def B130 : List (Nat × List Value) := [(64000, [(.int .u64 (.ofNat 1)), (.int .u64 (.ofNat 0))]), (64064, [(.int .u64 (.ofNat 9)), (.int .u64 (.ofNat 0))])]
def B131 : List (Nat × List Value) := [(64128, [(.int .u64 (.ofNat 9)), (.int .u64 (.ofNat 0))]), (64000, [(.int .u64 (.ofNat 1)), (.int .u64 (.ofNat 0))]), (64064, [(.int .u64 (.ofNat 9)), (.int .u64 (.ofNat 0))])]
def Q132 : KC := ⟨116, [(C 64000 0 1 1), (C 64064 0 1 1)], 1002, 64128, B130, (C 64128 0 1 1), 1003, B131, [], []⟩
def B133 : List (Nat × List Value) := [(64000, [(.int .u64 (.ofNat 3)), (.int .u64 (.ofNat 0))])]
def B134 : List (Nat × List Value) := [(64192, [(.int .u64 (.ofNat 9)), (.int .u64 (.ofNat 0))]), (64064, [(.int .u64 (.ofNat 1)), (.int .u64 (.ofNat 0))]), (64128, [(.int .u64 (.ofNat 9)), (.int .u64 (.ofNat 0))]), (64000, [(.int .u64 (.ofNat 3)), (.int .u64 (.ofNat 0))])]
def Q135 : KC := ⟨141, [(C 64000 0 1 1), (I 2)], 1001, 64064, B133, (C 64192 0 1 1), 1004, B134, [], []⟩
def L6 : List (Sum (FuncId × List Value × Value) KC) := [.inl (197, [(I 6)], (.int .u64 (.ofNat 1000000))),
  .inr Q102,
  .inr Q105,
  .inr Q108,
  .inr Q111,
  .inr Q114,
  .inr Q117,
  .inl (143, [(.int .u64 (.ofNat 2)), (.int .u64 (.ofNat 2))], (.tuple ⟨[(.int .u64 (.ofNat 0)), (.int .u64 (.ofNat 4))]⟩)),
  .inr Q120,
  .inr Q123,
  .inr Q126,
  .inl (143, [(.int .u64 (.ofNat 3)), (.int .u64 (.ofNat 3))], (.tuple ⟨[(.int .u64 (.ofNat 0)), (.int .u64 (.ofNat 9))]⟩)),
  .inr Q129,
  .inl (143, [(.int .u64 (.ofNat 1)), (.int .u64 (.ofNat 9))], (.tuple ⟨[(.int .u64 (.ofNat 0)), (.int .u64 (.ofNat 9))]⟩)),
  .inr Q132,
  .inr Q135,
  .inl (143, [(.int .u64 (.ofNat 4)), (.int .u64 (.ofNat 4))], (.tuple ⟨[(.int .u64 (.ofNat 0)), (.int .u64 (.ofNat 16))]⟩))]
def T6 : Tab := pushT T5 L6
def B136 : List (Nat × List Value) := [(64000, [(.int .u64 (.ofNat 4)), (.int .u64 (.ofNat 0))])]
def B137 : List (Nat × List Value) := [(64064, [(.int .u64 (.ofNat 16)), (.int .u64 (.ofNat 0))]), (64000, [(.int .u64 (.ofNat 4)), (.int .u64 (.ofNat 0))])]
def Q138 : KC := ⟨116, [(C 64000 0 1 1), (C 64000 0 1 1)], 1001, 64064, B136, (C 64064 0 1 1), 1002, B137, [], []⟩
def B139 : List (Nat × List Value) := [(64000, [(.int .u64 (.ofNat 1)), (.int .u64 (.ofNat 0))]), (64064, [(.int .u64 (.ofNat 16)), (.int .u64 (.ofNat 0))])]
def B140 : List (Nat × List Value) := [(64128, [(.int .u64 (.ofNat 16)), (.int .u64 (.ofNat 0))]), (64000, [(.int .u64 (.ofNat 1)), (.int .u64 (.ofNat 0))]), (64064, [(.int .u64 (.ofNat 16)), (.int .u64 (.ofNat 0))])]
def Q141 : KC := ⟨116, [(C 64000 0 1 1), (C 64064 0 1 1)], 1002, 64128, B139, (C 64128 0 1 1), 1003, B140, [], []⟩
def B142 : List (Nat × List Value) := [(64000, [(.int .u64 (.ofNat 4)), (.int .u64 (.ofNat 0))])]
def B143 : List (Nat × List Value) := [(64192, [(.int .u64 (.ofNat 16)), (.int .u64 (.ofNat 0))]), (64064, [(.int .u64 (.ofNat 1)), (.int .u64 (.ofNat 0))]), (64128, [(.int .u64 (.ofNat 16)), (.int .u64 (.ofNat 0))]), (64000, [(.int .u64 (.ofNat 4)), (.int .u64 (.ofNat 0))])]
def Q144 : KC := ⟨141, [(C 64000 0 1 1), (I 2)], 1001, 64064, B142, (C 64192 0 1 1), 1004, B143, [], []⟩
def B145 : List (Nat × List Value) := [(64000, [(.int .u64 (.ofNat 5)), (.int .u64 (.ofNat 0))])]
def B146 : List (Nat × List Value) := [(64064, [(.int .u64 (.ofNat 25)), (.int .u64 (.ofNat 0))]), (64000, [(.int .u64 (.ofNat 5)), (.int .u64 (.ofNat 0))])]
def Q147 : KC := ⟨116, [(C 64000 0 1 1), (C 64000 0 1 1)], 1001, 64064, B145, (C 64064 0 1 1), 1002, B146, [], []⟩
def B148 : List (Nat × List Value) := [(64000, [(.int .u64 (.ofNat 1)), (.int .u64 (.ofNat 0))]), (64064, [(.int .u64 (.ofNat 25)), (.int .u64 (.ofNat 0))])]
def B149 : List (Nat × List Value) := [(64128, [(.int .u64 (.ofNat 25)), (.int .u64 (.ofNat 0))]), (64000, [(.int .u64 (.ofNat 1)), (.int .u64 (.ofNat 0))]), (64064, [(.int .u64 (.ofNat 25)), (.int .u64 (.ofNat 0))])]
def Q150 : KC := ⟨116, [(C 64000 0 1 1), (C 64064 0 1 1)], 1002, 64128, B148, (C 64128 0 1 1), 1003, B149, [], []⟩
def B151 : List (Nat × List Value) := [(64000, [(.int .u64 (.ofNat 5)), (.int .u64 (.ofNat 0))])]
def B152 : List (Nat × List Value) := [(64192, [(.int .u64 (.ofNat 25)), (.int .u64 (.ofNat 0))]), (64064, [(.int .u64 (.ofNat 1)), (.int .u64 (.ofNat 0))]), (64128, [(.int .u64 (.ofNat 25)), (.int .u64 (.ofNat 0))]), (64000, [(.int .u64 (.ofNat 5)), (.int .u64 (.ofNat 0))])]
def Q153 : KC := ⟨141, [(C 64000 0 1 1), (I 2)], 1001, 64064, B151, (C 64192 0 1 1), 1004, B152, [], []⟩
def B154 : List (Nat × List Value) := [(64000, [(.int .u64 (.ofNat 6)), (.int .u64 (.ofNat 0))])]
def B155 : List (Nat × List Value) := [(64064, [(.int .u64 (.ofNat 36)), (.int .u64 (.ofNat 0))]), (64000, [(.int .u64 (.ofNat 6)), (.int .u64 (.ofNat 0))])]
def Q156 : KC := ⟨116, [(C 64000 0 1 1), (C 64000 0 1 1)], 1001, 64064, B154, (C 64064 0 1 1), 1002, B155, [], []⟩
def B157 : List (Nat × List Value) := [(64000, [(.int .u64 (.ofNat 1)), (.int .u64 (.ofNat 0))]), (64064, [(.int .u64 (.ofNat 36)), (.int .u64 (.ofNat 0))])]
def B158 : List (Nat × List Value) := [(64128, [(.int .u64 (.ofNat 36)), (.int .u64 (.ofNat 0))]), (64000, [(.int .u64 (.ofNat 1)), (.int .u64 (.ofNat 0))]), (64064, [(.int .u64 (.ofNat 36)), (.int .u64 (.ofNat 0))])]
def Q159 : KC := ⟨116, [(C 64000 0 1 1), (C 64064 0 1 1)], 1002, 64128, B157, (C 64128 0 1 1), 1003, B158, [], []⟩
def L7 : List (Sum (FuncId × List Value × Value) KC) := [.inr Q138,
  .inl (143, [(.int .u64 (.ofNat 1)), (.int .u64 (.ofNat 16))], (.tuple ⟨[(.int .u64 (.ofNat 0)), (.int .u64 (.ofNat 16))]⟩)),
  .inr Q141,
  .inr Q144,
  .inl (143, [(.int .u64 (.ofNat 5)), (.int .u64 (.ofNat 5))], (.tuple ⟨[(.int .u64 (.ofNat 0)), (.int .u64 (.ofNat 25))]⟩)),
  .inr Q147,
  .inl (143, [(.int .u64 (.ofNat 1)), (.int .u64 (.ofNat 25))], (.tuple ⟨[(.int .u64 (.ofNat 0)), (.int .u64 (.ofNat 25))]⟩)),
  .inr Q150,
  .inr Q153,
  .inl (143, [(.int .u64 (.ofNat 6)), (.int .u64 (.ofNat 6))], (.tuple ⟨[(.int .u64 (.ofNat 0)), (.int .u64 (.ofNat 36))]⟩)),
  .inr Q156,
  .inl (143, [(.int .u64 (.ofNat 1)), (.int .u64 (.ofNat 36))], (.tuple ⟨[(.int .u64 (.ofNat 0)), (.int .u64 (.ofNat 36))]⟩)),
  .inr Q159]
def T7 : Tab := pushT T6 L7
def B160 : List (Nat × List Value) := [(64000, [(.int .u64 (.ofNat 6)), (.int .u64 (.ofNat 0))])]
def B161 : List (Nat × List Value) := [(64192, [(.int .u64 (.ofNat 36)), (.int .u64 (.ofNat 0))]), (64064, [(.int .u64 (.ofNat 1)), (.int .u64 (.ofNat 0))]), (64128, [(.int .u64 (.ofNat 36)), (.int .u64 (.ofNat 0))]), (64000, [(.int .u64 (.ofNat 6)), (.int .u64 (.ofNat 0))])]
def Q162 : KC := ⟨141, [(C 64000 0 1 1), (I 2)], 1001, 64064, B160, (C 64192 0 1 1), 1004, B161, [], []⟩
def B163 : List (Nat × List Value) := [(64000, [(.int .u64 (.ofNat 25))])]
def B164 : List (Nat × List Value) := [(64000, [(.int .u64 (.ofNat 25))]), (65344, [(.int .u64 (.ofNat 5)), (.int .u64 (.ofNat 0))])]
def Q165 : KC := ⟨204, [(C 64000 0 1 1), (I 2)], 1001, 64064, B163, (C 65344 0 1 1), 1026, B164, [], []⟩
def B166 : List (Nat × List Value) := [(64000, [(.int .u64 (.ofNat 25))])]
def B167 : List (Nat × List Value) := [(64000, [(.int .u64 (.ofNat 25))]), (65344, [(.int .u64 (.ofNat 5)), (.int .u64 (.ofNat 0))])]
def Q168 : KC := ⟨187, [(C 64000 0 1 1), (I 2)], 1001, 64064, B166, (C 65344 0 1 1), 1026, B167, [], []⟩
def B169 : List (Nat × List Value) := [(64000, [(.int .u64 (.ofNat 5)), (.int .u64 (.ofNat 0))]), (64064, [(.int .u64 (.ofNat 1)), (.int .u64 (.ofNat 0))])]
def B170 : List (Nat × List Value) := [(64128, [(.int .u64 (.ofNat 6)), (.int .u64 (.ofNat 0))]), (64000, [(.int .u64 (.ofNat 5)), (.int .u64 (.ofNat 0))]), (64064, [(.int .u64 (.ofNat 1)), (.int .u64 (.ofNat 0))])]
def Q171 : KC := ⟨179, [(C 64000 0 1 1), (C 64064 0 1 1)], 1002, 64128, B169, (C 64128 0 1 1), 1003, B170, [], []⟩
def B172 : List (Nat × List Value) := [(64000, [(.int .u64 (.ofNat 6)), (.int .u64 (.ofNat 0))])]
def B173 : List (Nat × List Value) := [(64064, [(.int .u64 (.ofNat 60)), (.int .u64 (.ofNat 0))]), (64000, [(.int .u64 (.ofNat 6)), (.int .u64 (.ofNat 0))])]
def Q174 : KC := ⟨200, [(C 64000 0 1 1), (.int .u64 (.ofNat 10))], 1001, 64064, B172, (C 64064 0 2 2), 1002, B173, [], []⟩
def B175 : List (Nat × List Value) := [(64000, [(.int .u64 (.ofNat 6)), (.int .u64 (.ofNat 0))])]
def B176 : List (Nat × List Value) := [(64064, [(.int .u64 (.ofNat 60)), (.int .u64 (.ofNat 0))]), (64128, [(.int .u64 (.ofNat 60)), (.int .u64 (.ofNat 0))]), (64000, [(.int .u64 (.ofNat 6)), (.int .u64 (.ofNat 0))])]
def Q177 : KC := ⟨186, [(C 64000 0 1 1), (I 1)], 1001, 64064, B175, (C 64064 0 1 1), 1003, B176, [], []⟩
def B178 : List (Nat × List Value) := [(64000, [(.int .u64 (.ofNat 1)), (.int .u64 (.ofNat 0))]), (64064, [(.int .u64 (.ofNat 60)), (.int .u64 (.ofNat 0))])]
def B179 : List (Nat × List Value) := [(64128, [(.int .u64 (.ofNat 60)), (.int .u64 (.ofNat 0))]), (64000, [(.int .u64 (.ofNat 1)), (.int .u64 (.ofNat 0))]), (64064, [(.int .u64 (.ofNat 60)), (.int .u64 (.ofNat 0))])]
def Q180 : KC := ⟨116, [(C 64000 0 1 1), (C 64064 0 1 1)], 1002, 64128, B178, (C 64128 0 1 1), 1003, B179, [], []⟩
def B181 : List (Nat × List Value) := [(64000, [(.int .u64 (.ofNat 60)), (.int .u64 (.ofNat 0))])]
def B182 : List (Nat × List Value) := [(64128, [(.int .u64 (.ofNat 60)), (.int .u64 (.ofNat 0))]), (64064, [(.int .u64 (.ofNat 1)), (.int .u64 (.ofNat 0))]), (64000, [(.int .u64 (.ofNat 60)), (.int .u64 (.ofNat 0))])]
def Q183 : KC := ⟨141, [(C 64000 0 1 1), (I 1)], 1001, 64064, B181, (C 64128 0 1 1), 1003, B182, [], []⟩
def B184 : List (Nat × List Value) := [(64000, [(.int .u64 (.ofNat 2500))])]
def B185 : List (Nat × List Value) := [(64064, [(.int .u64 (.ofNat 41))]), (64000, [(.int .u64 (.ofNat 2500))])]
def Q186 : KC := ⟨175, [(C 64000 0 1 1), (.int .u64 (.ofNat 60))], 1001, 64064, B184, (.tuple ⟨[(C 64064 0 1 1), (.int .u64 (.ofNat 40))]⟩), 1002, B185, [], []⟩
def B187 : List (Nat × List Value) := [(64000, [(.int .u64 (.ofNat 2500))]), (64064, [(.int .u64 (.ofNat 60)), (.int .u64 (.ofNat 0))])]
def B188 : List (Nat × List Value) := [(64192, [(.int .u64 (.ofNat 40)), (.int .u64 (.ofNat 0))]), (64128, [(.int .u64 (.ofNat 41))]), (64000, [(.int .u64 (.ofNat 2500))]), (64064, [(.int .u64 (.ofNat 60)), (.int .u64 (.ofNat 0))])]
def Q189 : KC := ⟨135, [(C 64000 0 1 1), (C 64064 0 1 1)], 1002, 64128, B187, (.tuple ⟨[(C 64128 0 1 1), (C 64192 0 1 1)]⟩), 1004, B188, [], []⟩
def B190 : List (Nat × List Value) := [(64000, [(.int .u64 (.ofNat 60)), (.int .u64 (.ofNat 0))])]
def B191 : List (Nat × List Value) := [(64064, [(.int .u64 (.ofNat 60)), (.int .u64 (.ofNat 0))]), (64000, [(.int .u64 (.ofNat 60)), (.int .u64 (.ofNat 0))])]
def Q192 : KC := ⟨200, [(C 64000 0 1 1), (.int .u64 (.ofNat 1))], 1001, 64064, B190, (C 64064 0 2 2), 1002, B191, [], []⟩
def B193 : List (Nat × List Value) := [(64000, [(.int .u64 (.ofNat 60)), (.int .u64 (.ofNat 0))]), (64064, [(.int .u64 (.ofNat 41))])]
def B194 : List (Nat × List Value) := [(64128, [(.int .u64 (.ofNat 101)), (.int .u64 (.ofNat 0))]), (64000, [(.int .u64 (.ofNat 60)), (.int .u64 (.ofNat 0))]), (64064, [(.int .u64 (.ofNat 41))])]
def Q195 : KC := ⟨179, [(C 64000 0 1 1), (C 64064 0 1 1)], 1002, 64128, B193, (C 64128 0 1 1), 1003, B194, [], []⟩
def B196 : List (Nat × List Value) := [(64000, [(.int .u64 (.ofNat 101)), (.int .u64 (.ofNat 0))])]
def B197 : List (Nat × List Value) := [(64064, [(.int .u64 (.ofNat 50))]), (64000, [(.int .u64 (.ofNat 101)), (.int .u64 (.ofNat 0))])]
def Q198 : KC := ⟨175, [(C 64000 0 1 1), (.int .u64 (.ofNat 2))], 1001, 64064, B196, (.tuple ⟨[(C 64064 0 1 1), (.int .u64 (.ofNat 1))]⟩), 1002, B197, [], []⟩
def L8 : List (Sum (FuncId × List Value × Value) KC) := [.inr Q162,
  .inr Q165,
  .inr Q168,
  .inr Q171,
  .inl (143, [(.int .u64 (.ofNat 6)), (.int .u64 (.ofNat 10))], (.tuple ⟨[(.int .u64 (.ofNat 0)), (.int .u64 (.ofNat 60))]⟩)),
  .inr Q174,
  .inr Q177,
  .inl (143, [(.int .u64 (.ofNat 1)), (.int .u64 (.ofNat 60))], (.tuple ⟨[(.int .u64 (.ofNat 0)), (.int .u64 (.ofNat 60))]⟩)),
  .inr Q180,
  .inr Q183,
  .inr Q186,
  .inr Q189,
  .inl (143, [(.int .u64 (.ofNat 60)), (.int .u64 (.ofNat 1))], (.tuple ⟨[(.int .u64 (.ofNat 0)), (.int .u64 (.ofNat 60))]⟩)),
  .inr Q192,
  .inr Q195,
  .inr Q198,
  .inl (143, [(.int .u64 (.ofNat 1)), (.int .u64 (.ofNat 50))], (.tuple ⟨[(.int .u64 (.ofNat 0)), (.int .u64 (.ofNat 50))]⟩))]
def T8 : Tab := pushT T7 L8
def B199 : List (Nat × List Value) := [(64000, [(.int .u64 (.ofNat 1)), (.int .u64 (.ofNat 0))]), (64064, [(.int .u64 (.ofNat 50))])]
def B200 : List (Nat × List Value) := [(64128, [(.int .u64 (.ofNat 50)), (.int .u64 (.ofNat 0))]), (64000, [(.int .u64 (.ofNat 1)), (.int .u64 (.ofNat 0))]), (64064, [(.int .u64 (.ofNat 50))])]
def Q201 : KC := ⟨116, [(C 64000 0 1 1), (C 64064 0 1 1)], 1002, 64128, B199, (C 64128 0 1 1), 1003, B200, [], []⟩
def B202 : List (Nat × List Value) := [(64000, [(.int .u64 (.ofNat 50))])]
def B203 : List (Nat × List Value) := [(64128, [(.int .u64 (.ofNat 50)), (.int .u64 (.ofNat 0))]), (64064, [(.int .u64 (.ofNat 1)), (.int .u64 (.ofNat 0))]), (64000, [(.int .u64 (.ofNat 50))])]
def Q204 : KC := ⟨141, [(C 64000 0 1 1), (I 1)], 1001, 64064, B202, (C 64128 0 1 1), 1003, B203, [], []⟩
def B205 : List (Nat × List Value) := [(64000, [(.int .u64 (.ofNat 2500))])]
def B206 : List (Nat × List Value) := [(64064, [(.int .u64 (.ofNat 50))]), (64000, [(.int .u64 (.ofNat 2500))])]
def Q207 : KC := ⟨175, [(C 64000 0 1 1), (.int .u64 (.ofNat 50))], 1001, 64064, B205, (.tuple ⟨[(C 64064 0 1 1), (.int .u64 (.ofNat 0))]⟩), 1002, B206, [], []⟩
def B208 : List (Nat × List Value) := [(64000, [(.int .u64 (.ofNat 2500))]), (64064, [(.int .u64 (.ofNat 50)), (.int .u64 (.ofNat 0))])]
def B209 : List (Nat × List Value) := [(64192, [(.int .u64 (.ofNat 0)), (.int .u64 (.ofNat 0))]), (64128, [(.int .u64 (.ofNat 50))]), (64000, [(.int .u64 (.ofNat 2500))]), (64064, [(.int .u64 (.ofNat 50)), (.int .u64 (.ofNat 0))])]
def Q210 : KC := ⟨135, [(C 64000 0 1 1), (C 64064 0 1 1)], 1002, 64128, B208, (.tuple ⟨[(C 64128 0 1 1), (C 64192 0 0 0)]⟩), 1004, B209, [], []⟩
def B211 : List (Nat × List Value) := [(64000, [(.int .u64 (.ofNat 50))])]
def B212 : List (Nat × List Value) := [(64064, [(.int .u64 (.ofNat 50)), (.int .u64 (.ofNat 0))]), (64000, [(.int .u64 (.ofNat 50))])]
def Q213 : KC := ⟨200, [(C 64000 0 1 1), (.int .u64 (.ofNat 1))], 1001, 64064, B211, (C 64064 0 2 2), 1002, B212, [], []⟩
def B214 : List (Nat × List Value) := [(64000, [(.int .u64 (.ofNat 50)), (.int .u64 (.ofNat 0))]), (64064, [(.int .u64 (.ofNat 50))])]
def B215 : List (Nat × List Value) := [(64128, [(.int .u64 (.ofNat 100)), (.int .u64 (.ofNat 0))]), (64000, [(.int .u64 (.ofNat 50)), (.int .u64 (.ofNat 0))]), (64064, [(.int .u64 (.ofNat 50))])]
def Q216 : KC := ⟨179, [(C 64000 0 1 1), (C 64064 0 1 1)], 1002, 64128, B214, (C 64128 0 1 1), 1003, B215, [], []⟩
def B217 : List (Nat × List Value) := [(64000, [(.int .u64 (.ofNat 100)), (.int .u64 (.ofNat 0))])]
def B218 : List (Nat × List Value) := [(64064, [(.int .u64 (.ofNat 50))]), (64000, [(.int .u64 (.ofNat 100)), (.int .u64 (.ofNat 0))])]
def Q219 : KC := ⟨175, [(C 64000 0 1 1), (.int .u64 (.ofNat 2))], 1001, 64064, B217, (.tuple ⟨[(C 64064 0 1 1), (.int .u64 (.ofNat 0))]⟩), 1002, B218, [], []⟩
def B220 : List (Nat × List Value) := [(64000, [(.int .u64 (.ofNat 2500))])]
def B221 : List (Nat × List Value) := [(66368, [(.int .u64 (.ofNat 50))]), (64000, [(.int .u64 (.ofNat 2500))])]
def Q222 : KC := ⟨187, [(C 64000 0 1 1), (I 2)], 1001, 64064, B220, (C 66368 0 1 1), 1045, B221, [], []⟩
def B223 : List (Nat × List Value) := [(64000, [(.int .u64 (.ofNat 50))]), (64064, [(.int .u64 (.ofNat 1)), (.int .u64 (.ofNat 0))])]
def B224 : List (Nat × List Value) := [(64128, [(.int .u64 (.ofNat 51)), (.int .u64 (.ofNat 0))]), (64000, [(.int .u64 (.ofNat 50))]), (64064, [(.int .u64 (.ofNat 1)), (.int .u64 (.ofNat 0))])]
def Q225 : KC := ⟨179, [(C 64000 0 1 1), (C 64064 0 1 1)], 1002, 64128, B223, (C 64128 0 1 1), 1003, B224, [], []⟩
def B226 : List (Nat × List Value) := [(64000, [(.int .u64 (.ofNat 51)), (.int .u64 (.ofNat 0))])]
def B227 : List (Nat × List Value) := [(64064, [(.int .u64 (.ofNat 510)), (.int .u64 (.ofNat 0))]), (64000, [(.int .u64 (.ofNat 51)), (.int .u64 (.ofNat 0))])]
def Q228 : KC := ⟨200, [(C 64000 0 1 1), (.int .u64 (.ofNat 10))], 1001, 64064, B226, (C 64064 0 2 2), 1002, B227, [], []⟩
def B229 : List (Nat × List Value) := [(64000, [(.int .u64 (.ofNat 51)), (.int .u64 (.ofNat 0))])]
def B230 : List (Nat × List Value) := [(64064, [(.int .u64 (.ofNat 510)), (.int .u64 (.ofNat 0))]), (64128, [(.int .u64 (.ofNat 510)), (.int .u64 (.ofNat 0))]), (64000, [(.int .u64 (.ofNat 51)), (.int .u64 (.ofNat 0))])]
def Q231 : KC := ⟨186, [(C 64000 0 1 1), (I 1)], 1001, 64064, B229, (C 64064 0 1 1), 1003, B230, [], []⟩
def B232 : List (Nat × List Value) := [(64000, [(.int .u64 (.ofNat 1)), (.int .u64 (.ofNat 0))]), (64064, [(.int .u64 (.ofNat 510)), (.int .u64 (.ofNat 0))])]
def B233 : List (Nat × List Value) := [(64128, [(.int .u64 (.ofNat 510)), (.int .u64 (.ofNat 0))]), (64000, [(.int .u64 (.ofNat 1)), (.int .u64 (.ofNat 0))]), (64064, [(.int .u64 (.ofNat 510)), (.int .u64 (.ofNat 0))])]
def Q234 : KC := ⟨116, [(C 64000 0 1 1), (C 64064 0 1 1)], 1002, 64128, B232, (C 64128 0 1 1), 1003, B233, [], []⟩
def B235 : List (Nat × List Value) := [(64000, [(.int .u64 (.ofNat 510)), (.int .u64 (.ofNat 0))])]
def B236 : List (Nat × List Value) := [(64128, [(.int .u64 (.ofNat 510)), (.int .u64 (.ofNat 0))]), (64064, [(.int .u64 (.ofNat 1)), (.int .u64 (.ofNat 0))]), (64000, [(.int .u64 (.ofNat 510)), (.int .u64 (.ofNat 0))])]
def Q237 : KC := ⟨141, [(C 64000 0 1 1), (I 1)], 1001, 64064, B235, (C 64128 0 1 1), 1003, B236, [], []⟩
def B238 : List (Nat × List Value) := [(64000, [(.int .u64 (.ofNat 250000))])]
def B239 : List (Nat × List Value) := [(64064, [(.int .u64 (.ofNat 490))]), (64000, [(.int .u64 (.ofNat 250000))])]
def Q240 : KC := ⟨175, [(C 64000 0 1 1), (.int .u64 (.ofNat 510))], 1001, 64064, B238, (.tuple ⟨[(C 64064 0 1 1), (.int .u64 (.ofNat 100))]⟩), 1002, B239, [], []⟩
def B241 : List (Nat × List Value) := [(64000, [(.int .u64 (.ofNat 250000))]), (64064, [(.int .u64 (.ofNat 510)), (.int .u64 (.ofNat 0))])]
def B242 : List (Nat × List Value) := [(64192, [(.int .u64 (.ofNat 100)), (.int .u64 (.ofNat 0))]), (64128, [(.int .u64 (.ofNat 490))]), (64000, [(.int .u64 (.ofNat 250000))]), (64064, [(.int .u64 (.ofNat 510)), (.int .u64 (.ofNat 0))])]
def Q243 : KC := ⟨135, [(C 64000 0 1 1), (C 64064 0 1 1)], 1002, 64128, B241, (.tuple ⟨[(C 64128 0 1 1), (C 64192 0 1 1)]⟩), 1004, B242, [], []⟩
def L9 : List (Sum (FuncId × List Value × Value) KC) := [.inr Q201,
  .inr Q204,
  .inr Q207,
  .inr Q210,
  .inl (143, [(.int .u64 (.ofNat 50)), (.int .u64 (.ofNat 1))], (.tuple ⟨[(.int .u64 (.ofNat 0)), (.int .u64 (.ofNat 50))]⟩)),
  .inr Q213,
  .inr Q216,
  .inr Q219,
  .inr Q222,
  .inr Q225,
  .inl (143, [(.int .u64 (.ofNat 51)), (.int .u64 (.ofNat 10))], (.tuple ⟨[(.int .u64 (.ofNat 0)), (.int .u64 (.ofNat 510))]⟩)),
  .inr Q228,
  .inr Q231,
  .inl (143, [(.int .u64 (.ofNat 1)), (.int .u64 (.ofNat 510))], (.tuple ⟨[(.int .u64 (.ofNat 0)), (.int .u64 (.ofNat 510))]⟩)),
  .inr Q234,
  .inr Q237,
  .inr Q240,
  .inr Q243,
  .inl (143, [(.int .u64 (.ofNat 510)), (.int .u64 (.ofNat 1))], (.tuple ⟨[(.int .u64 (.ofNat 0)), (.int .u64 (.ofNat 510))]⟩))]
def T9 : Tab := pushT T8 L9
def B244 : List (Nat × List Value) := [(64000, [(.int .u64 (.ofNat 510)), (.int .u64 (.ofNat 0))])]
def B245 : List (Nat × List Value) := [(64064, [(.int .u64 (.ofNat 510)), (.int .u64 (.ofNat 0))]), (64000, [(.int .u64 (.ofNat 510)), (.int .u64 (.ofNat 0))])]
def Q246 : KC := ⟨200, [(C 64000 0 1 1), (.int .u64 (.ofNat 1))], 1001, 64064, B244, (C 64064 0 2 2), 1002, B245, [], []⟩
def B247 : List (Nat × List Value) := [(64000, [(.int .u64 (.ofNat 510)), (.int .u64 (.ofNat 0))]), (64064, [(.int .u64 (.ofNat 490))])]
def B248 : List (Nat × List Value) := [(64128, [(.int .u64 (.ofNat 1000)), (.int .u64 (.ofNat 0))]), (64000, [(.int .u64 (.ofNat 510)), (.int .u64 (.ofNat 0))]), (64064, [(.int .u64 (.ofNat 490))])]
def Q249 : KC := ⟨179, [(C 64000 0 1 1), (C 64064 0 1 1)], 1002, 64128, B247, (C 64128 0 1 1), 1003, B248, [], []⟩
def B250 : List (Nat × List Value) := [(64000, [(.int .u64 (.ofNat 1000)), (.int .u64 (.ofNat 0))])]
def B251 : List (Nat × List Value) := [(64064, [(.int .u64 (.ofNat 500))]), (64000, [(.int .u64 (.ofNat 1000)), (.int .u64 (.ofNat 0))])]
def Q252 : KC := ⟨175, [(C 64000 0 1 1), (.int .u64 (.ofNat 2))], 1001, 64064, B250, (.tuple ⟨[(C 64064 0 1 1), (.int .u64 (.ofNat 0))]⟩), 1002, B251, [], []⟩
def B253 : List (Nat × List Value) := [(64000, [(.int .u64 (.ofNat 1)), (.int .u64 (.ofNat 0))]), (64064, [(.int .u64 (.ofNat 500))])]
def B254 : List (Nat × List Value) := [(64128, [(.int .u64 (.ofNat 500)), (.int .u64 (.ofNat 0))]), (64000, [(.int .u64 (.ofNat 1)), (.int .u64 (.ofNat 0))]), (64064, [(.int .u64 (.ofNat 500))])]
def Q255 : KC := ⟨116, [(C 64000 0 1 1), (C 64064 0 1 1)], 1002, 64128, B253, (C 64128 0 1 1), 1003, B254, [], []⟩
def B256 : List (Nat × List Value) := [(64000, [(.int .u64 (.ofNat 500))])]
def B257 : List (Nat × List Value) := [(64128, [(.int .u64 (.ofNat 500)), (.int .u64 (.ofNat 0))]), (64064, [(.int .u64 (.ofNat 1)), (.int .u64 (.ofNat 0))]), (64000, [(.int .u64 (.ofNat 500))])]
def Q258 : KC := ⟨141, [(C 64000 0 1 1), (I 1)], 1001, 64064, B256, (C 64128 0 1 1), 1003, B257, [], []⟩
def B259 : List (Nat × List Value) := [(64000, [(.int .u64 (.ofNat 250000))])]
def B260 : List (Nat × List Value) := [(64064, [(.int .u64 (.ofNat 500))]), (64000, [(.int .u64 (.ofNat 250000))])]
def Q261 : KC := ⟨175, [(C 64000 0 1 1), (.int .u64 (.ofNat 500))], 1001, 64064, B259, (.tuple ⟨[(C 64064 0 1 1), (.int .u64 (.ofNat 0))]⟩), 1002, B260, [], []⟩
def B262 : List (Nat × List Value) := [(64000, [(.int .u64 (.ofNat 250000))]), (64064, [(.int .u64 (.ofNat 500)), (.int .u64 (.ofNat 0))])]
def B263 : List (Nat × List Value) := [(64192, [(.int .u64 (.ofNat 0)), (.int .u64 (.ofNat 0))]), (64128, [(.int .u64 (.ofNat 500))]), (64000, [(.int .u64 (.ofNat 250000))]), (64064, [(.int .u64 (.ofNat 500)), (.int .u64 (.ofNat 0))])]
def Q264 : KC := ⟨135, [(C 64000 0 1 1), (C 64064 0 1 1)], 1002, 64128, B262, (.tuple ⟨[(C 64128 0 1 1), (C 64192 0 0 0)]⟩), 1004, B263, [], []⟩
def B265 : List (Nat × List Value) := [(64000, [(.int .u64 (.ofNat 500))])]
def B266 : List (Nat × List Value) := [(64064, [(.int .u64 (.ofNat 500)), (.int .u64 (.ofNat 0))]), (64000, [(.int .u64 (.ofNat 500))])]
def Q267 : KC := ⟨200, [(C 64000 0 1 1), (.int .u64 (.ofNat 1))], 1001, 64064, B265, (C 64064 0 2 2), 1002, B266, [], []⟩
def B268 : List (Nat × List Value) := [(64000, [(.int .u64 (.ofNat 500)), (.int .u64 (.ofNat 0))]), (64064, [(.int .u64 (.ofNat 500))])]
def B269 : List (Nat × List Value) := [(64128, [(.int .u64 (.ofNat 1000)), (.int .u64 (.ofNat 0))]), (64000, [(.int .u64 (.ofNat 500)), (.int .u64 (.ofNat 0))]), (64064, [(.int .u64 (.ofNat 500))])]
def Q270 : KC := ⟨179, [(C 64000 0 1 1), (C 64064 0 1 1)], 1002, 64128, B268, (C 64128 0 1 1), 1003, B269, [], []⟩
def B271 : List (Nat × List Value) := [(64000, [(.int .u64 (.ofNat 250000))])]
def B272 : List (Nat × List Value) := [(67584, [(.int .u64 (.ofNat 500))]), (64000, [(.int .u64 (.ofNat 250000))])]
def Q273 : KC := ⟨187, [(C 64000 0 1 1), (I 2)], 1001, 64064, B271, (C 67584 0 1 1), 1064, B272, [], []⟩
def B274 : List (Nat × List Value) := [(64000, [(.int .u64 (.ofNat 500))]), (64064, [(.int .u64 (.ofNat 1)), (.int .u64 (.ofNat 0))])]
def B275 : List (Nat × List Value) := [(64128, [(.int .u64 (.ofNat 501)), (.int .u64 (.ofNat 0))]), (64000, [(.int .u64 (.ofNat 500))]), (64064, [(.int .u64 (.ofNat 1)), (.int .u64 (.ofNat 0))])]
def Q276 : KC := ⟨179, [(C 64000 0 1 1), (C 64064 0 1 1)], 1002, 64128, B274, (C 64128 0 1 1), 1003, B275, [], []⟩
def B277 : List (Nat × List Value) := [(64000, [(.int .u64 (.ofNat 501)), (.int .u64 (.ofNat 0))])]
def B278 : List (Nat × List Value) := [(64064, [(.int .u64 (.ofNat 501000)), (.int .u64 (.ofNat 0))]), (64000, [(.int .u64 (.ofNat 501)), (.int .u64 (.ofNat 0))])]
def Q279 : KC := ⟨200, [(C 64000 0 1 1), (.int .u64 (.ofNat 1000))], 1001, 64064, B277, (C 64064 0 2 2), 1002, B278, [], []⟩
def B280 : List (Nat × List Value) := [(64000, [(.int .u64 (.ofNat 501)), (.int .u64 (.ofNat 0))])]
def B281 : List (Nat × List Value) := [(64064, [(.int .u64 (.ofNat 501000)), (.int .u64 (.ofNat 0))]), (64128, [(.int .u64 (.ofNat 501000)), (.int .u64 (.ofNat 0))]), (64000, [(.int .u64 (.ofNat 501)), (.int .u64 (.ofNat 0))])]
def Q282 : KC := ⟨186, [(C 64000 0 1 1), (I 3)], 1001, 64064, B280, (C 64064 0 1 1), 1003, B281, [], []⟩
def B283 : List (Nat × List Value) := [(64000, [(.int .u64 (.ofNat 1)), (.int .u64 (.ofNat 0))]), (64064, [(.int .u64 (.ofNat 501000)), (.int .u64 (.ofNat 0))])]
def B284 : List (Nat × List Value) := [(64128, [(.int .u64 (.ofNat 501000)), (.int .u64 (.ofNat 0))]), (64000, [(.int .u64 (.ofNat 1)), (.int .u64 (.ofNat 0))]), (64064, [(.int .u64 (.ofNat 501000)), (.int .u64 (.ofNat 0))])]
def Q285 : KC := ⟨116, [(C 64000 0 1 1), (C 64064 0 1 1)], 1002, 64128, B283, (C 64128 0 1 1), 1003, B284, [], []⟩
def L10 : List (Sum (FuncId × List Value × Value) KC) := [.inr Q246,
  .inr Q249,
  .inr Q252,
  .inl (143, [(.int .u64 (.ofNat 1)), (.int .u64 (.ofNat 500))], (.tuple ⟨[(.int .u64 (.ofNat 0)), (.int .u64 (.ofNat 500))]⟩)),
  .inr Q255,
  .inr Q258,
  .inr Q261,
  .inr Q264,
  .inl (143, [(.int .u64 (.ofNat 500)), (.int .u64 (.ofNat 1))], (.tuple ⟨[(.int .u64 (.ofNat 0)), (.int .u64 (.ofNat 500))]⟩)),
  .inr Q267,
  .inr Q270,
  .inr Q273,
  .inr Q276,
  .inl (143, [(.int .u64 (.ofNat 501)), (.int .u64 (.ofNat 1000))], (.tuple ⟨[(.int .u64 (.ofNat 0)), (.int .u64 (.ofNat 501000))]⟩)),
  .inr Q279,
  .inr Q282,
  .inl (143, [(.int .u64 (.ofNat 1)), (.int .u64 (.ofNat 501000))], (.tuple ⟨[(.int .u64 (.ofNat 0)), (.int .u64 (.ofNat 501000))]⟩)),
  .inr Q285]
def T10 : Tab := pushT T9 L10
def B286 : List (Nat × List Value) := [(64000, [(.int .u64 (.ofNat 501000)), (.int .u64 (.ofNat 0))])]
def B287 : List (Nat × List Value) := [(64128, [(.int .u64 (.ofNat 501000)), (.int .u64 (.ofNat 0))]), (64064, [(.int .u64 (.ofNat 1)), (.int .u64 (.ofNat 0))]), (64000, [(.int .u64 (.ofNat 501000)), (.int .u64 (.ofNat 0))])]
def Q288 : KC := ⟨141, [(C 64000 0 1 1), (I 1)], 1001, 64064, B286, (C 64128 0 1 1), 1003, B287, [], []⟩
def B289 : List (Nat × List Value) := [(64000, [(.int .u64 (.ofNat 250000000000)), (.int .u64 (.ofNat 0))])]
def B290 : List (Nat × List Value) := [(64064, [(.int .u64 (.ofNat 499001))]), (64000, [(.int .u64 (.ofNat 250000000000)), (.int .u64 (.ofNat 0))])]
def Q291 : KC := ⟨175, [(C 64000 0 1 1), (.int .u64 (.ofNat 501000))], 1001, 64064, B289, (.tuple ⟨[(C 64064 0 1 1), (.int .u64 (.ofNat 499000))]⟩), 1002, B290, [], []⟩
def B292 : List (Nat × List Value) := [(64000, [(.int .u64 (.ofNat 250000000000)), (.int .u64 (.ofNat 0))]), (64064, [(.int .u64 (.ofNat 501000)), (.int .u64 (.ofNat 0))])]
def B293 : List (Nat × List Value) := [(64192, [(.int .u64 (.ofNat 499000)), (.int .u64 (.ofNat 0))]), (64128, [(.int .u64 (.ofNat 499001))]), (64000, [(.int .u64 (.ofNat 250000000000)), (.int .u64 (.ofNat 0))]), (64064, [(.int .u64 (.ofNat 501000)), (.int .u64 (.ofNat 0))])]
def Q294 : KC := ⟨135, [(C 64000 0 1 1), (C 64064 0 1 1)], 1002, 64128, B292, (.tuple ⟨[(C 64128 0 1 1), (C 64192 0 1 1)]⟩), 1004, B293, [], []⟩
def B295 : List (Nat × List Value) := [(64000, [(.int .u64 (.ofNat 501000)), (.int .u64 (.ofNat 0))])]
def B296 : List (Nat × List Value) := [(64064, [(.int .u64 (.ofNat 501000)), (.int .u64 (.ofNat 0))]), (64000, [(.int .u64 (.ofNat 501000)), (.int .u64 (.ofNat 0))])]
def Q297 : KC := ⟨200, [(C 64000 0 1 1), (.int .u64 (.ofNat 1))], 1001, 64064, B295, (C 64064 0 2 2), 1002, B296, [], []⟩
def B298 : List (Nat × List Value) := [(64000, [(.int .u64 (.ofNat 501000)), (.int .u64 (.ofNat 0))]), (64064, [(.int .u64 (.ofNat 499001))])]
def B299 : List (Nat × List Value) := [(64128, [(.int .u64 (.ofNat 1000001)), (.int .u64 (.ofNat 0))]), (64000, [(.int .u64 (.ofNat 501000)), (.int .u64 (.ofNat 0))]), (64064, [(.int .u64 (.ofNat 499001))])]
def Q300 : KC := ⟨179, [(C 64000 0 1 1), (C 64064 0 1 1)], 1002, 64128, B298, (C 64128 0 1 1), 1003, B299, [], []⟩
def B301 : List (Nat × List Value) := [(64000, [(.int .u64 (.ofNat 1000001)), (.int .u64 (.ofNat 0))])]
def B302 : List (Nat × List Value) := [(64064, [(.int .u64 (.ofNat 500000))]), (64000, [(.int .u64 (.ofNat 1000001)), (.int .u64 (.ofNat 0))])]
def Q303 : KC := ⟨175, [(C 64000 0 1 1), (.int .u64 (.ofNat 2))], 1001, 64064, B301, (.tuple ⟨[(C 64064 0 1 1), (.int .u64 (.ofNat 1))]⟩), 1002, B302, [], []⟩
def B304 : List (Nat × List Value) := [(64000, [(.int .u64 (.ofNat 1)), (.int .u64 (.ofNat 0))]), (64064, [(.int .u64 (.ofNat 500000))])]
def B305 : List (Nat × List Value) := [(64128, [(.int .u64 (.ofNat 500000)), (.int .u64 (.ofNat 0))]), (64000, [(.int .u64 (.ofNat 1)), (.int .u64 (.ofNat 0))]), (64064, [(.int .u64 (.ofNat 500000))])]
def Q306 : KC := ⟨116, [(C 64000 0 1 1), (C 64064 0 1 1)], 1002, 64128, B304, (C 64128 0 1 1), 1003, B305, [], []⟩
def B307 : List (Nat × List Value) := [(64000, [(.int .u64 (.ofNat 500000))])]
def B308 : List (Nat × List Value) := [(64128, [(.int .u64 (.ofNat 500000)), (.int .u64 (.ofNat 0))]), (64064, [(.int .u64 (.ofNat 1)), (.int .u64 (.ofNat 0))]), (64000, [(.int .u64 (.ofNat 500000))])]
def Q309 : KC := ⟨141, [(C 64000 0 1 1), (I 1)], 1001, 64064, B307, (C 64128 0 1 1), 1003, B308, [], []⟩
def B310 : List (Nat × List Value) := [(64000, [(.int .u64 (.ofNat 250000000000)), (.int .u64 (.ofNat 0))])]
def B311 : List (Nat × List Value) := [(64064, [(.int .u64 (.ofNat 500000))]), (64000, [(.int .u64 (.ofNat 250000000000)), (.int .u64 (.ofNat 0))])]
def Q312 : KC := ⟨175, [(C 64000 0 1 1), (.int .u64 (.ofNat 500000))], 1001, 64064, B310, (.tuple ⟨[(C 64064 0 1 1), (.int .u64 (.ofNat 0))]⟩), 1002, B311, [], []⟩
def B313 : List (Nat × List Value) := [(64000, [(.int .u64 (.ofNat 250000000000)), (.int .u64 (.ofNat 0))]), (64064, [(.int .u64 (.ofNat 500000)), (.int .u64 (.ofNat 0))])]
def B314 : List (Nat × List Value) := [(64192, [(.int .u64 (.ofNat 0)), (.int .u64 (.ofNat 0))]), (64128, [(.int .u64 (.ofNat 500000))]), (64000, [(.int .u64 (.ofNat 250000000000)), (.int .u64 (.ofNat 0))]), (64064, [(.int .u64 (.ofNat 500000)), (.int .u64 (.ofNat 0))])]
def Q315 : KC := ⟨135, [(C 64000 0 1 1), (C 64064 0 1 1)], 1002, 64128, B313, (.tuple ⟨[(C 64128 0 1 1), (C 64192 0 0 0)]⟩), 1004, B314, [], []⟩
def B316 : List (Nat × List Value) := [(64000, [(.int .u64 (.ofNat 500000))])]
def B317 : List (Nat × List Value) := [(64064, [(.int .u64 (.ofNat 500000)), (.int .u64 (.ofNat 0))]), (64000, [(.int .u64 (.ofNat 500000))])]
def Q318 : KC := ⟨200, [(C 64000 0 1 1), (.int .u64 (.ofNat 1))], 1001, 64064, B316, (C 64064 0 2 2), 1002, B317, [], []⟩
def B319 : List (Nat × List Value) := [(64000, [(.int .u64 (.ofNat 500000)), (.int .u64 (.ofNat 0))]), (64064, [(.int .u64 (.ofNat 500000))])]
def B320 : List (Nat × List Value) := [(64128, [(.int .u64 (.ofNat 1000000)), (.int .u64 (.ofNat 0))]), (64000, [(.int .u64 (.ofNat 500000)), (.int .u64 (.ofNat 0))]), (64064, [(.int .u64 (.ofNat 500000))])]
def Q321 : KC := ⟨179, [(C 64000 0 1 1), (C 64064 0 1 1)], 1002, 64128, B319, (C 64128 0 1 1), 1003, B320, [], []⟩
def B322 : List (Nat × List Value) := [(64000, [(.int .u64 (.ofNat 1000000)), (.int .u64 (.ofNat 0))])]
def B323 : List (Nat × List Value) := [(64064, [(.int .u64 (.ofNat 500000))]), (64000, [(.int .u64 (.ofNat 1000000)), (.int .u64 (.ofNat 0))])]
def Q324 : KC := ⟨175, [(C 64000 0 1 1), (.int .u64 (.ofNat 2))], 1001, 64064, B322, (.tuple ⟨[(C 64064 0 1 1), (.int .u64 (.ofNat 0))]⟩), 1002, B323, [], []⟩
def B325 : List (Nat × List Value) := [(64000, [(.int .u64 (.ofNat 250000000000)), (.int .u64 (.ofNat 0))])]
def B326 : List (Nat × List Value) := [(68800, [(.int .u64 (.ofNat 500000))]), (64000, [(.int .u64 (.ofNat 250000000000)), (.int .u64 (.ofNat 0))])]
def Q327 : KC := ⟨187, [(C 64000 0 1 1), (I 2)], 1001, 64064, B325, (C 68800 0 1 1), 1083, B326, [], []⟩
def B328 : List (Nat × List Value) := [(64000, [(.int .u64 (.ofNat 500000))]), (64064, [(.int .u64 (.ofNat 1)), (.int .u64 (.ofNat 0))])]
def B329 : List (Nat × List Value) := [(64128, [(.int .u64 (.ofNat 500001)), (.int .u64 (.ofNat 0))]), (64000, [(.int .u64 (.ofNat 500000))]), (64064, [(.int .u64 (.ofNat 1)), (.int .u64 (.ofNat 0))])]
def Q330 : KC := ⟨179, [(C 64000 0 1 1), (C 64064 0 1 1)], 1002, 64128, B328, (C 64128 0 1 1), 1003, B329, [], []⟩
def B331 : List (Nat × List Value) := [(64000, [(.int .u64 (.ofNat 500001)), (.int .u64 (.ofNat 0))])]
def B332 : List (Nat × List Value) := [(64064, [(.int .u64 (.ofNat 500001000000)), (.int .u64 (.ofNat 0))]), (64000, [(.int .u64 (.ofNat 500001)), (.int .u64 (.ofNat 0))])]
def Q333 : KC := ⟨200, [(C 64000 0 1 1), (.int .u64 (.ofNat 1000000))], 1001, 64064, B331, (C 64064 0 2 2), 1002, B332, [], []⟩
def L11 : List (Sum (FuncId × List Value × Value) KC) := [.inr Q288,
  .inr Q291,
  .inr Q294,
  .inl (143, [(.int .u64 (.ofNat 501000)), (.int .u64 (.ofNat 1))], (.tuple ⟨[(.int .u64 (.ofNat 0)), (.int .u64 (.ofNat 501000))]⟩)),
  .inr Q297,
  .inr Q300,
  .inr Q303,
  .inl (143, [(.int .u64 (.ofNat 1)), (.int .u64 (.ofNat 500000))], (.tuple ⟨[(.int .u64 (.ofNat 0)), (.int .u64 (.ofNat 500000))]⟩)),
  .inr Q306,
  .inr Q309,
  .inr Q312,
  .inr Q315,
  .inl (143, [(.int .u64 (.ofNat 500000)), (.int .u64 (.ofNat 1))], (.tuple ⟨[(.int .u64 (.ofNat 0)), (.int .u64 (.ofNat 500000))]⟩)),
  .inr Q318,
  .inr Q321,
  .inr Q324,
  .inr Q327,
  .inr Q330,
  .inl (143, [(.int .u64 (.ofNat 500001)), (.int .u64 (.ofNat 1000000))], (.tuple ⟨[(.int .u64 (.ofNat 0)), (.int .u64 (.ofNat 500001000000))]⟩)),
  .inr Q333]
def T11 : Tab := pushT T10 L11
def B334 : List (Nat × List Value) := [(64000, [(.int .u64 (.ofNat 500001)), (.int .u64 (.ofNat 0))])]
def B335 : List (Nat × List Value) := [(64064, [(.int .u64 (.ofNat 500001000000)), (.int .u64 (.ofNat 0))]), (64128, [(.int .u64 (.ofNat 500001000000)), (.int .u64 (.ofNat 0))]), (64000, [(.int .u64 (.ofNat 500001)), (.int .u64 (.ofNat 0))])]
def Q336 : KC := ⟨186, [(C 64000 0 1 1), (I 6)], 1001, 64064, B334, (C 64064 0 1 1), 1003, B335, [], []⟩
def B337 : List (Nat × List Value) := [(64000, [(.int .u64 (.ofNat 1)), (.int .u64 (.ofNat 0))]), (64064, [(.int .u64 (.ofNat 500001000000)), (.int .u64 (.ofNat 0))])]
def B338 : List (Nat × List Value) := [(64128, [(.int .u64 (.ofNat 500001000000)), (.int .u64 (.ofNat 0))]), (64000, [(.int .u64 (.ofNat 1)), (.int .u64 (.ofNat 0))]), (64064, [(.int .u64 (.ofNat 500001000000)), (.int .u64 (.ofNat 0))])]
def Q339 : KC := ⟨116, [(C 64000 0 1 1), (C 64064 0 1 1)], 1002, 64128, B337, (C 64128 0 1 1), 1003, B338, [], []⟩
def B340 : List (Nat × List Value) := [(64000, [(.int .u64 (.ofNat 500001000000)), (.int .u64 (.ofNat 0))])]
def B341 : List (Nat × List Value) := [(64128, [(.int .u64 (.ofNat 500001000000)), (.int .u64 (.ofNat 0))]), (64064, [(.int .u64 (.ofNat 1)), (.int .u64 (.ofNat 0))]), (64000, [(.int .u64 (.ofNat 500001000000)), (.int .u64 (.ofNat 0))])]
def Q342 : KC := ⟨141, [(C 64000 0 1 1), (I 1)], 1001, 64064, B340, (C 64128 0 1 1), 1003, B341, [], []⟩
def B343 : List (Nat × List Value) := [(64000, [(.int .u64 (.ofNat 0)), (.int .u64 (.ofNat 250000))])]
def B344 : List (Nat × List Value) := [(64064, [(.int .u64 (.ofNat 499999000001)), (.int .u64 (.ofNat 0))]), (64000, [(.int .u64 (.ofNat 0)), (.int .u64 (.ofNat 250000))])]
def Q345 : KC := ⟨175, [(C 64000 0 2 2), (.int .u64 (.ofNat 500001000000))], 1001, 64064, B343, (.tuple ⟨[(C 64064 0 1 1), (.int .u64 (.ofNat 499999000000))]⟩), 1002, B344, [], []⟩
def B346 : List (Nat × List Value) := [(64000, [(.int .u64 (.ofNat 0)), (.int .u64 (.ofNat 250000))]), (64064, [(.int .u64 (.ofNat 500001000000)), (.int .u64 (.ofNat 0))])]
def B347 : List (Nat × List Value) := [(64192, [(.int .u64 (.ofNat 499999000000)), (.int .u64 (.ofNat 0))]), (64128, [(.int .u64 (.ofNat 499999000001)), (.int .u64 (.ofNat 0))]), (64000, [(.int .u64 (.ofNat 0)), (.int .u64 (.ofNat 250000))]), (64064, [(.int .u64 (.ofNat 500001000000)), (.int .u64 (.ofNat 0))])]
def Q348 : KC := ⟨135, [(C 64000 0 2 2), (C 64064 0 1 1)], 1002, 64128, B346, (.tuple ⟨[(C 64128 0 1 1), (C 64192 0 1 1)]⟩), 1004, B347, [], []⟩
def B349 : List (Nat × List Value) := [(64000, [(.int .u64 (.ofNat 500001000000)), (.int .u64 (.ofNat 0))])]
def B350 : List (Nat × List Value) := [(64064, [(.int .u64 (.ofNat 500001000000)), (.int .u64 (.ofNat 0))]), (64000, [(.int .u64 (.ofNat 500001000000)), (.int .u64 (.ofNat 0))])]
def Q351 : KC := ⟨200, [(C 64000 0 1 1), (.int .u64 (.ofNat 1))], 1001, 64064, B349, (C 64064 0 2 2), 1002, B350, [], []⟩
def B352 : List (Nat × List Value) := [(64000, [(.int .u64 (.ofNat 500001000000)), (.int .u64 (.ofNat 0))]), (64064, [(.int .u64 (.ofNat 499999000001)), (.int .u64 (.ofNat 0))])]
def B353 : List (Nat × List Value) := [(64128, [(.int .u64 (.ofNat 1000000000001)), (.int .u64 (.ofNat 0))]), (64000, [(.int .u64 (.ofNat 500001000000)), (.int .u64 (.ofNat 0))]), (64064, [(.int .u64 (.ofNat 499999000001)), (.int .u64 (.ofNat 0))])]
def Q354 : KC := ⟨179, [(C 64000 0 1 1), (C 64064 0 1 1)], 1002, 64128, B352, (C 64128 0 1 1), 1003, B353, [], []⟩
def B355 : List (Nat × List Value) := [(64000, [(.int .u64 (.ofNat 1000000000001)), (.int .u64 (.ofNat 0))])]
def B356 : List (Nat × List Value) := [(64064, [(.int .u64 (.ofNat 500000000000))]), (64000, [(.int .u64 (.ofNat 1000000000001)), (.int .u64 (.ofNat 0))])]
def Q357 : KC := ⟨175, [(C 64000 0 1 1), (.int .u64 (.ofNat 2))], 1001, 64064, B355, (.tuple ⟨[(C 64064 0 1 1), (.int .u64 (.ofNat 1))]⟩), 1002, B356, [], []⟩
def B358 : List (Nat × List Value) := [(64000, [(.int .u64 (.ofNat 1)), (.int .u64 (.ofNat 0))]), (64064, [(.int .u64 (.ofNat 500000000000))])]
def B359 : List (Nat × List Value) := [(64128, [(.int .u64 (.ofNat 500000000000)), (.int .u64 (.ofNat 0))]), (64000, [(.int .u64 (.ofNat 1)), (.int .u64 (.ofNat 0))]), (64064, [(.int .u64 (.ofNat 500000000000))])]
def Q360 : KC := ⟨116, [(C 64000 0 1 1), (C 64064 0 1 1)], 1002, 64128, B358, (C 64128 0 1 1), 1003, B359, [], []⟩
def B361 : List (Nat × List Value) := [(64000, [(.int .u64 (.ofNat 500000000000))])]
def B362 : List (Nat × List Value) := [(64128, [(.int .u64 (.ofNat 500000000000)), (.int .u64 (.ofNat 0))]), (64064, [(.int .u64 (.ofNat 1)), (.int .u64 (.ofNat 0))]), (64000, [(.int .u64 (.ofNat 500000000000))])]
def Q363 : KC := ⟨141, [(C 64000 0 1 1), (I 1)], 1001, 64064, B361, (C 64128 0 1 1), 1003, B362, [], []⟩
def B364 : List (Nat × List Value) := [(64000, [(.int .u64 (.ofNat 0)), (.int .u64 (.ofNat 250000))])]
def B365 : List (Nat × List Value) := [(64064, [(.int .u64 (.ofNat 500000000000)), (.int .u64 (.ofNat 0))]), (64000, [(.int .u64 (.ofNat 0)), (.int .u64 (.ofNat 250000))])]
def Q366 : KC := ⟨175, [(C 64000 0 2 2), (.int .u64 (.ofNat 500000000000))], 1001, 64064, B364, (.tuple ⟨[(C 64064 0 1 1), (.int .u64 (.ofNat 0))]⟩), 1002, B365, [], []⟩
def B367 : List (Nat × List Value) := [(64000, [(.int .u64 (.ofNat 0)), (.int .u64 (.ofNat 250000))]), (64064, [(.int .u64 (.ofNat 500000000000)), (.int .u64 (.ofNat 0))])]
def B368 : List (Nat × List Value) := [(64192, [(.int .u64 (.ofNat 0)), (.int .u64 (.ofNat 0))]), (64128, [(.int .u64 (.ofNat 500000000000)), (.int .u64 (.ofNat 0))]), (64000, [(.int .u64 (.ofNat 0)), (.int .u64 (.ofNat 250000))]), (64064, [(.int .u64 (.ofNat 500000000000)), (.int .u64 (.ofNat 0))])]
def Q369 : KC := ⟨135, [(C 64000 0 2 2), (C 64064 0 1 1)], 1002, 64128, B367, (.tuple ⟨[(C 64128 0 1 1), (C 64192 0 0 0)]⟩), 1004, B368, [], []⟩
def B370 : List (Nat × List Value) := [(64000, [(.int .u64 (.ofNat 500000000000))])]
def B371 : List (Nat × List Value) := [(64064, [(.int .u64 (.ofNat 500000000000)), (.int .u64 (.ofNat 0))]), (64000, [(.int .u64 (.ofNat 500000000000))])]
def Q372 : KC := ⟨200, [(C 64000 0 1 1), (.int .u64 (.ofNat 1))], 1001, 64064, B370, (C 64064 0 2 2), 1002, B371, [], []⟩
def L12 : List (Sum (FuncId × List Value × Value) KC) := [.inr Q336,
  .inl (143, [(.int .u64 (.ofNat 1)), (.int .u64 (.ofNat 500001000000))], (.tuple ⟨[(.int .u64 (.ofNat 0)), (.int .u64 (.ofNat 500001000000))]⟩)),
  .inr Q339,
  .inr Q342,
  .inl (166, [(.int .u64 (.ofNat 13552)), (.int .u64 (.ofNat 9724313088156499968)), (.int .u64 (.ofNat 500001000000))], (.tuple ⟨[(.int .u64 (.ofNat 499999000001)), (.int .u64 (.ofNat 499999000000))]⟩)),
  .inr Q345,
  .inr Q348,
  .inl (143, [(.int .u64 (.ofNat 500001000000)), (.int .u64 (.ofNat 1))], (.tuple ⟨[(.int .u64 (.ofNat 0)), (.int .u64 (.ofNat 500001000000))]⟩)),
  .inr Q351,
  .inr Q354,
  .inr Q357,
  .inl (143, [(.int .u64 (.ofNat 1)), (.int .u64 (.ofNat 500000000000))], (.tuple ⟨[(.int .u64 (.ofNat 0)), (.int .u64 (.ofNat 500000000000))]⟩)),
  .inr Q360,
  .inr Q363,
  .inl (166, [(.int .u64 (.ofNat 13552)), (.int .u64 (.ofNat 9724313088156499968)), (.int .u64 (.ofNat 500000000000))], (.tuple ⟨[(.int .u64 (.ofNat 500000000000)), (.int .u64 (.ofNat 0))]⟩)),
  .inr Q366,
  .inr Q369,
  .inl (143, [(.int .u64 (.ofNat 500000000000)), (.int .u64 (.ofNat 1))], (.tuple ⟨[(.int .u64 (.ofNat 0)), (.int .u64 (.ofNat 500000000000))]⟩)),
  .inr Q372]
def T12 : Tab := pushT T11 L12
def B373 : List (Nat × List Value) := [(64000, [(.int .u64 (.ofNat 500000000000)), (.int .u64 (.ofNat 0))]), (64064, [(.int .u64 (.ofNat 500000000000)), (.int .u64 (.ofNat 0))])]
def B374 : List (Nat × List Value) := [(64128, [(.int .u64 (.ofNat 1000000000000)), (.int .u64 (.ofNat 0))]), (64000, [(.int .u64 (.ofNat 500000000000)), (.int .u64 (.ofNat 0))]), (64064, [(.int .u64 (.ofNat 500000000000)), (.int .u64 (.ofNat 0))])]
def Q375 : KC := ⟨179, [(C 64000 0 1 1), (C 64064 0 1 1)], 1002, 64128, B373, (C 64128 0 1 1), 1003, B374, [], []⟩
def B376 : List (Nat × List Value) := [(64000, [(.int .u64 (.ofNat 1000000000000)), (.int .u64 (.ofNat 0))])]
def B377 : List (Nat × List Value) := [(64064, [(.int .u64 (.ofNat 500000000000))]), (64000, [(.int .u64 (.ofNat 1000000000000)), (.int .u64 (.ofNat 0))])]
def Q378 : KC := ⟨175, [(C 64000 0 1 1), (.int .u64 (.ofNat 2))], 1001, 64064, B376, (.tuple ⟨[(C 64064 0 1 1), (.int .u64 (.ofNat 0))]⟩), 1002, B377, [], []⟩
def B379 : List (Nat × List Value) := [(64000, [(.int .u64 (.ofNat 0)), (.int .u64 (.ofNat 250000))])]
def B380 : List (Nat × List Value) := [(70016, [(.int .u64 (.ofNat 500000000000))]), (64000, [(.int .u64 (.ofNat 0)), (.int .u64 (.ofNat 250000))])]
def Q381 : KC := ⟨187, [(C 64000 0 2 2), (I 2)], 1001, 64064, B379, (C 70016 0 1 1), 1102, B380, [], []⟩
def B382 : List (Nat × List Value) := [(64000, [(.int .u64 (.ofNat 500000000000))])]
def B383 : List (Nat × List Value) := [(64064, [(.int .u64 (.ofNat 0)), (.int .u64 (.ofNat 250000))]), (64000, [(.int .u64 (.ofNat 500000000000))])]
def Q384 : KC := ⟨116, [(C 64000 0 1 1), (C 64000 0 1 1)], 1001, 64064, B382, (C 64064 0 2 2), 1002, B383, [], []⟩
def B385 : List (Nat × List Value) := [(64000, [(.int .u64 (.ofNat 1)), (.int .u64 (.ofNat 0))]), (64064, [(.int .u64 (.ofNat 0)), (.int .u64 (.ofNat 250000))])]
def B386 : List (Nat × List Value) := [(64128, [(.int .u64 (.ofNat 0)), (.int .u64 (.ofNat 250000)), (.int .u64 (.ofNat 0))]), (64000, [(.int .u64 (.ofNat 1)), (.int .u64 (.ofNat 0))]), (64064, [(.int .u64 (.ofNat 0)), (.int .u64 (.ofNat 250000))])]
def Q387 : KC := ⟨116, [(C 64000 0 1 1), (C 64064 0 2 2)], 1002, 64128, B385, (C 64128 0 2 2), 1003, B386, [], []⟩
def B388 : List (Nat × List Value) := [(64000, [(.int .u64 (.ofNat 500000000000))])]
def B389 : List (Nat × List Value) := [(64192, [(.int .u64 (.ofNat 0)), (.int .u64 (.ofNat 250000)), (.int .u64 (.ofNat 0))]), (64064, [(.int .u64 (.ofNat 1)), (.int .u64 (.ofNat 0))]), (64128, [(.int .u64 (.ofNat 0)), (.int .u64 (.ofNat 250000))]), (64000, [(.int .u64 (.ofNat 500000000000))])]
def Q390 : KC := ⟨141, [(C 64000 0 1 1), (I 2)], 1001, 64064, B388, (C 64192 0 2 2), 1004, B389, [], []⟩
def B391 : List (Nat × List Value) := [(64000, [(.int .u64 (.ofNat 0)), (.int .u64 (.ofNat 250000)), (.int .u64 (.ofNat 0))]), (64064, [(.int .u64 (.ofNat 0)), (.int .u64 (.ofNat 250000))])]
def B392 : List (Nat × List Value) := [(64000, [(.int .u64 (.ofNat 0)), (.int .u64 (.ofNat 250000)), (.int .u64 (.ofNat 0))]), (64064, [(.int .u64 (.ofNat 0)), (.int .u64 (.ofNat 250000))])]
def Q393 : KC := ⟨171, [(C 64000 0 2 2), (C 64064 0 2 2)], 1002, 64128, B391, (I 0), 1002, B392, [], []⟩
def B394 : List (Nat × List Value) := [(64000, [(I 1), (I 2)])]
def B395 : List (Nat × List Value) := [(70400, [(.int .u64 (.ofNat 500000000000))]), (64000, [(I 1), (I 2)])]
def Q396 : KC := ⟨153, [(I 250000000000), (Z 64000 0)], 1001, 64064, B394, (.tuple ⟨[(C 70400 0 1 1), (.bool true)]⟩), 1111, B395, [], []⟩
def B397 : List (Nat × List Value) := [(64000, [(I 1), (I 2)])]
def B398 : List (Nat × List Value) := [(64000, [(I 1), (I 2)])]
def Q399 : KC := ⟨152, [(I 250000000000), (I 250000000000), (.func (.func 153) ⟨[]⟩ ⟨[(Z 64000 0)]⟩)], 1001, 64064, B397, (.tuple ⟨[(A [(I 500000000000), (I 500000000000)]), (I 0)]⟩), 1223, B398, [], []⟩
def L13 : List (Sum (FuncId × List Value × Value) KC) := [.inr Q375,
  .inr Q378,
  .inr Q381,
  .inl (143, [(.int .u64 (.ofNat 500000000000)), (.int .u64 (.ofNat 500000000000))], (.tuple ⟨[(.int .u64 (.ofNat 13552)), (.int .u64 (.ofNat 9724313088156499968))]⟩)),
  .inr Q384,
  .inl (143, [(.int .u64 (.ofNat 1)), (.int .u64 (.ofNat 0))], (.tuple ⟨[(.int .u64 (.ofNat 0)), (.int .u64 (.ofNat 0))]⟩)),
  .inl (143, [(.int .u64 (.ofNat 1)), (.int .u64 (.ofNat 250000))], (.tuple ⟨[(.int .u64 (.ofNat 0)), (.int .u64 (.ofNat 250000))]⟩)),
  .inr Q387,
  .inr Q390,
  .inr Q393,
  .inr Q396,
  .inr Q399,
  .inl (103, [(A [(I 250000000000), (I 250000000000)]), (I 1), (I 2)], (.tuple ⟨[(A [(I 500000000000), (I 500000000000)]), (I 0)]⟩)),
  .inl (94, [(I 0), (I 1000000)], (.tuple ⟨[(A [(S [48]), (S [49])]), (.bool true)]⟩)),
  .inl (143, [(.int .u64 (.ofNat 0)), (.int .u64 (.ofNat 2000000000000))], (.tuple ⟨[(.int .u64 (.ofNat 0)), (.int .u64 (.ofNat 0))]⟩)),
  .inl (112, [(I 0), (I 2000000000000)], (.tuple ⟨[(I 0), (.bool true)]⟩)),
  .inl (118, [(A [(I 0), (I 1)]), (I 1000000000000)], (.tuple ⟨[(I 0), (.bool true)]⟩)),
  .inl (74, [(A [(S [48]), (S [49])]), (I 1000000000000)], (.tuple ⟨[(I 0), (I 0)]⟩))]
def T13 : Tab := pushT T12 L13
def B400 : List (Nat × List Value) := [(64000, [(I 500000000000), (I 500000000000)]), (64064, [(I 0), (I 0)])]
def B401 : List (Nat × List Value) := [(64128, [(I 500000000000), (I 500000000000)]), (64000, [(I 500000000000), (I 500000000000)]), (64064, [(I 0), (I 0)])]
def Q402 : KC := ⟨155, [(Z 64000 0), (Z 64064 0)], 1002, 64128, B400, (.tuple ⟨[(A [(I 500000000000), (I 500000000000)]), (I 0)]⟩), 1006, B401, [], []⟩
def B403 : List (Nat × List Value) := [(64000, [(I 500000000000), (I 500000000000)]), (64064, [(I 0), (I 0)]), (64128, [(I 500000000000), (I 500000000000), (I 0), (I 0)])]
def B404 : List (Nat × List Value) := [(64000, [(I 500000000000), (I 500000000000)]), (64064, [(I 0), (I 0)]), (64128, [(I 500000000000), (I 500000000000), (I 0), (I 0)])]
def Q405 : KC := ⟨60, [(.func (.func 155) ⟨[]⟩ ⟨[(Z 64000 0), (Z 64064 0)]⟩), (C 64128 0 2 2)], 1003, 64192, B403, (.tuple ⟨[(A [(I 500000000000), (I 500000000000)]), (I 0)]⟩), 1012, B404, [], []⟩
def B406 : List (Nat × List Value) := [(64000, [(I 0)]), (64064, [(I 1000000000000)]), (64128, [(I 500000000000), (I 500000000000)])]
def B407 : List (Nat × List Value) := [(64000, [(I 0)]), (64064, [(I 1000000000000)]), (64128, [(I 500000000000), (I 500000000000)])]
def Q408 : KC := ⟨61, [(Z 64000 0), (Z 64064 0), (Z 64128 0)], 1003, 64192, B406, (.tuple ⟨[(A [(I 500000000000), (I 500000000000)]), (I 0)]⟩), 1012, B407, [], []⟩
def B409 : List (Nat × List Value) := [(64000, [(I 0)]), (64064, [(I 1000000000000)]), (64128, [(I 500000000000), (I 500000000000)]), (64192, [(I 500000000000), (I 500000000000)])]
def Q410 : KC := ⟨60, [(.func (.func 61) ⟨[]⟩ ⟨[(Z 64000 0), (Z 64064 0), (Z 64128 0)]⟩), (C 64192 0 1 1)], 1004, 64256, B409, (.tuple ⟨[(A [(I 500000000000), (I 500000000000)]), (I 0)]⟩), 1016, B409, [], []⟩
def B411 : List (Nat × List Value) := [(64000, [(I 1000000), (I 1000000), (I 0), (I 1), (I 2), (I 0)])]
def B412 : List (Nat × List Value) := [(64000, [(I 1000000), (I 1000000), (I 0), (I 1), (I 2), (I 0)])]
def Q413 : KC := ⟨25, [(A [(I 3), (.slice none 0 0), (C 64000 0 1 1)]), (A [(I 250000000000), (I 250000000000)])], 1001, 64064, B411, (A [(I 500000000000), (I 500000000000)]), 1014, B412, [], []⟩
def B414 : List (Nat × List Value) := [(64000, [(I 1000000), (I 1000000), (I 0), (I 1), (I 2), (I 0)])]
def B415 : List (Nat × List Value) := [(64000, [(I 1000000), (I 1000000), (I 0), (I 1), (I 2), (I 0)])]
def Q416 : KC := ⟨6, [(A [(I 3), (.slice none 0 0), (C 64000 0 1 1)]), (A [(I 250000000000), (I 250000000000)])], 1001, 64064, B414, (.tuple ⟨[(A [(I 500000000000), (I 500000000000)]), (I 0)]⟩), 1042, B415, [], []⟩
def B417 : List (Nat × List Value) := [(64000, [(I 0), (I 65535), (I 0)])]
def B418 : List (Nat × List Value) := [(64000, [(I 0), (I 65535), (I 0)])]
def Q419 : KC := ⟨32, [(C 64000 0 3 3)], 1001, 64064, B417, (.bool true), 1001, B418, [], []⟩
def B420 : List (Nat × List Value) := [(64000, [(I 0)]), (64064, [(I 1000000000000)]), (64128, [(I 250000000000), (I 750000000000)])]
def B421 : List (Nat × List Value) := [(64000, [(I 0)]), (64064, [(I 1000000000000)]), (64128, [(I 250000000000), (I 750000000000)])]
def Q422 : KC := ⟨61, [(Z 64000 0), (Z 64064 0), (Z 64128 0)], 1003, 64192, B420, (.tuple ⟨[(A [(I 250000000000), (I 750000000000)]), (I 0)]⟩), 1012, B421, [], []⟩
def B423 : List (Nat × List Value) := [(64000, [(I 0)]), (64064, [(I 1000000000000)]), (64128, [(I 250000000000), (I 750000000000)]), (64192, [(I 250000000000), (I 750000000000)])]
def Q424 : KC := ⟨60, [(.func (.func 61) ⟨[]⟩ ⟨[(Z 64000 0), (Z 64064 0), (Z 64128 0)]⟩), (C 64192 0 1 1)], 1004, 64256, B423, (.tuple ⟨[(A [(I 250000000000), (I 750000000000)]), (I 0)]⟩), 1016, B423, [], []⟩
def L14 : List (Sum (FuncId × List Value × Value) KC) := [.inl (94, [(I 0), (I 1000000000000)], (.tuple ⟨[(A [(S [48]), (S [49])]), (.bool true)]⟩)),
  .inl (91, [(A [(I 0), (I 1)]), (A [(I 0), (I 1)])], (.tuple ⟨[(I 0), (.bool true)]⟩)),
  .inl (50, [(A [(S [48]), (S [49])]), (A [(S [48]), (S [49])])], (.tuple ⟨[(I 0), (I 0)]⟩)),
  .inl (98, [(A [(S [48]), (S [49])])], (.tuple ⟨[(A [(I 0), (I 0)]), (I 0)]⟩)),
  .inr Q402,
  .inr Q405,
  .inr Q408,
  .inr Q410,
  .inl (57, [(A [(I 1000000), (I 1000000), (I 0), (I 1), (I 2), (I 0), (I 0), (.bool true)]), (I 250000000000), (I 250000000000)], (A [(I 500000000000), (I 500000000000)])),
  .inr Q413,
  .inr Q416,
  .inr Q419,
  .inr Q422,
  .inr Q424]
def T14 : Tab := pushT T13 L14
def B425 : List (Nat × List Value) := [(64000, [(I 250000000000), (I 750000000000)]), (64064, [(I 250000000000), (I 750000000000)])]
def B426 : List (Nat × List Value) := [(64320, [(S [49]), (S [52])]), (64000, [(I 250000000000), (I 750000000000)]), (64192, [(I 250000000000), (I 750000000000)]), (64128, [(S [49]), (S [52])]), (64064, [(I 250000000000), (I 750000000000)])]
def Q427 : KC := ⟨99, [(.func (.func 100) ⟨[]⟩ ⟨[(Z 64000 0)]⟩), (C 64064 0 1 1)], 1002, 64128, B425, (.tuple ⟨[(A [(S [49]), (S [52])]), (I 0)]⟩), 1008, B426, [], []⟩
def B428 : List (Nat × List Value) := [(64000, [(.func (.func 72) ⟨[]⟩ ⟨[]⟩)])]
def B429 : List (Nat × List Value) := [(64000, [(.func (.func 72) ⟨[]⟩ ⟨[]⟩)])]
def Q430 : KC := ⟨69, [(A [(S [49]), (S [52])]), (A [(S [50]), (S [49])]), (.func (.func 70) ⟨[]⟩ ⟨[]⟩), (.func (.func 114) ⟨[]⟩ ⟨[(Z 64000 0)]⟩)], 1001, 64064, B428, (.tuple ⟨[(A [(S [49]), (S [50])]), (I 0)]⟩), 1008, B429, [], []⟩
def B431 : List (Nat × List Value) := [(64000, [(.func (.func 78) ⟨[]⟩ ⟨[]⟩)])]
def B432 : List (Nat × List Value) := [(64000, [(.func (.func 78) ⟨[]⟩ ⟨[]⟩)])]
def Q433 : KC := ⟨69, [(A [(S [49]), (S [50])]), (A [(S [48]), (S [49])]), (.func (.func 77) ⟨[]⟩ ⟨[]⟩), (.func (.func 114) ⟨[]⟩ ⟨[(Z 64000 0)]⟩)], 1001, 64064, B431, (.tuple ⟨[(A [(S [49]), (S [50])]), (I 0)]⟩), 1013, B432, [], []⟩
def L15 : List (Sum (FuncId × List Value × Value) KC) := [.inr Q427,
  .inl (110, [(.int .u64 (.ofNat 2)), (.int .u64 (.ofNat 1))], (.int .u64 (.ofNat 1))),
  .inl (113, [(A [(I 2), (I 1)])], (A [(S [50]), (S [49])])),
  .inl (94, [(I 2), (I 1)], (.tuple ⟨[(A [(S [50]), (S [49])]), (.bool true)]⟩)),
  .inl (161, [(S [50])], (.tuple ⟨[(I 2), (.bool true)]⟩)),
  .inl (108, [(A [(S [50]), (S [49])])], (.tuple ⟨[(A [(I 2), (I 1)]), (.bool true)]⟩)),
  .inl (110, [(.int .u64 (.ofNat 2)), (.int .u64 (.ofNat 4))], (.int .u64 (.ofNat 2))),
  .inl (143, [(.int .u64 (.ofNat 2)), (.int .u64 (.ofNat 1))], (.tuple ⟨[(.int .u64 (.ofNat 0)), (.int .u64 (.ofNat 2))]⟩)),
  .inl (112, [(I 2), (I 1)], (.tuple ⟨[(I 2), (.bool true)]⟩)),
  .inl (113, [(A [(I 1), (I 2)])], (A [(S [49]), (S [50])])),
  .inl (70, [(A [(I 1), (I 4)]), (A [(I 2), (I 1)])], (.tuple ⟨[(A [(S [49]), (S [50])]), (.bool true)]⟩)),
  .inr Q430,
  .inl (110, [(.int .u64 (.ofNat 1)), (.int .u64 (.ofNat 2))], (.int .u64 (.ofNat 1))),
  .inl (108, [(A [(S [49]), (S [50])])], (.tuple ⟨[(A [(I 1), (I 2)]), (.bool true)]⟩)),
  .inl (124, [(I 0)], (S [48])),
  .inl (143, [(.int .u64 (.ofNat 0)), (.int .u64 (.ofNat 2))], (.tuple ⟨[(.int .u64 (.ofNat 0)), (.int .u64 (.ofNat 0))]⟩)),
  .inl (112, [(I 0), (I 2)], (.tuple ⟨[(I 0), (.bool true)]⟩)),
  .inl (118, [(A [(I 0), (I 1)]), (I 1)], (.tuple ⟨[(I 0), (.bool true)]⟩)),
  .inl (74, [(A [(S [48]), (S [49])]), (I 1)], (.tuple ⟨[(I 0), (I 0)]⟩)),
  .inl (36, [(A [(S [49]), (S [50])])], (I 0)),
  .inl (79, [(A [(I 1), (I 2)]), (A [(I 0), (I 1)])], (.tuple ⟨[(A [(S [49]), (S [50])]), (.bool true)]⟩)),
  .inr Q433,
  .inl (110, [(.int .u64 (.ofNat 65535)), (.int .u64 (.ofNat 1))], (.int .u64 (.ofNat 1))),
  .inl (215, [(.int .u64 (.ofNat 65535))], (I 5))]
def T15 : Tab := pushT T14 L15
def B434 : List (Nat × List Value) := [(64000, [(U 0), (U 0), (U 0), (U 0), (U 0), (U 0), (U 0), (U 0), (U 0), (U 0), (U 0), (U 0), (U 0), (U 0), (U 0), (U 0), (U 0), (U 0), (U 0), (U 0), (U 0), (U 0), (U 0), (U 0)])]
def B435 : List (Nat × List Value) := [(64000, [(U 0), (U 54), (U 53), (U 53), (U 51), (U 53), (U 0), (U 0), (U 0), (U 0), (U 0), (U 0), (U 0), (U 0), (U 0), (U 0), (U 0), (U 0), (U 0), (U 0), (U 0), (U 0), (U 0), (U 0)])]
def Q436 : KC := ⟨216, [(C 64000 1 5 23), (.int .u64 (.ofNat 65535))], 1001, 64000, B434, (.tuple ⟨[]⟩), 1001, B435, [], []⟩
def B437 : List (Nat × List Value) := [(64000, [(.func (.func 72) ⟨[]⟩ ⟨[]⟩)])]
def B438 : List (Nat × List Value) := [(64000, [(.func (.func 72) ⟨[]⟩ ⟨[]⟩)])]
def Q439 : KC := ⟨69, [(A [(S [54, 53, 53, 51, 53]), (S [49])]), (A [(S [49]), (S [50])]), (.func (.func 70) ⟨[]⟩ ⟨[]⟩), (.func (.func 114) ⟨[]⟩ ⟨[(Z 64000 0)]⟩)], 1001, 64064, B437, (.tuple ⟨[(A [(S [54, 53, 53, 51, 53]), (S [50])]), (I 0)]⟩), 1008, B438, [], []⟩
def B440 : List (Nat × List Value) := [(64000, [(.func (.func 80) ⟨[]⟩ ⟨[]⟩)])]
def B441 : List (Nat × List Value) := [(64000, [(.func (.func 80) ⟨[]⟩ ⟨[]⟩)])]
def Q442 : KC := ⟨69, [(A [(S [48]), (S [49])]), (A [(S [54, 53, 53, 51, 53]), (S [50])]), (.func (.func 79) ⟨[]⟩ ⟨[]⟩), (.func (.func 114) ⟨[]⟩ ⟨[(Z 64000 0)]⟩)], 1001, 64064, B440, (.tuple ⟨[(A [(S [54, 53, 53, 51, 53]), (S [50])]), (I 0)]⟩), 1008, B441, [], []⟩
def B443 : List (Nat × List Value) := [(64000, [(S [54, 53, 53, 51, 53]), (S [50]), (S [54, 53, 53, 51, 53]), (S [49])])]
def B444 : List (Nat × List Value) := [(64256, [(S [54, 53, 53, 51, 53]), (S [49])]), (64064, [(S [54, 53, 53, 51, 53]), (S [50])]), (64000, [(S [54, 53, 53, 51, 53]), (S [50]), (S [54, 53, 53, 51, 53]), (S [49])])]
def Q445 : KC := ⟨49, [(C 64000 0 2 2)], 1001, 64064, B443, (I 0), 1007, B444, [], []⟩
def B446 : List (Nat × List Value) := [(64000, [(.func (.func 82) ⟨[]⟩ ⟨[]⟩)])]
def B447 : List (Nat × List Value) := [(64000, [(.func (.func 82) ⟨[]⟩ ⟨[]⟩)])]
def Q448 : KC := ⟨69, [(A [(S [54, 53, 53, 51, 53]), (S [50])]), (A [(S [54, 53, 53, 51, 53]), (S [49])]), (.func (.func 81) ⟨[]⟩ ⟨[]⟩), (.func (.func 114) ⟨[]⟩ ⟨[(Z 64000 0)]⟩)], 1001, 64064, B446, (.tuple ⟨[(A [(S [49]), (S [50])]), (I 0)]⟩), 1011, B447, [], []⟩
def L16 : List (Sum (FuncId × List Value × Value) KC) := [.inr Q436,
  .inl (164, [(I 65535)], (S [54, 53, 53, 51, 53])),
  .inl (113, [(A [(I 65535), (I 1)])], (A [(S [54, 53, 53, 51, 53]), (S [49])])),
  .inl (94, [(I 65535), (I 1)], (.tuple ⟨[(A [(S [54, 53, 53, 51, 53]), (S [49])]), (.bool true)]⟩)),
  .inl (161, [(S [54, 53, 53, 51, 53])], (.tuple ⟨[(I 65535), (.bool true)]⟩)),
  .inl (108, [(A [(S [54, 53, 53, 51, 53]), (S [49])])], (.tuple ⟨[(A [(I 65535), (I 1)]), (.bool true)]⟩)),
  .inl (110, [(.int .u64 (.ofNat 65535)), (.int .u64 (.ofNat 2))], (.int .u64 (.ofNat 1))),
  .inl (143, [(.int .u64 (.ofNat 65535)), (.int .u64 (.ofNat 1))], (.tuple ⟨[(.int .u64 (.ofNat 0)), (.int .u64 (.ofNat 65535))]⟩)),
  .inl (112, [(I 65535), (I 1)], (.tuple ⟨[(I 65535), (.bool true)]⟩)),
  .inl (143, [(.int .u64 (.ofNat 1)), (.int .u64 (.ofNat 2))], (.tuple ⟨[(.int .u64 (.ofNat 0)), (.int .u64 (.ofNat 2))]⟩)),
  .inl (112, [(I 1), (I 2)], (.tuple ⟨[(I 2), (.bool true)]⟩)),
  .inl (113, [(A [(I 65535), (I 2)])], (A [(S [54, 53, 53, 51, 53]), (S [50])])),
  .inl (70, [(A [(I 65535), (I 1)]), (A [(I 1), (I 2)])], (.tuple ⟨[(A [(S [54, 53, 53, 51, 53]), (S [50])]), (.bool true)]⟩)),
  .inr Q439,
  .inl (108, [(A [(S [54, 53, 53, 51, 53]), (S [50])])], (.tuple ⟨[(A [(I 65535), (I 2)]), (.bool true)]⟩)),
  .inl (79, [(A [(I 0), (I 1)]), (A [(I 65535), (I 2)])], (.tuple ⟨[(A [(S [54, 53, 53, 51, 53]), (S [50])]), (.bool true)]⟩)),
  .inr Q442,
  .inr Q445,
  .inl (110, [(.int .u64 (.ofNat 65535)), (.int .u64 (.ofNat 65535))], (.int .u64 (.ofNat 65535))),
  .inl (70, [(A [(I 65535), (I 2)]), (A [(I 1), (I 65535)])], (.tuple ⟨[(A [(S [49]), (S [50])]), (.bool true)]⟩)),
  .inr Q448]
def T16 : Tab := pushT T15 L16
def B449 : List (Nat × List Value) := [(64000, [(I 0), (I 65535), (I 0)])]
def B450 : List (Nat × List Value) := [(64000, [(I 0), (I 65535), (I 0)])]
def Q451 : KC := ⟨16, [(A [(I 2), (C 64000 0 3 3), (.slice none 0 0)]), (A [(S [49]), (S [52])])], 1001, 64064, B449, (A [(S [49]), (S [50])]), 1113, B450, [], []⟩
def B452 : List (Nat × List Value) := [(64000, [(I 250000000000), (I 750000000000)]), (64064, [(I 250000000000), (I 750000000000)])]
def B453 : List (Nat × List Value) := [(64320, [(S [51]), (S [52])]), (64000, [(I 250000000000), (I 750000000000)]), (64192, [(I 250000000000), (I 750000000000)]), (64128, [(S [51]), (S [52])]), (64064, [(I 250000000000), (I 750000000000)])]
def Q454 : KC := ⟨99, [(.func (.func 101) ⟨[]⟩ ⟨[(Z 64000 0)]⟩), (C 64064 0 1 1)], 1002, 64128, B452, (.tuple ⟨[(A [(S [51]), (S [52])]), (I 0)]⟩), 1008, B453, [], []⟩
def L17 : List (Sum (FuncId × List Value × Value) KC) := [.inr Q451,
  .inl (118, [(A [(I 1), (I 2)]), (I 1000000000000)], (.tuple ⟨[(I 500000000000), (.bool true)]⟩)),
  .inl (74, [(A [(S [49]), (S [50])]), (I 1000000000000)], (.tuple ⟨[(I 500000000000), (I 0)]⟩)),
  .inl (110, [(.int .u64 (.ofNat 500000000000)), (.int .u64 (.ofNat 1000000000000))], (.int .u64 (.ofNat 500000000000))),
  .inl (94, [(I 500000000000), (I 1000000000000)], (.tuple ⟨[(A [(S [49]), (S [50])]), (.bool true)]⟩)),
  .inl (91, [(A [(I 1), (I 2)]), (A [(I 1), (I 2)])], (.tuple ⟨[(I 0), (.bool true)]⟩)),
  .inl (50, [(A [(S [49]), (S [50])]), (A [(S [49]), (S [50])])], (.tuple ⟨[(I 0), (I 0)]⟩)),
  .inl (98, [(A [(S [49]), (S [50])])], (.tuple ⟨[(A [(I 500000000000), (I 500000000000)]), (I 0)]⟩)),
  .inl (110, [(.int .u64 (.ofNat 750000000000)), (.int .u64 (.ofNat 1000000000000))], (.int .u64 (.ofNat 250000000000))),
  .inl (113, [(A [(I 3), (I 4)])], (A [(S [51]), (S [52])])),
  .inl (94, [(I 750000000000), (I 1000000000000)], (.tuple ⟨[(A [(S [51]), (S [52])]), (.bool true)]⟩)),
  .inr Q454,
  .inl (161, [(S [51])], (.tuple ⟨[(I 3), (.bool true)]⟩)),
  .inl (110, [(.int .u64 (.ofNat 3)), (.int .u64 (.ofNat 4))], (.int .u64 (.ofNat 1))),
  .inl (108, [(A [(S [51]), (S [52])])], (.tuple ⟨[(A [(I 3), (I 4)]), (.bool true)]⟩)),
  .inl (110, [(.int .u64 (.ofNat 3)), (.int .u64 (.ofNat 1))], (.int .u64 (.ofNat 1))),
  .inl (143, [(.int .u64 (.ofNat 3)), (.int .u64 (.ofNat 1))], (.tuple ⟨[(.int .u64 (.ofNat 0)), (.int .u64 (.ofNat 3))]⟩)),
  .inl (112, [(I 3), (I 1)], (.tuple ⟨[(I 3), (.bool true)]⟩)),
  .inl (113, [(A [(I 3), (I 2)])], (A [(S [51]), (S [50])]))]
def T17 : Tab := pushT T16 L17
def B455 : List (Nat × List Value) := [(64000, [(.func (.func 72) ⟨[]⟩ ⟨[]⟩)])]
def B456 : List (Nat × List Value) := [(64000, [(.func (.func 72) ⟨[]⟩ ⟨[]⟩)])]
def Q457 : KC := ⟨69, [(A [(S [51]), (S [52])]), (A [(S [50]), (S [49])]), (.func (.func 70) ⟨[]⟩ ⟨[]⟩), (.func (.func 114) ⟨[]⟩ ⟨[(Z 64000 0)]⟩)], 1001, 64064, B455, (.tuple ⟨[(A [(S [51]), (S [50])]), (I 0)]⟩), 1008, B456, [], []⟩
def B458 : List (Nat × List Value) := [(64000, [(.int .u64 (.ofNat 1)), (.int .u64 (.ofNat 0))])]
def B459 : List (Nat × List Value) := [(64256, [(I 1)]), (64128, [(U 0), (U 49)]), (64192, [(C 64128 0 2 2)]), (64000, [(.int .u64 (.ofNat 1)), (.int .u64 (.ofNat 0))]), (64064, [(C 64000 0 1 1), (.bool false)])]
def Q460 : KC := ⟨129, [(A [(C 64000 0 1 1), (.bool false)])], 1001, 64064, B458, (S [49]), 1005, B459, [], []⟩
def B461 : List (Nat × List Value) := [(64000, [(.func (.func 78) ⟨[]⟩ ⟨[]⟩)])]
def B462 : List (Nat × List Value) := [(64000, [(.func (.func 78) ⟨[]⟩ ⟨[]⟩)])]
def Q463 : KC := ⟨69, [(A [(S [51]), (S [50])]), (A [(S [49]), (S [49])]), (.func (.func 77) ⟨[]⟩ ⟨[]⟩), (.func (.func 114) ⟨[]⟩ ⟨[(Z 64000 0)]⟩)], 1001, 64064, B461, (.tuple ⟨[(A [(S [49]), (S [50])]), (I 0)]⟩), 1013, B462, [], []⟩
def B464 : List (Nat × List Value) := [(64000, [(.func (.func 72) ⟨[]⟩ ⟨[]⟩)])]
def B465 : List (Nat × List Value) := [(64000, [(.func (.func 72) ⟨[]⟩ ⟨[]⟩)])]
def Q466 : KC := ⟨69, [(A [(S [45, 54, 53, 53, 51, 53]), (S [49])]), (A [(S [49]), (S [50])]), (.func (.func 70) ⟨[]⟩ ⟨[]⟩), (.func (.func 114) ⟨[]⟩ ⟨[(Z 64000 0)]⟩)], 1001, 64064, B464, (.tuple ⟨[(A [(S [45, 54, 53, 53, 51, 53]), (S [50])]), (I 0)]⟩), 1008, B465, [], []⟩
def B467 : List (Nat × List Value) := [(64000, [(.func (.func 80) ⟨[]⟩ ⟨[]⟩)])]
def B468 : List (Nat × List Value) := [(64000, [(.func (.func 80) ⟨[]⟩ ⟨[]⟩)])]
def Q469 : KC := ⟨69, [(A [(S [54, 53, 53, 51, 53]), (S [49])]), (A [(S [45, 54, 53, 53, 51, 53]), (S [50])]), (.func (.func 79) ⟨[]⟩ ⟨[]⟩), (.func (.func 114) ⟨[]⟩ ⟨[(Z 64000 0)]⟩)], 1001, 64064, B467, (.tuple ⟨[(A [(S [54, 53, 53, 51, 53]), (S [50])]), (I 0)]⟩), 1008, B468, [], []⟩
def L18 : List (Sum (FuncId × List Value × Value) KC) := [.inl (70, [(A [(I 3), (I 4)]), (A [(I 2), (I 1)])], (.tuple ⟨[(A [(S [51]), (S [50])]), (.bool true)]⟩)),
  .inr Q457,
  .inl (110, [(.int .u64 (.ofNat 3)), (.int .u64 (.ofNat 2))], (.int .u64 (.ofNat 1))),
  .inl (108, [(A [(S [51]), (S [50])])], (.tuple ⟨[(A [(I 3), (I 2)]), (.bool true)]⟩)),
  .inr Q460,
  .inl (124, [(I 1)], (S [49])),
  .inl (118, [(A [(I 1), (I 1)]), (I 1)], (.tuple ⟨[(I 1), (.bool true)]⟩)),
  .inl (74, [(A [(S [49]), (S [49])]), (I 1)], (.tuple ⟨[(I 1), (I 0)]⟩)),
  .inl (36, [(A [(S [51]), (S [50])])], (I 1)),
  .inl (112, [(.int .i64 (.negSucc 0)), (I 2)], (.tuple ⟨[(.int .i64 (.negSucc 1)), (.bool true)]⟩)),
  .inl (79, [(A [(I 3), (I 2)]), (A [(.int .i64 (.negSucc 0)), (I 1)])], (.tuple ⟨[(A [(S [49]), (S [50])]), (.bool true)]⟩)),
  .inr Q463,
  .inl (164, [(.int .i64 (.negSucc 65534))], (S [45, 54, 53, 53, 51, 53])),
  .inl (113, [(A [(.int .i64 (.negSucc 65534)), (I 1)])], (A [(S [45, 54, 53, 53, 51, 53]), (S [49])])),
  .inl (94, [(.int .i64 (.negSucc 65534)), (I 1)], (.tuple ⟨[(A [(S [45, 54, 53, 53, 51, 53]), (S [49])]), (.bool true)]⟩)),
  .inl (161, [(S [45, 54, 53, 53, 51, 53])], (.tuple ⟨[(.int .i64 (.negSucc 65534)), (.bool true)]⟩)),
  .inl (108, [(A [(S [45, 54, 53, 53, 51, 53]), (S [49])])], (.tuple ⟨[(A [(.int .i64 (.negSucc 65534)), (I 1)]), (.bool true)]⟩)),
  .inl (112, [(.int .i64 (.negSucc 65534)), (I 1)], (.tuple ⟨[(.int .i64 (.negSucc 65534)), (.bool true)]⟩)),
  .inl (113, [(A [(.int .i64 (.negSucc 65534)), (I 2)])], (A [(S [45, 54, 53, 53, 51, 53]), (S [50])])),
  .inl (70, [(A [(.int .i64 (.negSucc 65534)), (I 1)]), (A [(I 1), (I 2)])], (.tuple ⟨[(A [(S [45, 54, 53, 53, 51, 53]), (S [50])]), (.bool true)]⟩)),
  .inr Q466,
  .inl (108, [(A [(S [45, 54, 53, 53, 51, 53]), (S [50])])], (.tuple ⟨[(A [(.int .i64 (.negSucc 65534)), (I 2)]), (.bool true)]⟩)),
  .inl (143, [(.int .u64 (.ofNat 65535)), (.int .u64 (.ofNat 2))], (.tuple ⟨[(.int .u64 (.ofNat 0)), (.int .u64 (.ofNat 131070))]⟩)),
  .inl (112, [(I 65535), (I 2)], (.tuple ⟨[(I 131070), (.bool true)]⟩)),
  .inl (79, [(A [(I 65535), (I 1)]), (A [(.int .i64 (.negSucc 65534)), (I 2)])], (.tuple ⟨[(A [(S [54, 53, 53, 51, 53]), (S [50])]), (.bool true)]⟩)),
  .inr Q469]
def T18 : Tab := pushT T17 L18
def B470 : List (Nat × List Value) := [(64000, [(I 0), (I 65535), (I 0)])]
def B471 : List (Nat × List Value) := [(64000, [(I 0), (I 65535), (I 0)])]
def Q472 : KC := ⟨16, [(A [(I 2), (C 64000 0 3 3), (.slice none 0 0)]), (A [(S [51]), (S [52])])], 1001, 64064, B470, (A [(S [49]), (S [50])]), 1113, B471, [], []⟩
def B473 : List (Nat × List Value) := [(64000, [(.func (.func 64) ⟨[]⟩ ⟨[]⟩), (.func (.func 64) ⟨[]⟩ ⟨[]⟩), (.func (.func 65) ⟨[]⟩ ⟨[]⟩), (.func (.func 65) ⟨[]⟩ ⟨[]⟩), (.func (.func 64) ⟨[]⟩ ⟨[]⟩), (.func (.func 65) ⟨[]⟩ ⟨[]⟩), (.func (.func 65) ⟨[]⟩ ⟨[]⟩), (.func (.func 64) ⟨[]⟩ ⟨[]⟩)]), (64064, [(I 2)]), (64128, [(I 500000000000), (I 500000000000)]), (64192, [(I 500000000000), (I 500000000000)])]
def B474 : List (Nat × List Value) := [(64448, [(I 500000000000), (I 500000000000)]), (64384, [(I 500000000000)]), (64320, [(I 500000000000)]), (64000, [(.func (.func 64) ⟨[]⟩ ⟨[]⟩), (.func (.func 64) ⟨[]⟩ ⟨[]⟩), (.func (.func 65) ⟨[]⟩ ⟨[]⟩), (.func (.func 65) ⟨[]⟩ ⟨[]⟩), (.func (.func 64) ⟨[]⟩ ⟨[]⟩), (.func (.func 65) ⟨[]⟩ ⟨[]⟩), (.func (.func 65) ⟨[]⟩ ⟨[]⟩), (.func (.func 64) ⟨[]⟩ ⟨[]⟩)]), (64064, [(I 2)]), (64128, [(I 500000000000), (I 500000000000)]), (64192, [(I 500000000000), (I 500000000000)]), (64256, [(I 500000000000), (I 500000000000)])]
def Q475 : KC := ⟨183, [(Z 64000 0), (Z 64064 0), (Z 64128 0), (Z 64192 0)], 1004, 64256, B473, (.tuple ⟨[(A [(I 500000000000), (I 500000000000)]), (I 0)]⟩), 1008, B474, [], []⟩
def B476 : List (Nat × List Value) := [(64000, [(.func (.func 64) ⟨[]⟩ ⟨[]⟩), (.func (.func 64) ⟨[]⟩ ⟨[]⟩), (.func (.func 65) ⟨[]⟩ ⟨[]⟩), (.func (.func 65) ⟨[]⟩ ⟨[]⟩), (.func (.func 64) ⟨[]⟩ ⟨[]⟩), (.func (.func 65) ⟨[]⟩ ⟨[]⟩), (.func (.func 65) ⟨[]⟩ ⟨[]⟩), (.func (.func 64) ⟨[]⟩ ⟨[]⟩)]), (64064, [(I 2)]), (64128, [(I 500000000000), (I 500000000000)]), (64192, [(I 500000000000), (I 500000000000)]), (64256, [(I 500000000000), (I 500000000000), (I 500000000000), (I 500000000000)])]
def Q477 : KC := ⟨60, [(.func (.func 183) ⟨[]⟩ ⟨[(Z 64000 0), (Z 64064 0), (Z 64128 0), (Z 64192 0)]⟩), (C 64256 0 2 2)], 1005, 64320, B476, (.tuple ⟨[(A [(I 500000000000), (I 500000000000)]), (I 0)]⟩), 1014, B476, [], []⟩
def B478 : List (Nat × List Value) := [(64000, [(I 500000000000), (I 500000000000)])]
def B479 : List (Nat × List Value) := [(64000, [(I 500000000000), (I 500000000000)])]
def Q480 : KC := ⟨53, [(A [(I 500000000000), (I 500000000000)]), (C 64000 0 1 1)], 1001, 64064, B478, (A [(I 500000000000), (I 500000000000)]), 1024, B479, [], []⟩
def B481 : List (Nat × List Value) := [(64000, [(.func (.func 64) ⟨[]⟩ ⟨[]⟩), (.func (.func 64) ⟨[]⟩ ⟨[]⟩), (.func (.func 65) ⟨[]⟩ ⟨[]⟩), (.func (.func 65) ⟨[]⟩ ⟨[]⟩), (.func (.func 64) ⟨[]⟩ ⟨[]⟩), (.func (.func 65) ⟨[]⟩ ⟨[]⟩), (.func (.func 65) ⟨[]⟩ ⟨[]⟩), (.func (.func 64) ⟨[]⟩ ⟨[]⟩)]), (64064, [(I 2)]), (64128, [(I 500000000000), (I 500000000000)]), (64192, [(I 1000000000000), (I 1000000000000)])]
def B482 : List (Nat × List Value) := [(64448, [(I 500000000000), (I 1000000000000)]), (64384, [(I 1000000000000)]), (64320, [(I 1000000000000)]), (64000, [(.func (.func 64) ⟨[]⟩ ⟨[]⟩), (.func (.func 64) ⟨[]⟩ ⟨[]⟩), (.func (.func 65) ⟨[]⟩ ⟨[]⟩), (.func (.func 65) ⟨[]⟩ ⟨[]⟩), (.func (.func 64) ⟨[]⟩ ⟨[]⟩), (.func (.func 65) ⟨[]⟩ ⟨[]⟩), (.func (.func 65) ⟨[]⟩ ⟨[]⟩), (.func (.func 64) ⟨[]⟩ ⟨[]⟩)]), (64064, [(I 2)]), (64128, [(I 500000000000), (I 500000000000)]), (64192, [(I 1000000000000), (I 1000000000000)]), (64256, [(I 500000000000), (I 1000000000000)])]
def Q483 : KC := ⟨183, [(Z 64000 0), (Z 64064 0), (Z 64128 0), (Z 64192 0)], 1004, 64256, B481, (.tuple ⟨[(A [(I 500000000000), (I 1000000000000)]), (I 0)]⟩), 1008, B482, [], []⟩
def B484 : List (Nat × List Value) := [(64000, [(.func (.func 64) ⟨[]⟩ ⟨[]⟩), (.func (.func 64) ⟨[]⟩ ⟨[]⟩), (.func (.func 65) ⟨[]⟩ ⟨[]⟩), (.func (.func 65) ⟨[]⟩ ⟨[]⟩), (.func (.func 64) ⟨[]⟩ ⟨[]⟩), (.func (.func 65) ⟨[]⟩ ⟨[]⟩), (.func (.func 65) ⟨[]⟩ ⟨[]⟩), (.func (.func 64) ⟨[]⟩ ⟨[]⟩)]), (64064, [(I 2)]), (64128, [(I 500000000000), (I 500000000000)]), (64192, [(I 1000000000000), (I 1000000000000)]), (64256, [(I 500000000000), (I 500000000000), (I 1000000000000), (I 1000000000000)])]
def Q485 : KC := ⟨60, [(.func (.func 183) ⟨[]⟩ ⟨[(Z 64000 0), (Z 64064 0), (Z 64128 0), (Z 64192 0)]⟩), (C 64256 0 2 2)], 1005, 64320, B484, (.tuple ⟨[(A [(I 500000000000), (I 1000000000000)]), (I 0)]⟩), 1014, B484, [], []⟩
def B486 : List (Nat × List Value) := [(64000, [(I 1000000000000), (I 1000000000000)])]
def B487 : List (Nat × List Value) := [(64000, [(I 1000000000000), (I 1000000000000)])]
def Q488 : KC := ⟨53, [(A [(I 500000000000), (I 500000000000)]), (C 64000 0 1 1)], 1001, 64064, B486, (A [(I 500000000000), (I 1000000000000)]), 1024, B487, [], []⟩
def L19 : List (Sum (FuncId × List Value × Value) KC) := [.inr Q472,
  .inr Q475,
  .inr Q477,
  .inr Q480,
  .inl (94, [(I 65535), (I 65535)], (.tuple ⟨[(A [(S [49]), (S [49])]), (.bool true)]⟩)),
  .inl (118, [(A [(I 1), (I 1)]), (I 1000000000000)], (.tuple ⟨[(I 1000000000000), (.bool true)]⟩)),
  .inl (74, [(A [(S [49]), (S [49])]), (I 1000000000000)], (.tuple ⟨[(I 1000000000000), (I 0)]⟩)),
  .inl (110, [(.int .u64 (.ofNat 1000000000000)), (.int .u64 (.ofNat 1000000000000))], (.int .u64 (.ofNat 1000000000000))),
  .inl (94, [(I 1000000000000), (I 1000000000000)], (.tuple ⟨[(A [(S [49]), (S [49])]), (.bool true)]⟩)),
  .inl (91, [(A [(I 1), (I 1)]), (A [(I 1), (I 1)])], (.tuple ⟨[(I 0), (.bool true)]⟩)),
  .inl (50, [(A [(S [49]), (S [49])]), (A [(S [49]), (S [49])])], (.tuple ⟨[(I 0), (I 0)]⟩)),
  .inl (98, [(A [(S [49]), (S [49])])], (.tuple ⟨[(A [(I 1000000000000), (I 1000000000000)]), (I 0)]⟩)),
  .inr Q483,
  .inr Q485,
  .inr Q488]
def T19 : Tab := pushT T18 L19
def B489 : List (Nat × List Value) := [(64000, [(I 0), (I 65535), (I 0)])]
def B490 : List (Nat × List Value) := [(64000, [(I 0), (I 65535), (I 0)])]
def Q491 : KC := ⟨24, [(A [(I 2), (C 64000 0 3 3), (.slice none 0 0)]), (A [(I 250000000000), (I 750000000000)])], 1001, 64064, B489, (A [(I 500000000000), (I 1000000000000)]), 1316, B490, [], []⟩
def B492 : List (Nat × List Value) := [(64000, [(I 0), (I 65535), (I 0)])]
def B493 : List (Nat × List Value) := [(64000, [(I 0), (I 65535), (I 0)])]
def Q494 : KC := ⟨6, [(A [(I 2), (C 64000 0 3 3), (.slice none 0 0)]), (A [(I 250000000000), (I 750000000000)])], 1001, 64064, B492, (.tuple ⟨[(A [(I 500000000000), (I 1000000000000)]), (I 0)]⟩), 1343, B493, [], []⟩
def B495 : List (Nat × List Value) := [(64000, [(I 0), (I 65535), (I 0)])]
def B496 : List (Nat × List Value) := [(64000, [(I 0), (I 65535), (I 0)])]
def Q497 : KC := ⟨30, [(C 64000 0 3 3)], 1001, 64064, B495, (I 0), 1001, B496, [], []⟩
def B498 : List (Nat × List Value) := [(64000, [(I 0), (I 65535), (I 0)])]
def B499 : List (Nat × List Value) := [(64000, [(I 0), (I 65535), (I 0)]), (64128, [(I 2), (C 64000 0 3 3), (.slice none 0 0)]), (64064, [(I 2), (C 64000 0 3 3), (.slice none 0 0)])]
def Q500 : KC := ⟨7, [(A [(I 2), (C 64000 0 3 3), (.slice none 0 0)])], 1001, 64064, B498, (.tuple ⟨[(I 0), (I 0)]⟩), 1003, B499, [], []⟩
def B501 : List (Nat × List Value) := [(64001, [(I 1)])]
def B502 : List (Nat × List Value) := [(64064, [(I 0)]), (64001, [(I 1)])]
def Q503 : KC := ⟨205, [(C 64001 0 1 1), (I 2)], 1001, 64064, B501, (.tuple ⟨[(C 64064 0 0 1), (I 1)]⟩), 1002, B502, [], []⟩
def B504 : List (Nat × List Value) := [(64001, [(I 1)]), (64065, [(I 2)])]
def B505 : List (Nat × List Value) := [(64192, [(I 1)]), (64128, [(I 0)]), (64001, [(I 1)]), (64065, [(I 2)])]
def Q506 : KC := ⟨190, [(C 64001 0 1 1), (C 64065 0 1 1)], 1002, 64128, B504, (.tuple ⟨[(C 64128 0 0 1), (C 64192 0 1 1)]⟩), 1004, B505, [], []⟩
def B507 : List (Nat × List Value) := [(64001, [(I 2)])]
def B508 : List (Nat × List Value) := [(64064, [(I 2)]), (64001, [(I 2)])]
def Q509 : KC := ⟨205, [(C 64001 0 1 1), (I 1)], 1001, 64064, B507, (.tuple ⟨[(C 64064 0 1 1), (I 0)]⟩), 1002, B508, [], []⟩
def B510 : List (Nat × List Value) := [(64001, [(I 2)]), (64064, [(I 1)])]
def B511 : List (Nat × List Value) := [(64192, [(I 0)]), (64128, [(I 2)]), (64001, [(I 2)]), (64064, [(I 1)])]
def Q512 : KC := ⟨190, [(C 64001 0 1 1), (C 64064 0 1 1)], 1002, 64128, B510, (.tuple ⟨[(C 64128 0 1 1), (C 64192 0 0 1)]⟩), 1004, B511, [], []⟩
def B513 : List (Nat × List Value) := [(64001, [(I 1)]), (64065, [(I 2)])]
def B514 : List (Nat × List Value) := [(64065, [(I 2)]), (64384, [(I 1)]), (64001, [(I 1)])]
def Q515 : KC := ⟨158, [(A [(.bool false), (C 64001 0 1 1)]), (A [(.bool false), (C 64065 0 1 1)])], 1002, 64128, B513, (A [(.bool false), (C 64384 0 1 1)]), 1009, B514, [], []⟩
def B516 : List (Nat × List Value) := [(64001, [(I 2)]), (64064, [(I 1)])]
def B517 : List (Nat × List Value) := [(64448, [(I 0)]), (64384, [(I 2)]), (64001, [(I 2)]), (64064, [(I 1)])]
def Q518 : KC := ⟨159, [(A [(.bool false), (C 64001 0 1 1)]), (A [(.bool false), (C 64064 0 1 1)])], 1002, 64128, B516, (.tuple ⟨[(A [(.bool false), (C 64384 0 1 1)]), (A [(.bool false), (C 64448 0 0 1)])]⟩), 1012, B517, [], []⟩
def B519 : List (Nat × List Value) := [(64000, [(I 2)])]
def B520 : List (Nat × List Value) := [(64064, [(.bool false), (C 64000 0 1 1)]), (64000, [(I 2)])]
def Q521 : KC := ⟨156, [(A [(.bool false), (C 64000 0 1 1)])], 1001, 64064, B519, (S [50]), 1003, B520, [], []⟩
def B522 : List (Nat × List Value) := [(64000, [(I 1)]), (64064, [(I 2)])]
def B523 : List (Nat × List Value) := [(64064, [(I 2)]), (64000, [(I 1)])]
def Q524 : KC := ⟨67, [(A [(.bool false), (C 64000 0 1 1), (.bool false), (C 64064 0 1 1)])], 1002, 64128, B522, (.tuple ⟨[(A [(S [49]), (S [50])]), (I 0)]⟩), 1010, B523, [], []⟩
def B525 : List (Nat × List Value) := [(64000, [(I 0), (I 65535), (I 0)])]
def B526 : List (Nat × List Value) := [(64000, [(I 0), (I 65535), (I 0)])]
def Q527 : KC := ⟨5, [(A [(I 2), (C 64000 0 3 3), (.slice none 0 0)]), (A [(S [49]), (S [52])])], 1001, 64064, B525, (.tuple ⟨[(A [(S [49]), (S [50])]), (I 0)]⟩), 1133, B526, [], []⟩
def B528 : List (Nat × List Value) := [(64001, [(I 2)]), (64065, [(I 1)])]
def B529 : List (Nat × List Value) := [(64192, [(I 0)]), (64128, [(I 2)]), (64001, [(I 2)]), (64065, [(I 1)])]
def Q530 : KC := ⟨190, [(C 64001 0 1 1), (C 64065 0 1 1)], 1002, 64128, B528, (.tuple ⟨[(C 64128 0 1 1), (C 64192 0 0 1)]⟩), 1004, B529, [], []⟩
def L20 : List (Sum (FuncId × List Value × Value) KC) := [.inr Q491,
  .inr Q494,
  .inr Q497,
  .inr Q500,
  .inr Q503,
  .inr Q506,
  .inr Q509,
  .inr Q512,
  .inr Q515,
  .inr Q518,
  .inr Q521,
  .inr Q524,
  .inl (34, [(I 1), (I 2)], (.tuple ⟨[(A [(S [49]), (S [50])]), (I 0)]⟩)),
  .inr Q527,
  .inr Q530]
def T20 : Tab := pushT T19 L20
def B531 : List (Nat × List Value) := [(64001, [(I 2)]), (64065, [(I 1)])]
def B532 : List (Nat × List Value) := [(64448, [(I 0)]), (64384, [(I 2)]), (64001, [(I 2)]), (64065, [(I 1)])]
def Q533 : KC := ⟨159, [(A [(.bool false), (C 64001 0 1 1)]), (A [(.bool false), (C 64065 0 1 1)])], 1002, 64128, B531, (.tuple ⟨[(A [(.bool false), (C 64384 0 1 1)]), (A [(.bool false), (C 64448 0 0 1)])]⟩), 1012, B532, [], []⟩
def B534 : List (Nat × List Value) := [(64001, [(I 1)])]
def B535 : List (Nat × List Value) := [(64128, [(I 0)]), (64064, [(I 1)]), (64001, [(I 1)])]
def Q536 : KC := ⟨190, [(C 64001 0 1 1), (C 64001 0 1 1)], 1001, 64064, B534, (.tuple ⟨[(C 64064 0 1 1), (C 64128 0 0 1)]⟩), 1003, B535, [], []⟩
def B537 : List (Nat × List Value) := [(64001, [(I 1)])]
def B538 : List (Nat × List Value) := [(64384, [(I 0)]), (64320, [(I 1)]), (64001, [(I 1)])]
def Q539 : KC := ⟨159, [(A [(.bool false), (C 64001 0 1 1)]), (A [(.bool false), (C 64001 0 1 1)])], 1001, 64064, B537, (.tuple ⟨[(A [(.bool false), (C 64320 0 1 1)]), (A [(.bool false), (C 64384 0 0 1)])]⟩), 1011, B538, [], []⟩
def B540 : List (Nat × List Value) := [(64001, [(I 2)]), (64065, [(I 1)])]
def B541 : List (Nat × List Value) := [(65728, [(I 1)]), (64065, [(I 1)]), (64960, [(I 2)]), (64001, [(I 2)])]
def Q542 : KC := ⟨106, [(A [(.bool false), (C 64001 0 1 1)]), (A [(.bool false), (C 64065 0 1 1)])], 1002, 64128, B540, (A [(.bool false), (C 64960 0 1 1), (.bool false), (C 65728 0 1 1)]), 1035, B541, [], []⟩
def B543 : List (Nat × List Value) := [(64000, [(I 2)]), (64064, [(I 1)])]
def B544 : List (Nat × List Value) := [(64064, [(I 1)]), (64000, [(I 2)])]
def Q545 : KC := ⟨67, [(A [(.bool false), (C 64000 0 1 1), (.bool false), (C 64064 0 1 1)])], 1002, 64128, B543, (.tuple ⟨[(A [(S [50]), (S [49])]), (I 0)]⟩), 1010, B544, [], []⟩
def B546 : List (Nat × List Value) := [(64001, [(I 1)])]
def B547 : List (Nat × List Value) := [(64128, [(I 0)]), (64064, []), (64001, [(I 1)])]
def Q548 : KC := ⟨190, [(.slice none 0 0), (C 64001 0 1 1)], 1001, 64064, B546, (.tuple ⟨[(C 64064 0 0 0), (C 64128 0 0 1)]⟩), 1003, B547, [], []⟩
def B549 : List (Nat × List Value) := [(64001, [(I 1)])]
def B550 : List (Nat × List Value) := [(64384, [(I 0)]), (64320, []), (64001, [(I 1)])]
def Q551 : KC := ⟨159, [(A [(.bool false), (.slice none 0 0)]), (A [(.bool false), (C 64001 0 1 1)])], 1001, 64064, B549, (.tuple ⟨[(A [(.bool false), (C 64320 0 0 0)]), (A [(.bool false), (C 64384 0 0 1)])]⟩), 1011, B550, [], []⟩
def B552 : List (Nat × List Value) := [(64001, [(I 1)])]
def B553 : List (Nat × List Value) := [(65664, [(I 1)]), (64001, [(I 1)]), (64896, [])]
def Q554 : KC := ⟨106, [(A [(.bool false), (.slice none 0 0)]), (A [(.bool false), (C 64001 0 1 1)])], 1001, 64064, B552, (A [(.bool false), (C 64896 0 0 0), (.bool false), (C 65664 0 1 1)]), 1034, B553, [], []⟩
def B555 : List (Nat × List Value) := [(64000, [])]
def B556 : List (Nat × List Value) := [(64128, [(.bool false), (C 64000 0 0 0)]), (64000, []), (64064, [(.bool false), (C 64000 0 0 0)])]
def Q557 : KC := ⟨105, [(A [(.bool false), (C 64000 0 0 0)])], 1001, 64064, B555, (.tuple ⟨[(S [48]), (I 0)]⟩), 1003, B556, [], []⟩
def B558 : List (Nat × List Value) := [(64000, []), (64064, [(I 1)])]
def B559 : List (Nat × List Value) := [(64064, [(I 1)]), (64000, [])]
def Q560 : KC := ⟨67, [(A [(.bool false), (C 64000 0 0 0), (.bool false), (C 64064 0 1 1)])], 1002, 64128, B558, (.tuple ⟨[(A [(S [48]), (S [49])]), (I 0)]⟩), 1009, B559, [], []⟩
def B561 : List (Nat × List Value) := [(64000, [(S [50]), (S [49]), (S [48]), (S [49]), (S [49]), (S [49])])]
def B562 : List (Nat × List Value) := [(64000, [(S [50]), (S [49]), (S [48]), (S [49]), (S [49]), (S [49])])]
def Q563 : KC := ⟨49, [(C 64000 0 3 3)], 1001, 64064, B561, (I 0), 1010, B562, [], []⟩
def L21 : List (Sum (FuncId × List Value × Value) KC) := [.inr Q533,
  .inr Q536,
  .inr Q539,
  .inr Q542,
  .inr Q545,
  .inl (34, [(I 2), (I 1)], (.tuple ⟨[(A [(S [50]), (S [49])]), (I 0)]⟩)),
  .inr Q548,
  .inr Q551,
  .inr Q554,
  .inr Q557,
  .inr Q560,
  .inl (34, [(I 0), (I 1)], (.tuple ⟨[(A [(S [48]), (S [49])]), (I 0)]⟩)),
  .inr Q563,
  .inl (91, [(A [(I 2), (I 1)]), (A [(I 0), (I 1)])], (.tuple ⟨[(I 1), (.bool true)]⟩)),
  .inl (50, [(A [(S [50]), (S [49])]), (A [(S [48]), (S [49])])], (.tuple ⟨[(I 1), (I 0)]⟩)),
  .inl (91, [(A [(I 2), (I 1)]), (A [(I 1), (I 1)])], (.tuple ⟨[(I 1), (.bool true)]⟩)),
  .inl (50, [(A [(S [50]), (S [49])]), (A [(S [49]), (S [49])])], (.tuple ⟨[(I 1), (I 0)]⟩)),
  .inl (21, [(A [(S [50]), (S [49])]), (A [(S [48]), (S [49])]), (A [(S [49]), (S [49])])], (.tuple ⟨[(A [(S [49]), (S [49])]), (I 0)]⟩)),
  .inl (70, [(A [(I 1), (I 1)]), (A [(I 2), (I 1)])], (.tuple ⟨[(A [(S [50]), (S [49])]), (.bool true)]⟩))]
def T21 : Tab := pushT T20 L21
def B564 : List (Nat × List Value) := [(64000, [(.func (.func 72) ⟨[]⟩ ⟨[]⟩)])]
def B565 : List (Nat × List Value) := [(64000, [(.func (.func 72) ⟨[]⟩ ⟨[]⟩)])]
def Q566 : KC := ⟨69, [(A [(S [49]), (S [49])]), (A [(S [50]), (S [49])]), (.func (.func 70) ⟨[]⟩ ⟨[]⟩), (.func (.func 114) ⟨[]⟩ ⟨[(Z 64000 0)]⟩)], 1001, 64064, B564, (.tuple ⟨[(A [(S [50]), (S [49])]), (I 0)]⟩), 1008, B565, [], []⟩
def B567 : List (Nat × List Value) := [(64000, [(.int .u64 (.ofNat 2)), (.int .u64 (.ofNat 0))])]
def B568 : List (Nat × List Value) := [(64256, [(I 1)]), (64128, [(U 0), (U 50)]), (64192, [(C 64128 0 2 2)]), (64000, [(.int .u64 (.ofNat 2)), (.int .u64 (.ofNat 0))]), (64064, [(C 64000 0 1 1), (.bool false)])]
def Q569 : KC := ⟨129, [(A [(C 64000 0 1 1), (.bool false)])], 1001, 64064, B567, (S [50]), 1005, B568, [], []⟩
def B570 : List (Nat × List Value) := [(64000, [(.func (.func 78) ⟨[]⟩ ⟨[]⟩)])]
def B571 : List (Nat × List Value) := [(64000, [(.func (.func 78) ⟨[]⟩ ⟨[]⟩)])]
def Q572 : KC := ⟨69, [(A [(S [50]), (S [49])]), (A [(S [49]), (S [49])]), (.func (.func 77) ⟨[]⟩ ⟨[]⟩), (.func (.func 114) ⟨[]⟩ ⟨[(Z 64000 0)]⟩)], 1001, 64064, B570, (.tuple ⟨[(A [(S [49]), (S [49])]), (I 0)]⟩), 1013, B571, [], []⟩
def B573 : List (Nat × List Value) := [(64000, [(.func (.func 72) ⟨[]⟩ ⟨[]⟩)])]
def B574 : List (Nat × List Value) := [(64000, [(.func (.func 72) ⟨[]⟩ ⟨[]⟩)])]
def Q575 : KC := ⟨69, [(A [(S [45, 54, 53, 53, 51, 53]), (S [49])]), (A [(S [49]), (S [49])]), (.func (.func 70) ⟨[]⟩ ⟨[]⟩), (.func (.func 114) ⟨[]⟩ ⟨[(Z 64000 0)]⟩)], 1001, 64064, B573, (.tuple ⟨[(A [(S [45, 54, 53, 53, 51, 53]), (S [49])]), (I 0)]⟩), 1008, B574, [], []⟩
def B576 : List (Nat × List Value) := [(64000, [(.func (.func 80) ⟨[]⟩ ⟨[]⟩)])]
def B577 : List (Nat × List Value) := [(64000, [(.func (.func 80) ⟨[]⟩ ⟨[]⟩)])]
def Q578 : KC := ⟨69, [(A [(S [54, 53, 53, 51, 53]), (S [49])]), (A [(S [45, 54, 53, 53, 51, 53]), (S [49])]), (.func (.func 79) ⟨[]⟩ ⟨[]⟩), (.func (.func 114) ⟨[]⟩ ⟨[(Z 64000 0)]⟩)], 1001, 64064, B576, (.tuple ⟨[(A [(S [48]), (S [49])]), (I 0)]⟩), 1008, B577, [], []⟩
def B579 : List (Nat × List Value) := [(64000, [(S [48]), (S [49]), (S [54, 53, 53, 51, 53]), (S [49])])]
def B580 : List (Nat × List Value) := [(64256, [(S [54, 53, 53, 51, 53]), (S [49])]), (64064, [(S [48]), (S [49])]), (64000, [(S [48]), (S [49]), (S [54, 53, 53, 51, 53]), (S [49])])]
def Q581 : KC := ⟨49, [(C 64000 0 2 2)], 1001, 64064, B579, (I 0), 1007, B580, [], []⟩
def B582 : List (Nat × List Value) := [(64000, [(.func (.func 82) ⟨[]⟩ ⟨[]⟩)])]
def B583 : List (Nat × List Value) := [(64000, [(.func (.func 82) ⟨[]⟩ ⟨[]⟩)])]
def Q584 : KC := ⟨69, [(A [(S [48]), (S [49])]), (A [(S [54, 53, 53, 51, 53]), (S [49])]), (.func (.func 81) ⟨[]⟩ ⟨[]⟩), (.func (.func 114) ⟨[]⟩ ⟨[(Z 64000 0)]⟩)], 1001, 64064, B582, (.tuple ⟨[(A [(S [48]), (S [49])]), (I 0)]⟩), 1011, B583, [], []⟩
def L22 : List (Sum (FuncId × List Value × Value) KC) := [.inr Q566,
  .inr Q569,
  .inl (124, [(I 2)], (S [50])),
  .inl (118, [(A [(I 2), (I 1)]), (I 1)], (.tuple ⟨[(I 2), (.bool true)]⟩)),
  .inl (74, [(A [(S [50]), (S [49])]), (I 1)], (.tuple ⟨[(I 2), (I 0)]⟩)),
  .inl (36, [(A [(S [50]), (S [49])])], (I 2)),
  .inl (112, [(.int .i64 (.negSucc 0)), (I 1)], (.tuple ⟨[(.int .i64 (.negSucc 0)), (.bool true)]⟩)),
  .inl (79, [(A [(I 2), (I 1)]), (A [(.int .i64 (.negSucc 0)), (I 1)])], (.tuple ⟨[(A [(S [49]), (S [49])]), (.bool true)]⟩)),
  .inr Q572,
  .inl (70, [(A [(.int .i64 (.negSucc 65534)), (I 1)]), (A [(I 1), (I 1)])], (.tuple ⟨[(A [(S [45, 54, 53, 53, 51, 53]), (S [49])]), (.bool true)]⟩)),
  .inr Q575,
  .inl (79, [(A [(I 65535), (I 1)]), (A [(.int .i64 (.negSucc 65534)), (I 1)])], (.tuple ⟨[(A [(S [48]), (S [49])]), (.bool true)]⟩)),
  .inr Q578,
  .inr Q581,
  .inl (70, [(A [(I 0), (I 1)]), (A [(I 1), (I 65535)])], (.tuple ⟨[(A [(S [48]), (S [49])]), (.bool true)]⟩)),
  .inr Q584]
def T22 : Tab := pushT T21 L22
def B585 : List (Nat × List Value) := [(64000, [(I 0), (I 65535), (I 0)])]
def B586 : List (Nat × List Value) := [(64000, [(I 0), (I 65535), (I 0)])]
def Q587 : KC := ⟨16, [(A [(I 2), (C 64000 0 3 3), (.slice none 0 0)]), (A [(S [49]), (S [49])])], 1001, 64064, B585, (A [(S [48]), (S [49])]), 1113, B586, [], []⟩
def B588 : List (Nat × List Value) := [(64000, [(I 0), (I 65535), (I 0)])]
def B589 : List (Nat × List Value) := [(64000, [(I 0), (I 65535), (I 0)])]
def Q590 : KC := ⟨5, [(A [(I 2), (C 64000 0 3 3), (.slice none 0 0)]), (A [(S [50]), (S [49])])], 1001, 64064, B588, (.tuple ⟨[(A [(S [48]), (S [49])]), (I 0)]⟩), 1133, B589, [], []⟩
def B591 : List (Nat × List Value) := [(64001, [(I 3)])]
def B592 : List (Nat × List Value) := [(64064, [(I 0)]), (64001, [(I 3)])]
def Q593 : KC := ⟨205, [(C 64001 0 1 1), (I 4)], 1001, 64064, B591, (.tuple ⟨[(C 64064 0 0 1), (I 3)]⟩), 1002, B592, [], []⟩
def B594 : List (Nat × List Value) := [(64001, [(I 3)]), (64065, [(I 4)])]
def B595 : List (Nat × List Value) := [(64192, [(I 3)]), (64128, [(I 0)]), (64001, [(I 3)]), (64065, [(I 4)])]
def Q596 : KC := ⟨190, [(C 64001 0 1 1), (C 64065 0 1 1)], 1002, 64128, B594, (.tuple ⟨[(C 64128 0 0 1), (C 64192 0 1 1)]⟩), 1004, B595, [], []⟩
def B597 : List (Nat × List Value) := [(64001, [(I 4)])]
def B598 : List (Nat × List Value) := [(64064, [(I 1)]), (64001, [(I 4)])]
def Q599 : KC := ⟨205, [(C 64001 0 1 1), (I 3)], 1001, 64064, B597, (.tuple ⟨[(C 64064 0 1 1), (I 1)]⟩), 1002, B598, [], []⟩
def B600 : List (Nat × List Value) := [(64001, [(I 4)]), (64064, [(I 3)])]
def B601 : List (Nat × List Value) := [(64192, [(I 1)]), (64128, [(I 1)]), (64001, [(I 4)]), (64064, [(I 3)])]
def Q602 : KC := ⟨190, [(C 64001 0 1 1), (C 64064 0 1 1)], 1002, 64128, B600, (.tuple ⟨[(C 64128 0 1 1), (C 64192 0 1 1)]⟩), 1004, B601, [], []⟩
def B603 : List (Nat × List Value) := [(64000, [(I 3)])]
def B604 : List (Nat × List Value) := [(64064, [(I 3)]), (64000, [(I 3)])]
def Q605 : KC := ⟨205, [(C 64000 0 1 1), (I 1)], 1001, 64064, B603, (.tuple ⟨[(C 64064 0 1 1), (I 0)]⟩), 1002, B604, [], []⟩
def B606 : List (Nat × List Value) := [(64000, [(I 3)]), (64064, [(I 1)])]
def B607 : List (Nat × List Value) := [(64192, [(I 0)]), (64128, [(I 3)]), (64000, [(I 3)]), (64064, [(I 1)])]
def Q608 : KC := ⟨190, [(C 64000 0 1 1), (C 64064 0 1 1)], 1002, 64128, B606, (.tuple ⟨[(C 64128 0 1 1), (C 64192 0 0 1)]⟩), 1004, B607, [], []⟩
def B609 : List (Nat × List Value) := [(64001, [(I 3)]), (64065, [(I 4)])]
def B610 : List (Nat × List Value) := [(64512, [(I 1)]), (64065, [(I 4)]), (64001, [(I 3)])]
def Q611 : KC := ⟨158, [(A [(.bool false), (C 64001 0 1 1)]), (A [(.bool false), (C 64065 0 1 1)])], 1002, 64128, B609, (A [(.bool false), (C 64512 0 1 1)]), 1011, B610, [], []⟩
def B612 : List (Nat × List Value) := [(64001, [(I 3)])]
def B613 : List (Nat × List Value) := [(64064, [(I 3)]), (64001, [(I 3)])]
def Q614 : KC := ⟨205, [(C 64001 0 1 1), (I 1)], 1001, 64064, B612, (.tuple ⟨[(C 64064 0 1 1), (I 0)]⟩), 1002, B613, [], []⟩
def B615 : List (Nat × List Value) := [(64001, [(I 3)]), (64064, [(I 1)])]
def B616 : List (Nat × List Value) := [(64192, [(I 0)]), (64128, [(I 3)]), (64001, [(I 3)]), (64064, [(I 1)])]
def Q617 : KC := ⟨190, [(C 64001 0 1 1), (C 64064 0 1 1)], 1002, 64128, B615, (.tuple ⟨[(C 64128 0 1 1), (C 64192 0 0 1)]⟩), 1004, B616, [], []⟩
def B618 : List (Nat × List Value) := [(64001, [(I 3)]), (64064, [(I 1)])]
def B619 : List (Nat × List Value) := [(64448, [(I 0)]), (64384, [(I 3)]), (64001, [(I 3)]), (64064, [(I 1)])]
def Q620 : KC := ⟨159, [(A [(.bool false), (C 64001 0 1 1)]), (A [(.bool false), (C 64064 0 1 1)])], 1002, 64128, B618, (.tuple ⟨[(A [(.bool false), (C 64384 0 1 1)]), (A [(.bool false), (C 64448 0 0 1)])]⟩), 1012, B619, [], []⟩
def B621 : List (Nat × List Value) := [(64000, [(I 3)])]
def B622 : List (Nat × List Value) := [(64064, [(.bool false), (C 64000 0 1 1)]), (64000, [(I 3)])]
def Q623 : KC := ⟨156, [(A [(.bool false), (C 64000 0 1 1)])], 1001, 64064, B621, (S [51]), 1003, B622, [], []⟩
def B624 : List (Nat × List Value) := [(64000, [(I 3)]), (64064, [(I 4)])]
def B625 : List (Nat × List Value) := [(64064, [(I 4)]), (64000, [(I 3)])]
def Q626 : KC := ⟨67, [(A [(.bool false), (C 64000 0 1 1), (.bool false), (C 64064 0 1 1)])], 1002, 64128, B624, (.tuple ⟨[(A [(S [51]), (S [52])]), (I 0)]⟩), 1010, B625, [], []⟩
def L23 : List (Sum (FuncId × List Value × Value) KC) := [.inr Q587,
  .inr Q590,
  .inr Q593,
  .inr Q596,
  .inr Q599,
  .inr Q602,
  .inr Q605,
  .inr Q608,
  .inr Q611,
  .inr Q614,
  .inr Q617,
  .inr Q620,
  .inr Q623,
  .inr Q626]
def T23 : Tab := pushT T22 L23
def B627 : List (Nat × List Value) := [(64000, [(I 500000), (I 1000000), (I 0), (I 1), (I 1), (I 0), (I 1000000), (I 2000000), (.int .i64 (.negSucc 999999)), (I 2), (I 1), (I 500000)])]
def B628 : List (Nat × List Value) := [(64128, [(I 1000000), (I 2000000), (.int .i64 (.negSucc 999999)), (I 2), (I 1), (I 500000)]), (64064, [(I 500000), (I 1000000), (I 0), (I 1), (I 1), (I 0)]), (64000, [(I 500000), (I 1000000), (I 0), (I 1), (I 1), (I 0), (I 1000000), (I 2000000), (.int .i64 (.negSucc 999999)), (I 2), (I 1), (I 500000)])]
def Q629 : KC := ⟨33, [(C 64000 0 2 2)], 1001, 64064, B627, (.bool true), 1003, B628, [], []⟩
def B630 : List (Nat × List Value) := [(64000, [(S [51]), (S [52]), (S [48]), (S [49]), (S [49]), (S [49])])]
def B631 : List (Nat × List Value) := [(64000, [(S [51]), (S [52]), (S [48]), (S [49]), (S [49]), (S [49])])]
def Q632 : KC := ⟨49, [(C 64000 0 3 3)], 1001, 64064, B630, (I 0), 1010, B631, [], []⟩
def B633 : List (Nat × List Value) := [(64000, [(U 0), (U 0), (U 0), (U 0), (U 0), (U 0), (U 0), (U 0), (U 0), (U 0), (U 0), (U 0), (U 0), (U 0), (U 0), (U 0), (U 0), (U 0), (U 0), (U 0), (U 0), (U 0), (U 0), (U 0)])]
def B634 : List (Nat × List Value) := [(64000, [(U 0), (U 50), (U 48), (U 48), (U 48), (U 48), (U 48), (U 48), (U 0), (U 0), (U 0), (U 0), (U 0), (U 0), (U 0), (U 0), (U 0), (U 0), (U 0), (U 0), (U 0), (U 0), (U 0), (U 0)])]
def Q635 : KC := ⟨216, [(C 64000 1 7 23), (.int .u64 (.ofNat 2000000))], 1001, 64000, B633, (.tuple ⟨[]⟩), 1001, B634, [], []⟩
def L24 : List (Sum (FuncId × List Value × Value) KC) := [.inl (34, [(I 3), (I 4)], (.tuple ⟨[(A [(S [51]), (S [52])]), (I 0)]⟩)),
  .inl (66, [(A [(I 500000), (I 1000000), (I 0), (I 1), (I 1), (I 0)])], (.bool true)),
  .inl (66, [(A [(I 1000000), (I 2000000), (.int .i64 (.negSucc 999999)), (I 2), (I 1), (I 500000)])], (.bool true)),
  .inr Q629,
  .inr Q632,
  .inl (91, [(A [(I 3), (I 4)]), (A [(I 0), (I 1)])], (.tuple ⟨[(I 1), (.bool true)]⟩)),
  .inl (50, [(A [(S [51]), (S [52])]), (A [(S [48]), (S [49])])], (.tuple ⟨[(I 1), (I 0)]⟩)),
  .inl (91, [(A [(I 3), (I 4)]), (A [(I 1), (I 1)])], (.tuple ⟨[(.int .i64 (.negSucc 0)), (.bool true)]⟩)),
  .inl (50, [(A [(S [51]), (S [52])]), (A [(S [49]), (S [49])])], (.tuple ⟨[(.int .i64 (.negSucc 0)), (I 0)]⟩)),
  .inl (21, [(A [(S [51]), (S [52])]), (A [(S [48]), (S [49])]), (A [(S [49]), (S [49])])], (.tuple ⟨[(A [(S [51]), (S [52])]), (I 0)]⟩)),
  .inl (110, [(.int .u64 (.ofNat 500000)), (.int .u64 (.ofNat 1000000))], (.int .u64 (.ofNat 500000))),
  .inl (94, [(I 500000), (I 1000000)], (.tuple ⟨[(A [(S [49]), (S [50])]), (.bool true)]⟩)),
  .inl (143, [(.int .u64 (.ofNat 3)), (.int .u64 (.ofNat 2))], (.tuple ⟨[(.int .u64 (.ofNat 0)), (.int .u64 (.ofNat 6))]⟩)),
  .inl (91, [(A [(I 3), (I 4)]), (A [(I 1), (I 2)])], (.tuple ⟨[(I 1), (.bool true)]⟩)),
  .inl (50, [(A [(S [51]), (S [52])]), (A [(S [49]), (S [50])])], (.tuple ⟨[(I 1), (I 0)]⟩)),
  .inl (110, [(.int .u64 (.ofNat 2000000)), (.int .u64 (.ofNat 1))], (.int .u64 (.ofNat 1))),
  .inl (215, [(.int .u64 (.ofNat 2000000))], (I 7)),
  .inr Q635,
  .inl (164, [(I 2000000)], (S [50, 48, 48, 48, 48, 48, 48])),
  .inl (113, [(A [(I 2000000), (I 1)])], (A [(S [50, 48, 48, 48, 48, 48, 48]), (S [49])])),
  .inl (94, [(I 2000000), (I 1)], (.tuple ⟨[(A [(S [50, 48, 48, 48, 48, 48, 48]), (S [49])]), (.bool true)]⟩)),
  .inl (161, [(S [50, 48, 48, 48, 48, 48, 48])], (.tuple ⟨[(I 2000000), (.bool true)]⟩)),
  .inl (108, [(A [(S [50, 48, 48, 48, 48, 48, 48]), (S [49])])], (.tuple ⟨[(A [(I 2000000), (I 1)]), (.bool true)]⟩))]
def T24 : Tab := pushT T23 L24
def B636 : List (Nat × List Value) := [(64000, [(U 0), (U 0), (U 0), (U 0), (U 0), (U 0), (U 0), (U 0), (U 0), (U 0), (U 0), (U 0), (U 0), (U 0), (U 0), (U 0), (U 0), (U 0), (U 0), (U 0), (U 0), (U 0), (U 0), (U 0)])]
def B637 : List (Nat × List Value) := [(64000, [(U 0), (U 49), (U 53), (U 48), (U 48), (U 48), (U 48), (U 48), (U 0), (U 0), (U 0), (U 0), (U 0), (U 0), (U 0), (U 0), (U 0), (U 0), (U 0), (U 0), (U 0), (U 0), (U 0), (U 0)])]
def Q638 : KC := ⟨216, [(C 64000 1 7 23), (.int .u64 (.ofNat 1500000))], 1001, 64000, B636, (.tuple ⟨[]⟩), 1001, B637, [], []⟩
def B639 : List (Nat × List Value) := [(64000, [(.func (.func 72) ⟨[]⟩ ⟨[]⟩)])]
def B640 : List (Nat × List Value) := [(64000, [(.func (.func 72) ⟨[]⟩ ⟨[]⟩)])]
def Q641 : KC := ⟨69, [(A [(S [50, 48, 48, 48, 48, 48, 48]), (S [49])]), (A [(S [51]), (S [52])]), (.func (.func 70) ⟨[]⟩ ⟨[]⟩), (.func (.func 114) ⟨[]⟩ ⟨[(Z 64000 0)]⟩)], 1001, 64064, B639, (.tuple ⟨[(A [(S [49, 53, 48, 48, 48, 48, 48]), (S [49])]), (I 0)]⟩), 1008, B640, [], []⟩
def L25 : List (Sum (FuncId × List Value × Value) KC) := [.inl (110, [(.int .u64 (.ofNat 2000000)), (.int .u64 (.ofNat 4))], (.int .u64 (.ofNat 4))),
  .inl (143, [(.int .u64 (.ofNat 500000)), (.int .u64 (.ofNat 3))], (.tuple ⟨[(.int .u64 (.ofNat 0)), (.int .u64 (.ofNat 1500000))]⟩)),
  .inl (112, [(I 500000), (I 3)], (.tuple ⟨[(I 1500000), (.bool true)]⟩)),
  .inl (215, [(.int .u64 (.ofNat 1500000))], (I 7)),
  .inr Q638,
  .inl (164, [(I 1500000)], (S [49, 53, 48, 48, 48, 48, 48])),
  .inl (113, [(A [(I 1500000), (I 1)])], (A [(S [49, 53, 48, 48, 48, 48, 48]), (S [49])])),
  .inl (70, [(A [(I 2000000), (I 1)]), (A [(I 3), (I 4)])], (.tuple ⟨[(A [(S [49, 53, 48, 48, 48, 48, 48]), (S [49])]), (.bool true)]⟩)),
  .inr Q641,
  .inl (164, [(.int .i64 (.negSucc 999999))], (S [45, 49, 48, 48, 48, 48, 48, 48])),
  .inl (113, [(A [(.int .i64 (.negSucc 999999)), (I 1)])], (A [(S [45, 49, 48, 48, 48, 48, 48, 48]), (S [49])])),
  .inl (94, [(.int .i64 (.negSucc 999999)), (I 1)], (.tuple ⟨[(A [(S [45, 49, 48, 48, 48, 48, 48, 48]), (S [49])]), (.bool true)]⟩)),
  .inl (161, [(S [49, 53, 48, 48, 48, 48, 48])], (.tuple ⟨[(I 1500000), (.bool true)]⟩)),
  .inl (110, [(.int .u64 (.ofNat 1500000)), (.int .u64 (.ofNat 1))], (.int .u64 (.ofNat 1))),
  .inl (108, [(A [(S [49, 53, 48, 48, 48, 48, 48]), (S [49])])], (.tuple ⟨[(A [(I 1500000), (I 1)]), (.bool true)]⟩)),
  .inl (161, [(S [45, 49, 48, 48, 48, 48, 48, 48])], (.tuple ⟨[(.int .i64 (.negSucc 999999)), (.bool true)]⟩)),
  .inl (108, [(A [(S [45, 49, 48, 48, 48, 48, 48, 48]), (S [49])])], (.tuple ⟨[(A [(.int .i64 (.negSucc 999999)), (I 1)]), (.bool true)]⟩)),
  .inl (143, [(.int .u64 (.ofNat 1500000)), (.int .u64 (.ofNat 1))], (.tuple ⟨[(.int .u64 (.ofNat 0)), (.int .u64 (.ofNat 1500000))]⟩)),
  .inl (112, [(I 1500000), (I 1)], (.tuple ⟨[(I 1500000), (.bool true)]⟩)),
  .inl (143, [(.int .u64 (.ofNat 1000000)), (.int .u64 (.ofNat 1))], (.tuple ⟨[(.int .u64 (.ofNat 0)), (.int .u64 (.ofNat 1000000))]⟩)),
  .inl (112, [(.int .i64 (.negSucc 999999)), (I 1)], (.tuple ⟨[(.int .i64 (.negSucc 999999)), (.bool true)]⟩))]
def T25 : Tab := pushT T24 L25
def B642 : List (Nat × List Value) := [(64000, [(U 0), (U 0), (U 0), (U 0), (U 0), (U 0), (U 0), (U 0), (U 0), (U 0), (U 0), (U 0), (U 0), (U 0), (U 0), (U 0), (U 0), (U 0), (U 0), (U 0), (U 0), (U 0), (U 0), (U 0)])]
def B643 : List (Nat × List Value) := [(64000, [(U 0), (U 53), (U 48), (U 48), (U 48), (U 48), (U 48), (U 0), (U 0), (U 0), (U 0), (U 0), (U 0), (U 0), (U 0), (U 0), (U 0), (U 0), (U 0), (U 0), (U 0), (U 0), (U 0), (U 0)])]
def Q644 : KC := ⟨216, [(C 64000 1 6 23), (.int .u64 (.ofNat 500000))], 1001, 64000, B642, (.tuple ⟨[]⟩), 1001, B643, [], []⟩
def B645 : List (Nat × List Value) := [(64000, [(.func (.func 80) ⟨[]⟩ ⟨[]⟩)])]
def B646 : List (Nat × List Value) := [(64000, [(.func (.func 80) ⟨[]⟩ ⟨[]⟩)])]
def Q647 : KC := ⟨69, [(A [(S [49, 53, 48, 48, 48, 48, 48]), (S [49])]), (A [(S [45, 49, 48, 48, 48, 48, 48, 48]), (S [49])]), (.func (.func 79) ⟨[]⟩ ⟨[]⟩), (.func (.func 114) ⟨[]⟩ ⟨[(Z 64000 0)]⟩)], 1001, 64064, B645, (.tuple ⟨[(A [(S [53, 48, 48, 48, 48, 48]), (S [49])]), (I 0)]⟩), 1008, B646, [], []⟩
def B648 : List (Nat × List Value) := [(64000, [(S [53, 48, 48, 48, 48, 48]), (S [49]), (S [49, 48, 48, 48, 48, 48, 48]), (S [49])])]
def B649 : List (Nat × List Value) := [(64256, [(S [49, 48, 48, 48, 48, 48, 48]), (S [49])]), (64064, [(S [53, 48, 48, 48, 48, 48]), (S [49])]), (64000, [(S [53, 48, 48, 48, 48, 48]), (S [49]), (S [49, 48, 48, 48, 48, 48, 48]), (S [49])])]
def Q650 : KC := ⟨49, [(C 64000 0 2 2)], 1001, 64064, B648, (I 0), 1007, B649, [], []⟩
def B651 : List (Nat × List Value) := [(64000, [(.func (.func 82) ⟨[]⟩ ⟨[]⟩)])]
def B652 : List (Nat × List Value) := [(64000, [(.func (.func 82) ⟨[]⟩ ⟨[]⟩)])]
def Q653 : KC := ⟨69, [(A [(S [53, 48, 48, 48, 48, 48]), (S [49])]), (A [(S [49, 48, 48, 48, 48, 48, 48]), (S [49])]), (.func (.func 81) ⟨[]⟩ ⟨[]⟩), (.func (.func 114) ⟨[]⟩ ⟨[(Z 64000 0)]⟩)], 1001, 64064, B651, (.tuple ⟨[(A [(S [49]), (S [50])]), (I 0)]⟩), 1011, B652, [], []⟩
def B654 : List (Nat × List Value) := [(64000, [(.int .u64 (.ofNat 2))])]
def B655 : List (Nat × List Value) := [(64064, [(.int .u64 (.ofNat 2))]), (64000, [(.int .u64 (.ofNat 2))])]
def Q656 : KC := ⟨175, [(C 64000 0 1 1), (.int .u64 (.ofNat 1))], 1001, 64064, B654, (.tuple ⟨[(C 64064 0 1 1), (.int .u64 (.ofNat 0))]⟩), 1002, B655, [], []⟩
def B657 : List (Nat × List Value) := [(64000, [(.int .u64 (.ofNat 1))]), (64064, [(.int .u64 (.ofNat 2))])]
def B658 : List (Nat × List Value) := [(64192, [(.int .u64 (.ofNat 1)), (.int .u64 (.ofNat 0))]), (64128, [(.int .u64 (.ofNat 2))]), (64064, [(.int .u64 (.ofNat 2))]), (64000, [(.int .u64 (.ofNat 1))])]
def Q659 : KC := ⟨133, [(C 64000 0 1 1), (C 64064 0 1 1)], 1002, 64128, B657, (C 64192 0 1 1), 1004, B658, [], []⟩
def L26 : List (Sum (FuncId × List Value × Value) KC) := [.inl (110, [(.int .u64 (.ofNat 500000)), (.int .u64 (.ofNat 1))], (.int .u64 (.ofNat 1))),
  .inl (215, [(.int .u64 (.ofNat 500000))], (I 6)),
  .inr Q644,
  .inl (164, [(I 500000)], (S [53, 48, 48, 48, 48, 48])),
  .inl (113, [(A [(I 500000), (I 1)])], (A [(S [53, 48, 48, 48, 48, 48]), (S [49])])),
  .inl (79, [(A [(I 1500000), (I 1)]), (A [(.int .i64 (.negSucc 999999)), (I 1)])], (.tuple ⟨[(A [(S [53, 48, 48, 48, 48, 48]), (S [49])]), (.bool true)]⟩)),
  .inr Q647,
  .inl (161, [(S [53, 48, 48, 48, 48, 48])], (.tuple ⟨[(I 500000), (.bool true)]⟩)),
  .inl (108, [(A [(S [53, 48, 48, 48, 48, 48]), (S [49])])], (.tuple ⟨[(A [(I 500000), (I 1)]), (.bool true)]⟩)),
  .inr Q650,
  .inl (70, [(A [(I 500000), (I 1)]), (A [(I 1), (I 1000000)])], (.tuple ⟨[(A [(S [49]), (S [50])]), (.bool true)]⟩)),
  .inr Q653,
  .inl (46, [(A [(I 1000000), (I 2000000), (.int .i64 (.negSucc 999999)), (I 2), (I 1), (I 500000), (I 500000), (.bool false)]), (A [(S [51]), (S [52])])], (A [(S [49]), (S [50])])),
  .inl (91, [(A [(I 1), (I 2)]), (A [(I 0), (I 1)])], (.tuple ⟨[(I 1), (.bool true)]⟩)),
  .inl (50, [(A [(S [49]), (S [50])]), (A [(S [48]), (S [49])])], (.tuple ⟨[(I 1), (I 0)]⟩)),
  .inr Q656,
  .inr Q659]
def T26 : Tab := pushT T25 L26
def B660 : List (Nat × List Value) := [(64000, [(.int .u64 (.ofNat 1))])]
def B661 : List (Nat × List Value) := [(64064, [(.int .u64 (.ofNat 1)), (.int .u64 (.ofNat 0))]), (64000, [(.int .u64 (.ofNat 1))])]
def Q662 : KC := ⟨116, [(C 64000 0 1 1), (C 64000 0 1 1)], 1001, 64064, B660, (C 64064 0 1 1), 1002, B661, [], []⟩
def B663 : List (Nat × List Value) := [(64000, [(.int .u64 (.ofNat 1)), (.int .u64 (.ofNat 0))]), (64064, [(.int .u64 (.ofNat 1)), (.int .u64 (.ofNat 0))])]
def B664 : List (Nat × List Value) := [(64128, [(.int .u64 (.ofNat 1)), (.int .u64 (.ofNat 0))]), (64000, [(.int .u64 (.ofNat 1)), (.int .u64 (.ofNat 0))]), (64064, [(.int .u64 (.ofNat 1)), (.int .u64 (.ofNat 0))])]
def Q665 : KC := ⟨116, [(C 64000 0 1 1), (C 64064 0 1 1)], 1002, 64128, B663, (C 64128 0 1 1), 1003, B664, [], []⟩
def B666 : List (Nat × List Value) := [(64000, [(.int .u64 (.ofNat 1))])]
def B667 : List (Nat × List Value) := [(64192, [(.int .u64 (.ofNat 1)), (.int .u64 (.ofNat 0))]), (64064, [(.int .u64 (.ofNat 1)), (.int .u64 (.ofNat 0))]), (64128, [(.int .u64 (.ofNat 1)), (.int .u64 (.ofNat 0))]), (64000, [(.int .u64 (.ofNat 1))])]
def Q668 : KC := ⟨141, [(C 64000 0 1 1), (I 2)], 1001, 64064, B666, (C 64192 0 1 1), 1004, B667, [], []⟩
def B669 : List (Nat × List Value) := [(64000, [(.int .u64 (.ofNat 2))])]
def B670 : List (Nat × List Value) := [(64064, [(.int .u64 (.ofNat 4)), (.int .u64 (.ofNat 0))]), (64000, [(.int .u64 (.ofNat 2))])]
def Q671 : KC := ⟨116, [(C 64000 0 1 1), (C 64000 0 1 1)], 1001, 64064, B669, (C 64064 0 1 1), 1002, B670, [], []⟩
def B672 : List (Nat × List Value) := [(64000, [(.int .u64 (.ofNat 2))])]
def B673 : List (Nat × List Value) := [(64192, [(.int .u64 (.ofNat 4)), (.int .u64 (.ofNat 0))]), (64064, [(.int .u64 (.ofNat 1)), (.int .u64 (.ofNat 0))]), (64128, [(.int .u64 (.ofNat 4)), (.int .u64 (.ofNat 0))]), (64000, [(.int .u64 (.ofNat 2))])]
def Q674 : KC := ⟨141, [(C 64000 0 1 1), (I 2)], 1001, 64064, B672, (C 64192 0 1 1), 1004, B673, [], []⟩
def B675 : List (Nat × List Value) := [(64000, [(.int .u64 (.ofNat 1))]), (64064, [(.int .u64 (.ofNat 2))])]
def B676 : List (Nat × List Value) := [(64768, [(.int .u64 (.ofNat 4)), (.int .u64 (.ofNat 0))]), (64064, [(.int .u64 (.ofNat 2))]), (64512, [(.int .u64 (.ofNat 1)), (.int .u64 (.ofNat 0))]), (64000, [(.int .u64 (.ofNat 1))])]
def Q677 : KC := ⟨86, [(A [(C 64000 0 1 1), (.bool false), (C 64064 0 1 1)]), (I 2)], 1002, 64128, B675, (A [(C 64512 0 1 1), (.bool false), (C 64768 0 1 1)]), 1013, B676, [], []⟩
def B678 : List (Nat × List Value) := [(64000, [(.int .u64 (.ofNat 4)), (.int .u64 (.ofNat 0))])]
def B679 : List (Nat × List Value) := [(64256, [(I 1)]), (64128, [(U 0), (U 52)]), (64192, [(C 64128 0 2 2)]), (64000, [(.int .u64 (.ofNat 4)), (.int .u64 (.ofNat 0))]), (64064, [(C 64000 0 1 1), (.bool false)])]
def Q680 : KC := ⟨129, [(A [(C 64000 0 1 1), (.bool false)])], 1001, 64064, B678, (S [52]), 1005, B679, [], []⟩
def B681 : List (Nat × List Value) := [(64000, [(.int .u64 (.ofNat 1)), (.int .u64 (.ofNat 0))]), (64064, [(.int .u64 (.ofNat 4)), (.int .u64 (.ofNat 0))])]
def B682 : List (Nat × List Value) := [(64064, [(.int .u64 (.ofNat 4)), (.int .u64 (.ofNat 0))]), (64000, [(.int .u64 (.ofNat 1)), (.int .u64 (.ofNat 0))])]
def Q683 : KC := ⟨87, [(A [(C 64000 0 1 1), (.bool false), (C 64064 0 1 1)])], 1002, 64128, B681, (.tuple ⟨[(A [(S [49]), (S [52])]), (I 0)]⟩), 1013, B682, [], []⟩
def B684 : List (Nat × List Value) := [(64000, [(I 2)])]
def B685 : List (Nat × List Value) := [(64000, [(I 2)])]
def Q686 : KC := ⟨84, [(A [(S [49]), (S [50])]), (.func (.func 85) ⟨[]⟩ ⟨[(Z 64000 0)]⟩)], 1001, 64064, B684, (.tuple ⟨[(A [(S [49]), (S [52])]), (I 0)]⟩), 1043, B685, [], []⟩
def B687 : List (Nat × List Value) := [(64000, [(.func (.func 80) ⟨[]⟩ ⟨[]⟩)])]
def B688 : List (Nat × List Value) := [(64000, [(.func (.func 80) ⟨[]⟩ ⟨[]⟩)])]
def Q689 : KC := ⟨69, [(A [(S [49]), (S [52])]), (A [(S [49]), (S [50])]), (.func (.func 79) ⟨[]⟩ ⟨[]⟩), (.func (.func 114) ⟨[]⟩ ⟨[(Z 64000 0)]⟩)], 1001, 64064, B687, (.tuple ⟨[(A [(S [51]), (S [52])]), (I 0)]⟩), 1008, B688, [], []⟩
def L27 : List (Sum (FuncId × List Value × Value) KC) := [.inr Q662,
  .inr Q665,
  .inr Q668,
  .inr Q671,
  .inr Q674,
  .inr Q677,
  .inr Q680,
  .inr Q683,
  .inr Q686,
  .inl (110, [(.int .u64 (.ofNat 4)), (.int .u64 (.ofNat 2))], (.int .u64 (.ofNat 2))),
  .inl (79, [(A [(I 1), (I 4)]), (A [(I 1), (I 2)])], (.tuple ⟨[(A [(S [51]), (S [52])]), (.bool true)]⟩)),
  .inr Q689]
def T27 : Tab := pushT T26 L27
def B690 : List (Nat × List Value) := [(64000, [(I 500000), (I 1000000), (I 0), (I 1), (I 1), (I 0), (I 1000000), (I 2000000), (.int .i64 (.negSucc 999999)), (I 2), (I 1), (I 500000)])]
def B691 : List (Nat × List Value) := [(64000, [(I 500000), (I 1000000), (I 0), (I 1), (I 1), (I 0), (I 1000000), (I 2000000), (.int .i64 (.negSucc 999999)), (I 2), (I 1), (I 500000)])]
def Q692 : KC := ⟨17, [(A [(I 3), (.slice none 0 0), (C 64000 0 2 2)]), (A [(S [51]), (S [52])])], 1001, 64064, B690, (A [(S [51]), (S [52])]), 1117, B691, [], []⟩
def B693 : List (Nat × List Value) := [(64000, [(I 500000), (I 1000000), (I 0), (I 1), (I 1), (I 0), (I 1000000), (I 2000000), (.int .i64 (.negSucc 999999)), (I 2), (I 1), (I 500000)])]
def B694 : List (Nat × List Value) := [(64000, [(I 500000), (I 1000000), (I 0), (I 1), (I 1), (I 0), (I 1000000), (I 2000000), (.int .i64 (.negSucc 999999)), (I 2), (I 1), (I 500000)])]
def Q695 : KC := ⟨5, [(A [(I 3), (.slice none 0 0), (C 64000 0 2 2)]), (A [(S [51]), (S [52])])], 1001, 64064, B693, (.tuple ⟨[(A [(S [51]), (S [52])]), (I 0)]⟩), 1139, B694, [], []⟩
def B696 : List (Nat × List Value) := [(64000, [(S [49]), (S [50]), (S [48]), (S [49]), (S [49]), (S [49])])]
def B697 : List (Nat × List Value) := [(64000, [(S [49]), (S [50]), (S [48]), (S [49]), (S [49]), (S [49])])]
def Q698 : KC := ⟨49, [(C 64000 0 3 3)], 1001, 64064, B696, (I 0), 1010, B697, [], []⟩
def B699 : List (Nat × List Value) := [(64000, [(.func (.func 72) ⟨[]⟩ ⟨[]⟩)])]
def B700 : List (Nat × List Value) := [(64000, [(.func (.func 72) ⟨[]⟩ ⟨[]⟩)])]
def Q701 : KC := ⟨69, [(A [(S [49, 48, 48, 48, 48, 48, 48]), (S [49])]), (A [(S [49]), (S [50])]), (.func (.func 70) ⟨[]⟩ ⟨[]⟩), (.func (.func 114) ⟨[]⟩ ⟨[(Z 64000 0)]⟩)], 1001, 64064, B699, (.tuple ⟨[(A [(S [53, 48, 48, 48, 48, 48]), (S [49])]), (I 0)]⟩), 1008, B700, [], []⟩
def B702 : List (Nat × List Value) := [(64000, [(.func (.func 80) ⟨[]⟩ ⟨[]⟩)])]
def B703 : List (Nat × List Value) := [(64000, [(.func (.func 80) ⟨[]⟩ ⟨[]⟩)])]
def Q704 : KC := ⟨69, [(A [(S [53, 48, 48, 48, 48, 48]), (S [49])]), (A [(S [48]), (S [49])]), (.func (.func 79) ⟨[]⟩ ⟨[]⟩), (.func (.func 114) ⟨[]⟩ ⟨[(Z 64000 0)]⟩)], 1001, 64064, B702, (.tuple ⟨[(A [(S [53, 48, 48, 48, 48, 48]), (S [49])]), (I 0)]⟩), 1008, B703, [], []⟩
def L28 : List (Sum (FuncId × List Value × Value) KC) := [.inr Q692,
  .inr Q695,
  .inr Q698,
  .inl (91, [(A [(I 1), (I 2)]), (A [(I 1), (I 1)])], (.tuple ⟨[(.int .i64 (.negSucc 0)), (.bool true)]⟩)),
  .inl (50, [(A [(S [49]), (S [50])]), (A [(S [49]), (S [49])])], (.tuple ⟨[(.int .i64 (.negSucc 0)), (I 0)]⟩)),
  .inl (21, [(A [(S [49]), (S [50])]), (A [(S [48]), (S [49])]), (A [(S [49]), (S [49])])], (.tuple ⟨[(A [(S [49]), (S [50])]), (I 0)]⟩)),
  .inl (110, [(.int .u64 (.ofNat 1000000)), (.int .u64 (.ofNat 2))], (.int .u64 (.ofNat 2))),
  .inl (70, [(A [(I 1000000), (I 1)]), (A [(I 1), (I 2)])], (.tuple ⟨[(A [(S [53, 48, 48, 48, 48, 48]), (S [49])]), (.bool true)]⟩)),
  .inr Q701,
  .inl (79, [(A [(I 500000), (I 1)]), (A [(I 0), (I 1)])], (.tuple ⟨[(A [(S [53, 48, 48, 48, 48, 48]), (S [49])]), (.bool true)]⟩)),
  .inr Q704]
def T28 : Tab := pushT T27 L28
def B705 : List (Nat × List Value) := [(64000, [(.int .u64 (.ofNat 1)), (.int .u64 (.ofNat 0))]), (64064, [(.int .u64 (.ofNat 1))])]
def B706 : List (Nat × List Value) := [(64128, [(.int .u64 (.ofNat 1)), (.int .u64 (.ofNat 0))]), (64000, [(.int .u64 (.ofNat 1)), (.int .u64 (.ofNat 0))]), (64064, [(.int .u64 (.ofNat 1))])]
def Q707 : KC := ⟨116, [(C 64000 0 1 1), (C 64064 0 1 1)], 1002, 64128, B705, (C 64128 0 1 1), 1003, B706, [], []⟩
def B708 : List (Nat × List Value) := [(64000, [(.int .u64 (.ofNat 1))])]
def B709 : List (Nat × List Value) := [(64128, [(.int .u64 (.ofNat 1)), (.int .u64 (.ofNat 0))]), (64064, [(.int .u64 (.ofNat 1)), (.int .u64 (.ofNat 0))]), (64000, [(.int .u64 (.ofNat 1))])]
def Q710 : KC := ⟨141, [(C 64000 0 1 1), (I 1)], 1001, 64064, B708, (C 64128 0 1 1), 1003, B709, [], []⟩
def B711 : List (Nat × List Value) := [(64000, [(.int .u64 (.ofNat 1)), (.int .u64 (.ofNat 0))]), (64064, [(.int .u64 (.ofNat 2))])]
def B712 : List (Nat × List Value) := [(64128, [(.int .u64 (.ofNat 2)), (.int .u64 (.ofNat 0))]), (64000, [(.int .u64 (.ofNat 1)), (.int .u64 (.ofNat 0))]), (64064, [(.int .u64 (.ofNat 2))])]
def Q713 : KC := ⟨116, [(C 64000 0 1 1), (C 64064 0 1 1)], 1002, 64128, B711, (C 64128 0 1 1), 1003, B712, [], []⟩
def B714 : List (Nat × List Value) := [(64000, [(.int .u64 (.ofNat 2))])]
def B715 : List (Nat × List Value) := [(64128, [(.int .u64 (.ofNat 2)), (.int .u64 (.ofNat 0))]), (64064, [(.int .u64 (.ofNat 1)), (.int .u64 (.ofNat 0))]), (64000, [(.int .u64 (.ofNat 2))])]
def Q716 : KC := ⟨141, [(C 64000 0 1 1), (I 1)], 1001, 64064, B714, (C 64128 0 1 1), 1003, B715, [], []⟩
def B717 : List (Nat × List Value) := [(64000, [(.int .u64 (.ofNat 1))]), (64064, [(.int .u64 (.ofNat 2))])]
def B718 : List (Nat × List Value) := [(64640, [(.int .u64 (.ofNat 2)), (.int .u64 (.ofNat 0))]), (64064, [(.int .u64 (.ofNat 2))]), (64448, [(.int .u64 (.ofNat 1)), (.int .u64 (.ofNat 0))]), (64000, [(.int .u64 (.ofNat 1))])]
def Q719 : KC := ⟨86, [(A [(C 64000 0 1 1), (.bool false), (C 64064 0 1 1)]), (I 1)], 1002, 64128, B717, (A [(C 64448 0 1 1), (.bool false), (C 64640 0 1 1)]), 1011, B718, [], []⟩
def B720 : List (Nat × List Value) := [(64000, [(.int .u64 (.ofNat 1)), (.int .u64 (.ofNat 0))]), (64064, [(.int .u64 (.ofNat 2)), (.int .u64 (.ofNat 0))])]
def B721 : List (Nat × List Value) := [(64064, [(.int .u64 (.ofNat 2)), (.int .u64 (.ofNat 0))]), (64000, [(.int .u64 (.ofNat 1)), (.int .u64 (.ofNat 0))])]
def Q722 : KC := ⟨87, [(A [(C 64000 0 1 1), (.bool false), (C 64064 0 1 1)])], 1002, 64128, B720, (.tuple ⟨[(A [(S [49]), (S [50])]), (I 0)]⟩), 1013, B721, [], []⟩
def B723 : List (Nat × List Value) := [(64000, [(I 1)])]
def B724 : List (Nat × List Value) := [(64000, [(I 1)])]
def Q725 : KC := ⟨84, [(A [(S [49]), (S [50])]), (.func (.func 85) ⟨[]⟩ ⟨[(Z 64000 0)]⟩)], 1001, 64064, B723, (.tuple ⟨[(A [(S [49]), (S [50])]), (I 0)]⟩), 1041, B724, [], []⟩
def L29 : List (Sum (FuncId × List Value × Value) KC) := [.inl (46, [(A [(I 500000), (I 1000000), (I 0), (I 1), (I 1), (I 0), (I 0), (.bool true)]), (A [(S [49]), (S [50])])], (A [(S [49]), (S [50])])),
  .inr Q707,
  .inr Q710,
  .inr Q713,
  .inr Q716,
  .inr Q719,
  .inr Q722,
  .inr Q725,
  .inl (38, [(A [(S [49]), (S [50])]), (A [(S [48]), (S [49])])], (.tuple ⟨[(A [(S [49]), (S [50])]), (I 0)]⟩))]
def T29 : Tab := pushT T28 L29
def B726 : List (Nat × List Value) := [(64000, [(I 500000), (I 1000000), (I 0), (I 1), (I 1), (I 0), (I 1000000), (I 2000000), (.int .i64 (.negSucc 999999)), (I 2), (I 1), (I 500000)])]
def B727 : List (Nat × List Value) := [(64000, [(I 500000), (I 1000000), (I 0), (I 1), (I 1), (I 0), (I 1000000), (I 2000000), (.int .i64 (.negSucc 999999)), (I 2), (I 1), (I 500000)])]
def Q728 : KC := ⟨17, [(A [(I 3), (.slice none 0 0), (C 64000 0 2 2)]), (A [(S [49]), (S [50])])], 1001, 64064, B726, (A [(S [49]), (S [50])]), 1095, B727, [], []⟩
def B729 : List (Nat × List Value) := [(64000, [(I 500000), (I 1000000), (I 0), (I 1), (I 1), (I 0), (I 1000000), (I 2000000), (.int .i64 (.negSucc 999999)), (I 2), (I 1), (I 500000)])]
def B730 : List (Nat × List Value) := [(64000, [(I 500000), (I 1000000), (I 0), (I 1), (I 1), (I 0), (I 1000000), (I 2000000), (.int .i64 (.negSucc 999999)), (I 2), (I 1), (I 500000)])]
def Q731 : KC := ⟨5, [(A [(I 3), (.slice none 0 0), (C 64000 0 2 2)]), (A [(S [49]), (S [50])])], 1001, 64064, B729, (.tuple ⟨[(A [(S [49]), (S [50])]), (I 0)]⟩), 1117, B730, [], []⟩
def B732 : List (Nat × List Value) := [(64000, [(I 999999), (I 0), (I 0), (I 1), (I 1), (I 0)])]
def B733 : List (Nat × List Value) := [(64128, [(I 999999), (I 0), (I 0), (I 1), (I 1), (I 0)]), (64000, [(I 999999), (I 0), (I 0), (I 1), (I 1), (I 0)]), (64064, [(I 3), (.slice none 0 0), (C 64000 0 1 1)])]
def Q734 : KC := ⟨8, [(A [(I 3), (.slice none 0 0), (C 64000 0 1 1)])], 1001, 64064, B732, (I 90), 1003, B733, [], []⟩
def B735 : List (Nat × List Value) := [(64000, [(I 1000000), (I 100000001), (I 0), (I 1), (I 1), (I 0)])]
def B736 : List (Nat × List Value) := [(64064, [(I 1000000), (I 100000001), (I 0), (I 1), (I 1), (I 0)]), (64000, [(I 1000000), (I 100000001), (I 0), (I 1), (I 1), (I 0)])]
def Q737 : KC := ⟨33, [(C 64000 0 1 1)], 1001, 64064, B735, (.bool false), 1003, B736, [], []⟩
def B738 : List (Nat × List Value) := [(64000, [(I 1000000), (I 100000001), (I 0), (I 1), (I 1), (I 0)])]
def B739 : List (Nat × List Value) := [(64000, [(I 1000000), (I 100000001), (I 0), (I 1), (I 1), (I 0)])]
def Q740 : KC := ⟨5, [(A [(I 3), (.slice none 0 0), (C 64000 0 1 1)]), (A [(S []), (S [])])], 1001, 64064, B738, (.tuple ⟨[(A [(S []), (S [])]), (I 90)]⟩), 1008, B739, [], []⟩
def B741 : List (Nat × List Value) := [(64000, [(I 1000000), (I 100000001), (I 0), (I 1), (I 1), (I 0)])]
def B742 : List (Nat × List Value) := [(64000, [(I 1000000), (I 100000001), (I 0), (I 1), (I 1), (I 0)])]
def Q743 : KC := ⟨6, [(A [(I 3), (.slice none 0 0), (C 64000 0 1 1)]), (A [(I 1), (I 0)])], 1001, 64064, B741, (.tuple ⟨[(A [(I 0), (I 0)]), (I 90)]⟩), 1008, B742, [], []⟩
def B744 : List (Nat × List Value) := [(64000, [(I 1000000), (I 0), (.int .i64 (.negSucc 100000000)), (I 1), (I 1), (I 0)])]
def B745 : List (Nat × List Value) := [(64064, [(I 1000000), (I 0), (.int .i64 (.negSucc 100000000)), (I 1), (I 1), (I 0)]), (64000, [(I 1000000), (I 0), (.int .i64 (.negSucc 100000000)), (I 1), (I 1), (I 0)])]
def Q746 : KC := ⟨33, [(C 64000 0 1 1)], 1001, 64064, B744, (.bool false), 1003, B745, [], []⟩
def B747 : List (Nat × List Value) := [(64000, [(I 1000000), (I 0), (.int .i64 (.negSucc 100000000)), (I 1), (I 1), (I 0)])]
def B748 : List (Nat × List Value) := [(64000, [(I 1000000), (I 0), (.int .i64 (.negSucc 100000000)), (I 1), (I 1), (I 0)])]
def Q749 : KC := ⟨5, [(A [(I 3), (.slice none 0 0), (C 64000 0 1 1)]), (A [(S []), (S [])])], 1001, 64064, B747, (.tuple ⟨[(A [(S []), (S [])]), (I 90)]⟩), 1008, B748, [], []⟩
def B750 : List (Nat × List Value) := [(64000, [(I 1000000), (I 0), (.int .i64 (.negSucc 100000000)), (I 1), (I 1), (I 0)])]
def B751 : List (Nat × List Value) := [(64000, [(I 1000000), (I 0), (.int .i64 (.negSucc 100000000)), (I 1), (I 1), (I 0)])]
def Q752 : KC := ⟨6, [(A [(I 3), (.slice none 0 0), (C 64000 0 1 1)]), (A [(I 1), (I 0)])], 1001, 64064, B750, (.tuple ⟨[(A [(I 0), (I 0)]), (I 90)]⟩), 1008, B751, [], []⟩
def B753 : List (Nat × List Value) := [(64000, [(I 1000000), (I 0), (I 0), (I 1), (I 1), (I 100000001)])]
def B754 : List (Nat × List Value) := [(64128, [(I 1000000), (I 0), (I 0), (I 1), (I 1), (I 100000001)]), (64000, [(I 1000000), (I 0), (I 0), (I 1), (I 1), (I 100000001)]), (64064, [(I 3), (.slice none 0 0), (C 64000 0 1 1)])]
def Q755 : KC := ⟨8, [(A [(I 3), (.slice none 0 0), (C 64000 0 1 1)])], 1001, 64064, B753, (I 90), 1003, B754, [], []⟩
def B756 : List (Nat × List Value) := [(64000, [(I 1000000), (I 0), (I 0), (I 0), (I 1), (I 0)])]
def B757 : List (Nat × List Value) := [(64128, [(I 1000000), (I 0), (I 0), (I 0), (I 1), (I 0)]), (64000, [(I 1000000), (I 0), (I 0), (I 0), (I 1), (I 0)]), (64064, [(I 3), (.slice none 0 0), (C 64000 0 1 1)])]
def Q758 : KC := ⟨8, [(A [(I 3), (.slice none 0 0), (C 64000 0 1 1)])], 1001, 64064, B756, (I 90), 1003, B757, [], []⟩
def B759 : List (Nat × List Value) := [(64000, [(I 1000000), (I 0), (I 0), (I 37), (I 1), (I 0)])]
def B760 : List (Nat × List Value) := [(64128, [(I 1000000), (I 0), (I 0), (I 37), (I 1), (I 0)]), (64000, [(I 1000000), (I 0), (I 0), (I 37), (I 1), (I 0)]), (64064, [(I 3), (.slice none 0 0), (C 64000 0 1 1)])]
def Q761 : KC := ⟨8, [(A [(I 3), (.slice none 0 0), (C 64000 0 1 1)])], 1001, 64064, B759, (I 90), 1003, B760, [], []⟩
def B762 : List (Nat × List Value) := [(64000, [(I 1000000), (I 0), (I 0), (I 1), (I 0), (I 0)])]
def B763 : List (Nat × List Value) := [(64128, [(I 1000000), (I 0), (I 0), (I 1), (I 0), (I 0)]), (64000, [(I 1000000), (I 0), (I 0), (I 1), (I 0), (I 0)]), (64064, [(I 3), (.slice none 0 0), (C 64000 0 1 1)])]
def Q764 : KC := ⟨8, [(A [(I 3), (.slice none 0 0), (C 64000 0 1 1)])], 1001, 64064, B762, (I 90), 1003, B763, [], []⟩
def B765 : List (Nat × List Value) := [(64000, [(I 1000000), (I 0), (I 0), (I 1), (I 13), (I 0)])]
def B766 : List (Nat × List Value) := [(64128, [(I 1000000), (I 0), (I 0), (I 1), (I 13), (I 0)]), (64000, [(I 1000000), (I 0), (I 0), (I 1), (I 13), (I 0)]), (64064, [(I 3), (.slice none 0 0), (C 64000 0 1 1)])]
def Q767 : KC := ⟨8, [(A [(I 3), (.slice none 0 0), (C 64000 0 1 1)])], 1001, 64064, B765, (I 90), 1003, B766, [], []⟩
def L30 : List (Sum (FuncId × List Value × Value) KC) := [.inr Q728,
  .inr Q731,
  .inl (4, [], (.bool true)),
  .inl (66, [(A [(I 999999), (I 0), (I 0), (I 1), (I 1), (I 0)])], (.bool true)),
  .inr Q734,
  .inr Q737,
  .inr Q740,
  .inr Q743,
  .inr Q746,
  .inr Q749,
  .inr Q752,
  .inl (66, [(A [(I 1000000), (I 0), (I 0), (I 1), (I 1), (I 100000001)])], (.bool false)),
  .inr Q755,
  .inl (66, [(A [(I 1000000), (I 0), (I 0), (I 0), (I 1), (I 0)])], (.bool false)),
  .inr Q758,
  .inl (66, [(A [(I 1000000), (I 0), (I 0), (I 37), (I 1), (I 0)])], (.bool false)),
  .inr Q761,
  .inl (66, [(A [(I 1000000), (I 0), (I 0), (I 1), (I 0), (I 0)])], (.bool false)),
  .inr Q764,
  .inl (66, [(A [(I 1000000), (I 0), (I 0), (I 1), (I 13), (I 0)])], (.bool false)),
  .inr Q767]
def T30 : Tab := pushT T29 L30
def B768 : List (Nat × List Value) := [(64000, [(I 1000000), (I 0), (I 0), (I 2), (I 4), (I 0)])]
def B769 : List (Nat × List Value) := [(64128, [(I 1000000), (I 0), (I 0), (I 2), (I 4), (I 0)]), (64000, [(I 1000000), (I 0), (I 0), (I 2), (I 4), (I 0)]), (64064, [(I 3), (.slice none 0 0), (C 64000 0 1 1)])]
def Q770 : KC := ⟨8, [(A [(I 3), (.slice none 0 0), (C 64000 0 1 1)])], 1001, 64064, B768, (I 90), 1003, B769, [], []⟩
def B771 : List (Nat × List Value) := [(64006, [(I 1000000), (I 0), (I 0), (I 1), (I 1), (I 0), (I 1000000), (I 0), (I 0), (I 1), (I 1), (I 0)])]
def B772 : List (Nat × List Value) := [(64128, [(I 1000000), (I 0), (I 0), (I 1), (I 1), (I 0)]), (64064, [(I 1000000), (I 0), (I 0), (I 1), (I 1), (I 0)]), (64006, [(I 1000000), (I 0), (I 0), (I 1), (I 1), (I 0), (I 1000000), (I 0), (I 0), (I 1), (I 1), (I 0)])]
def Q773 : KC := ⟨33, [(C 64006 0 2 2)], 1001, 64064, B771, (.bool false), 1003, B772, [], []⟩
def B774 : List (Nat × List Value) := [(64006, [(I 1000000), (I 0), (I 0), (I 1), (I 1), (I 0), (I 1000000), (I 0), (I 0), (I 1), (I 1), (I 0)])]
def B775 : List (Nat × List Value) := [(64006, [(I 1000000), (I 0), (I 0), (I 1), (I 1), (I 0), (I 1000000), (I 0), (I 0), (I 1), (I 1), (I 0)])]
def Q776 : KC := ⟨5, [(A [(I 3), (.slice none 0 0), (C 64006 0 2 2)]), (A [(S []), (S [])])], 1001, 64064, B774, (.tuple ⟨[(A [(S []), (S [])]), (I 90)]⟩), 1008, B775, [], []⟩
def B777 : List (Nat × List Value) := [(64006, [(I 1000000), (I 0), (I 0), (I 1), (I 1), (I 0), (I 1000000), (I 0), (I 0), (I 1), (I 1), (I 0)])]
def B778 : List (Nat × List Value) := [(64006, [(I 1000000), (I 0), (I 0), (I 1), (I 1), (I 0), (I 1000000), (I 0), (I 0), (I 1), (I 1), (I 0)])]
def Q779 : KC := ⟨6, [(A [(I 3), (.slice none 0 0), (C 64006 0 2 2)]), (A [(I 1), (I 0)])], 1001, 64064, B777, (.tuple ⟨[(A [(I 0), (I 0)]), (I 90)]⟩), 1008, B778, [], []⟩
def B780 : List (Nat × List Value) := [(64000, [(I 1)])]
def B781 : List (Nat × List Value) := [(64000, [(I 1)]), (64320, [(I 2), (C 64000 0 1 1), (.slice none 0 0)]), (64256, [.nilFunc, (.func (.func 15) ⟨[]⟩ ⟨[]⟩), (.func (.func 16) ⟨[]⟩ ⟨[]⟩), (.func (.func 17) ⟨[]⟩ ⟨[]⟩)]), (64192, [(S []), (S [])]), (64128, [(S []), (S [])]), (64064, [(I 2), (C 64000 0 1 1), (.slice none 0 0)])]
def Q782 : KC := ⟨5, [(A [(I 2), (C 64000 0 1 1), (.slice none 0 0)]), (A [(S []), (S [])])], 1001, 64064, B780, (.tuple ⟨[(A [(S []), (S [])]), (I 90)]⟩), 1006, B781, [], []⟩
def B783 : List (Nat × List Value) := [(64000, [(I 1)])]
def B784 : List (Nat × List Value) := [(64000, [(I 1)]), (64320, [(I 2), (C 64000 0 1 1), (.slice none 0 0)]), (64256, [.nilFunc, (.func (.func 23) ⟨[]⟩ ⟨[]⟩), (.func (.func 24) ⟨[]⟩ ⟨[]⟩), (.func (.func 25) ⟨[]⟩ ⟨[]⟩)]), (64192, [(I 0), (I 0)]), (64128, [(I 1), (I 0)]), (64064, [(I 2), (C 64000 0 1 1), (.slice none 0 0)])]
def Q785 : KC := ⟨6, [(A [(I 2), (C 64000 0 1 1), (.slice none 0 0)]), (A [(I 1), (I 0)])], 1001, 64064, B783, (.tuple ⟨[(A [(I 0), (I 0)]), (I 90)]⟩), 1006, B784, [], []⟩
def B786 : List (Nat × List Value) := [(64000, [(I 1)])]
def B787 : List (Nat × List Value) := [(64000, [(I 1)]), (64128, [(I 2), (C 64000 0 1 1), (.slice none 0 0)]), (64064, [(I 2), (C 64000 0 1 1), (.slice none 0 0)])]
def Q788 : KC := ⟨7, [(A [(I 2), (C 64000 0 1 1), (.slice none 0 0)])], 1001, 64064, B786, (.tuple ⟨[(I 0), (I 90)]⟩), 1003, B787, [], []⟩
def B789 : List (Nat × List Value) := [(64000, [(I 0), (I 0), (I 0), (I 0), (I 0), (I 0), (I 0), (I 0), (I 0), (I 0), (I 0), (I 0), (I 0), (I 0), (I 0), (I 0), (I 0), (I 0)])]
def B790 : List (Nat × List Value) := [(64000, [(I 0), (I 0), (I 0), (I 0), (I 0), (I 0), (I 0), (I 0), (I 0), (I 0), (I 0), (I 0), (I 0), (I 0), (I 0), (I 0), (I 0), (I 0)]), (64320, [(I 2), (C 64000 0 18 18), (.slice none 0 0)]), (64256, [.nilFunc, (.func (.func 15) ⟨[]⟩ ⟨[]⟩), (.func (.func 16) ⟨[]⟩ ⟨[]⟩), (.func (.func 17) ⟨[]⟩ ⟨[]⟩)]), (64192, [(S []), (S [])]), (64128, [(S []), (S [])]), (64064, [(I 2), (C 64000 0 18 18), (.slice none 0 0)])]
def Q791 : KC := ⟨5, [(A [(I 2), (C 64000 0 18 18), (.slice none 0 0)]), (A [(S []), (S [])])], 1001, 64064, B789, (.tuple ⟨[(A [(S []), (S [])]), (I 90)]⟩), 1006, B790, [], []⟩
def B792 : List (Nat × List Value) := [(64000, [(I 0), (I 0), (I 0), (I 0), (I 0), (I 0), (I 0), (I 0), (I 0), (I 0), (I 0), (I 0), (I 0), (I 0), (I 0), (I 0), (I 0), (I 0)])]
def B793 : List (Nat × List Value) := [(64000, [(I 0), (I 0), (I 0), (I 0), (I 0), (I 0), (I 0), (I 0), (I 0), (I 0), (I 0), (I 0), (I 0), (I 0), (I 0), (I 0), (I 0), (I 0)]), (64320, [(I 2), (C 64000 0 18 18), (.slice none 0 0)]), (64256, [.nilFunc, (.func (.func 23) ⟨[]⟩ ⟨[]⟩), (.func (.func 24) ⟨[]⟩ ⟨[]⟩), (.func (.func 25) ⟨[]⟩ ⟨[]⟩)]), (64192, [(I 0), (I 0)]), (64128, [(I 1), (I 0)]), (64064, [(I 2), (C 64000 0 18 18), (.slice none 0 0)])]
def Q794 : KC := ⟨6, [(A [(I 2), (C 64000 0 18 18), (.slice none 0 0)]), (A [(I 1), (I 0)])], 1001, 64064, B792, (.tuple ⟨[(A [(I 0), (I 0)]), (I 90)]⟩), 1006, B793, [], []⟩
def B795 : List (Nat × List Value) := [(64000, [(I 0), (I 0), (I 0), (I 0), (I 0), (I 0), (I 0), (I 0), (I 0), (I 0), (I 0), (I 0), (I 0), (I 0), (I 0), (I 0), (I 0), (I 0)])]
def B796 : List (Nat × List Value) := [(64000, [(I 0), (I 0), (I 0), (I 0), (I 0), (I 0), (I 0), (I 0), (I 0), (I 0), (I 0), (I 0), (I 0), (I 0), (I 0), (I 0), (I 0), (I 0)]), (64128, [(I 2), (C 64000 0 18 18), (.slice none 0 0)]), (64064, [(I 2), (C 64000 0 18 18), (.slice none 0 0)])]
def Q797 : KC := ⟨7, [(A [(I 2), (C 64000 0 18 18), (.slice none 0 0)])], 1001, 64064, B795, (.tuple ⟨[(I 0), (I 90)]⟩), 1003, B796, [], []⟩
def B798 : List (Nat × List Value) := [(64000, [(I 0), (I 65536)])]
def B799 : List (Nat × List Value) := [(64000, [(I 0), (I 65536)]), (64064, [(I 2), (C 64000 0 2 2), (.slice none 0 0)])]
def Q800 : KC := ⟨8, [(A [(I 2), (C 64000 0 2 2), (.slice none 0 0)])], 1001, 64064, B798, (I 90), 1002, B799, [], []⟩
def B801 : List (Nat × List Value) := [(64000, [(I 0), (.int .i64 (.negSucc 0))])]
def B802 : List (Nat × List Value) := [(64000, [(I 0), (.int .i64 (.negSucc 0))]), (64064, [(I 2), (C 64000 0 2 2), (.slice none 0 0)])]
def Q803 : KC := ⟨8, [(A [(I 2), (C 64000 0 2 2), (.slice none 0 0)])], 1001, 64064, B801, (I 90), 1002, B802, [], []⟩
def B804 : List (Nat × List Value) := [(64000, [(S []), (S [])]), (64064, [.nilFunc, (.func (.func 15) ⟨[]⟩ ⟨[]⟩), (.func (.func 16) ⟨[]⟩ ⟨[]⟩), (.func (.func 17) ⟨[]⟩ ⟨[]⟩)]), (64128, [(I 1000000), (I 1000000), (I 0), (I 1), (I 2), (I 0)]), (64192, [(I 3), (.slice none 0 0), (C 64128 0 1 1)])]
def Q805 : KC := ⟨18, [(.func (.func 19) ⟨[]⟩ ⟨[(Z 64000 0), (Z 64064 0), (Z 64192 0)]⟩)], 1004, 64256, B804, (.tuple ⟨[(A [(S []), (S [])]), (I 20)]⟩), 1027, B804, [], []⟩
def B806 : List (Nat × List Value) := [(64000, [(I 0), (I 65535), (I 0)])]
def B807 : List (Nat × List Value) := [(64000, [(I 0), (I 65535), (I 0)])]
def Q808 : KC := ⟨6, [(A [(I 2), (C 64000 0 3 3), (.slice none 0 0)]), (A [(I 1), (I 0)])], 1001, 64064, B806, (.tuple ⟨[(A [(I 0), (I 0)]), (I 30)]⟩), 1013, B807, [], []⟩
def B809 : List (Nat × List Value) := [(64000, [(I 500000), (I 1000000), (I 0), (I 1), (I 1), (I 0), (I 1000000), (I 2000000), (.int .i64 (.negSucc 999999)), (I 2), (I 1), (I 500000)])]
def B810 : List (Nat × List Value) := [(64384, [(I 1000000), (I 2000000), (.int .i64 (.negSucc 999999)), (I 2), (I 1), (I 500000)]), (64320, [(I 500000), (I 1000000), (I 0), (I 1), (I 1), (I 0)]), (64256, [(I 1000000), (I 2000000), (.int .i64 (.negSucc 999999)), (I 2), (I 1), (I 500000)]), (64192, [(I 500000), (I 1000000), (I 0), (I 1), (I 1), (I 0)]), (64000, [(I 500000), (I 1000000), (I 0), (I 1), (I 1), (I 0), (I 1000000), (I 2000000), (.int .i64 (.negSucc 999999)), (I 2), (I 1), (I 500000)]), (64128, [(I 3), (.slice none 0 0), (C 64000 0 2 2)]), (64064, [(I 3), (.slice none 0 0), (C 64000 0 2 2)])]
def Q811 : KC := ⟨9, [(A [(I 3), (.slice none 0 0), (C 64000 0 2 2)])], 1001, 64064, B809, (.bool true), 1007, B810, [], []⟩
def B812 : List (Nat × List Value) := [(64000, [(I 500000), (I 0), (I 0), (I 1), (I 1), (I 0), (I 1000000), (I 0), (I 0), (I 1), (I 1), (I 1000000)])]
def B813 : List (Nat × List Value) := [(64128, [(I 1000000), (I 0), (I 0), (I 1), (I 1), (I 1000000)]), (64064, [(I 500000), (I 0), (I 0), (I 1), (I 1), (I 0)]), (64000, [(I 500000), (I 0), (I 0), (I 1), (I 1), (I 0), (I 1000000), (I 0), (I 0), (I 1), (I 1), (I 1000000)])]
def Q814 : KC := ⟨33, [(C 64000 0 2 2)], 1001, 64064, B812, (.bool true), 1003, B813, [], []⟩
def B815 : List (Nat × List Value) := [(64000, [(I 0)]), (64064, [(I 1000000000000)]), (64128, [(I 500000000000), (I 500000000001)])]
def B816 : List (Nat × List Value) := [(64000, [(I 0)]), (64064, [(I 1000000000000)]), (64128, [(I 500000000000), (I 500000000001)])]
def Q817 : KC := ⟨61, [(Z 64000 0), (Z 64064 0), (Z 64128 0)], 1003, 64192, B815, (.tuple ⟨[(A [(I 500000000000), (I 500000000001)]), (I 0)]⟩), 1012, B816, [], []⟩
def L31 : List (Sum (FuncId × List Value × Value) KC) := [.inl (66, [(A [(I 1000000), (I 0), (I 0), (I 2), (I 4), (I 0)])], (.bool false)),
  .inr Q770,
  .inl (66, [(A [(I 1000000), (I 0), (I 0), (I 1), (I 1), (I 0)])], (.bool true)),
  .inr Q773,
  .inr Q776,
  .inr Q779,
  .inl (5, [(A [(I 3), (.slice none 0 0), (.slice none 0 0)]), (A [(S []), (S [])])], (.tuple ⟨[(A [(S []), (S [])]), (I 90)]⟩)),
  .inl (6, [(A [(I 3), (.slice none 0 0), (.slice none 0 0)]), (A [(I 1), (I 0)])], (.tuple ⟨[(A [(I 0), (I 0)]), (I 90)]⟩)),
  .inl (7, [(A [(I 3), (.slice none 0 0), (.slice none 0 0)])], (.tuple ⟨[(I 0), (I 90)]⟩)),
  .inr Q782,
  .inr Q785,
  .inr Q788,
  .inr Q791,
  .inr Q794,
  .inr Q797,
  .inr Q800,
  .inr Q803,
  .inl (108, [(A [(S []), (S [])])], (.tuple ⟨[(A [(I 0), (I 0)]), (.bool false)]⟩)),
  .inl (162, [(S [])], (.tuple ⟨[(A [(.slice none 0 0), (.bool false)]), (.bool false)]⟩)),
  .inl (89, [(A [(S []), (S [])])], (I 20)),
  .inr Q805,
  .inl (29, [(A [(I 1), (I 0)]), (I 0), (I 1000000000000)], (.tuple ⟨[(A [(I 0), (I 0)]), (I 30)]⟩)),
  .inr Q808,
  .inr Q811,
  .inl (66, [(A [(I 500000), (I 0), (I 0), (I 1), (I 1), (I 0)])], (.bool true)),
  .inl (66, [(A [(I 1000000), (I 0), (I 0), (I 1), (I 1), (I 1000000)])], (.bool true)),
  .inr Q814,
  .inr Q817]
def T31 : Tab := pushT T30 L31
def B818 : List (Nat × List Value) := [(64000, [(I 0)]), (64064, [(I 1000000000000)]), (64128, [(I 500000000000), (I 500000000001)]), (64192, [(I 500000000000), (I 500000000001)])]
def Q819 : KC := ⟨60, [(.func (.func 61) ⟨[]⟩ ⟨[(Z 64000 0), (Z 64064 0), (Z 64128 0)]⟩), (C 64192 0 1 1)], 1004, 64256, B818, (.tuple ⟨[(A [(I 500000000000), (I 500000000001)]), (I 0)]⟩), 1016, B818, [], []⟩
def B820 : List (Nat × List Value) := [(64000, [(.func (.func 72) ⟨[]⟩ ⟨[]⟩)])]
def B821 : List (Nat × List Value) := [(64000, [(.func (.func 72) ⟨[]⟩ ⟨[]⟩)])]
def Q822 : KC := ⟨69, [(A [(S [48]), (S [49])]), (A [(S [49]), (S [50])]), (.func (.func 70) ⟨[]⟩ ⟨[]⟩), (.func (.func 114) ⟨[]⟩ ⟨[(Z 64000 0)]⟩)], 1001, 64064, B820, (.tuple ⟨[(A [(S [48]), (S [49])]), (I 0)]⟩), 1008, B821, [], []⟩
def B823 : List (Nat × List Value) := [(64000, [(.func (.func 80) ⟨[]⟩ ⟨[]⟩)])]
def B824 : List (Nat × List Value) := [(64000, [(.func (.func 80) ⟨[]⟩ ⟨[]⟩)])]
def Q825 : KC := ⟨69, [(A [(S [48]), (S [49])]), (A [(S [48]), (S [49])]), (.func (.func 79) ⟨[]⟩ ⟨[]⟩), (.func (.func 114) ⟨[]⟩ ⟨[(Z 64000 0)]⟩)], 1001, 64064, B823, (.tuple ⟨[(A [(S [48]), (S [49])]), (I 0)]⟩), 1008, B824, [], []⟩
def B826 : List (Nat × List Value) := [(64000, [(S [48]), (S [49]), (S [49, 48, 48, 48, 48, 48, 48]), (S [49])])]
def B827 : List (Nat × List Value) := [(64256, [(S [49, 48, 48, 48, 48, 48, 48]), (S [49])]), (64064, [(S [48]), (S [49])]), (64000, [(S [48]), (S [49]), (S [49, 48, 48, 48, 48, 48, 48]), (S [49])])]
def Q828 : KC := ⟨49, [(C 64000 0 2 2)], 1001, 64064, B826, (I 0), 1007, B827, [], []⟩
def B829 : List (Nat × List Value) := [(64000, [(.func (.func 82) ⟨[]⟩ ⟨[]⟩)])]
def B830 : List (Nat × List Value) := [(64000, [(.func (.func 82) ⟨[]⟩ ⟨[]⟩)])]
def Q831 : KC := ⟨69, [(A [(S [48]), (S [49])]), (A [(S [49, 48, 48, 48, 48, 48, 48]), (S [49])]), (.func (.func 81) ⟨[]⟩ ⟨[]⟩), (.func (.func 114) ⟨[]⟩ ⟨[(Z 64000 0)]⟩)], 1001, 64064, B829, (.tuple ⟨[(A [(S [48]), (S [49])]), (I 0)]⟩), 1011, B830, [], []⟩
def B832 : List (Nat × List Value) := [(64000, [(I 500000), (I 0), (I 0), (I 1), (I 1), (I 0), (I 0), (.bool true)])]
def B833 : List (Nat × List Value) := [(64000, [(I 500000), (I 0), (I 0), (I 1), (I 1), (I 0), (I 0), (.bool true)])]
def Q834 : KC := ⟨102, [(I 500000000000), (Z 64000 0)], 1001, 64064, B832, (A [(I 0), (I 0)]), 1011, B833, [], []⟩
def B835 : List (Nat × List Value) := [(64000, [(.func (.func 64) ⟨[]⟩ ⟨[]⟩), (.func (.func 64) ⟨[]⟩ ⟨[]⟩), (.func (.func 65) ⟨[]⟩ ⟨[]⟩), (.func (.func 65) ⟨[]⟩ ⟨[]⟩), (.func (.func 64) ⟨[]⟩ ⟨[]⟩), (.func (.func 65) ⟨[]⟩ ⟨[]⟩), (.func (.func 65) ⟨[]⟩ ⟨[]⟩), (.func (.func 64) ⟨[]⟩ ⟨[]⟩)]), (64064, [(I 2)]), (64128, [(I 0), (I 0)]), (64192, [(I 0), (I 0)])]
def B836 : List (Nat × List Value) := [(64448, [(I 0), (I 0)]), (64384, [(I 0)]), (64320, [(I 0)]), (64000, [(.func (.func 64) ⟨[]⟩ ⟨[]⟩), (.func (.func 64) ⟨[]⟩ ⟨[]⟩), (.func (.func 65) ⟨[]⟩ ⟨[]⟩), (.func (.func 65) ⟨[]⟩ ⟨[]⟩), (.func (.func 64) ⟨[]⟩ ⟨[]⟩), (.func (.func 65) ⟨[]⟩ ⟨[]⟩), (.func (.func 65) ⟨[]⟩ ⟨[]⟩), (.func (.func 64) ⟨[]⟩ ⟨[]⟩)]), (64064, [(I 2)]), (64128, [(I 0), (I 0)]), (64192, [(I 0), (I 0)]), (64256, [(I 0), (I 0)])]
def Q837 : KC := ⟨183, [(Z 64000 0), (Z 64064 0), (Z 64128 0), (Z 64192 0)], 1004, 64256, B835, (.tuple ⟨[(A [(I 0), (I 0)]), (I 0)]⟩), 1008, B836, [], []⟩
def B838 : List (Nat × List Value) := [(64000, [(.func (.func 64) ⟨[]⟩ ⟨[]⟩), (.func (.func 64) ⟨[]⟩ ⟨[]⟩), (.func (.func 65) ⟨[]⟩ ⟨[]⟩), (.func (.func 65) ⟨[]⟩ ⟨[]⟩), (.func (.func 64) ⟨[]⟩ ⟨[]⟩), (.func (.func 65) ⟨[]⟩ ⟨[]⟩), (.func (.func 65) ⟨[]⟩ ⟨[]⟩), (.func (.func 64) ⟨[]⟩ ⟨[]⟩)]), (64064, [(I 2)]), (64128, [(I 0), (I 0)]), (64192, [(I 0), (I 0)]), (64256, [(I 0), (I 0), (I 0), (I 0)])]
def Q839 : KC := ⟨60, [(.func (.func 183) ⟨[]⟩ ⟨[(Z 64000 0), (Z 64064 0), (Z 64128 0), (Z 64192 0)]⟩), (C 64256 0 2 2)], 1005, 64320, B838, (.tuple ⟨[(A [(I 0), (I 0)]), (I 0)]⟩), 1014, B838, [], []⟩
def B840 : List (Nat × List Value) := [(64000, [(I 0), (I 0)])]
def B841 : List (Nat × List Value) := [(64000, [(I 0), (I 0)])]
def Q842 : KC := ⟨53, [(A [(I 0), (I 0)]), (C 64000 0 1 1)], 1001, 64064, B840, (A [(I 0), (I 0)]), 1024, B841, [], []⟩
def B843 : List (Nat × List Value) := [(64000, [(I 0)]), (64064, [(I 1000000000000000000)]), (64128, [(I 0), (I 0)])]
def B844 : List (Nat × List Value) := [(64000, [(I 0)]), (64064, [(I 1000000000000000000)]), (64128, [(I 0), (I 0)])]
def Q845 : KC := ⟨61, [(Z 64000 0), (Z 64064 0), (Z 64128 0)], 1003, 64192, B843, (.tuple ⟨[(A [(I 0), (I 0)]), (I 0)]⟩), 1012, B844, [], []⟩
def L32 : List (Sum (FuncId × List Value × Value) KC) := [.inr Q819,
  .inl (70, [(A [(I 0), (I 1)]), (A [(I 1), (I 2)])], (.tuple ⟨[(A [(S [48]), (S [49])]), (.bool true)]⟩)),
  .inr Q822,
  .inl (79, [(A [(I 0), (I 1)]), (A [(I 0), (I 1)])], (.tuple ⟨[(A [(S [48]), (S [49])]), (.bool true)]⟩)),
  .inr Q825,
  .inr Q828,
  .inl (70, [(A [(I 0), (I 1)]), (A [(I 1), (I 1000000)])], (.tuple ⟨[(A [(S [48]), (S [49])]), (.bool true)]⟩)),
  .inr Q831,
  .inl (46, [(A [(I 500000), (I 0), (I 0), (I 1), (I 1), (I 0), (I 0), (.bool true)]), (A [(S [49]), (S [50])])], (A [(S [48]), (S [49])])),
  .inr Q834,
  .inr Q837,
  .inr Q839,
  .inr Q842,
  .inr Q845]
def T32 : Tab := pushT T31 L32
def B846 : List (Nat × List Value) := [(64000, [(I 0)]), (64064, [(I 1000000000000000000)]), (64128, [(I 0), (I 0)]), (64192, [(I 0), (I 0)])]
def Q847 : KC := ⟨60, [(.func (.func 61) ⟨[]⟩ ⟨[(Z 64000 0), (Z 64064 0), (Z 64128 0)]⟩), (C 64192 0 1 1)], 1004, 64256, B846, (.tuple ⟨[(A [(I 0), (I 0)]), (I 0)]⟩), 1016, B846, [], []⟩
def B848 : List (Nat × List Value) := [(64000, [(.int .u64 (.ofNat 0)), (.int .u64 (.ofNat 0))])]
def B849 : List (Nat × List Value) := [(64064, [(.int .u64 (.ofNat 1)), (.int .u64 (.ofNat 0))]), (64000, [(.int .u64 (.ofNat 0)), (.int .u64 (.ofNat 0))])]
def Q850 : KC := ⟨141, [(C 64000 0 0 0), (I 1)], 1001, 64064, B848, (.slice none 0 0), 1002, B849, [], []⟩
def B851 : List (Nat × List Value) := [(64000, [(I 1), (I 1)])]
def B852 : List (Nat × List Value) := [(64128, [(.int .u64 (.ofNat 0)), (.int .u64 (.ofNat 1))]), (64000, [(I 1), (I 1)]), (64064, [(I 0), (I 0)])]
def Q853 : KC := ⟨152, [(I 0), (I 0), (.func (.func 153) ⟨[]⟩ ⟨[(Z 64000 0)]⟩)], 1001, 64064, B851, (.tuple ⟨[(A [(I 0), (I 0)]), (I 0)]⟩), 1003, B852, [], []⟩
def B854 : List (Nat × List Value) := [(64000, [(I 0), (I 0)]), (64064, [(I 0), (I 0)])]
def B855 : List (Nat × List Value) := [(64128, [(I 0), (I 0)]), (64000, [(I 0), (I 0)]), (64064, [(I 0), (I 0)])]
def Q856 : KC := ⟨155, [(Z 64000 0), (Z 64064 0)], 1002, 64128, B854, (.tuple ⟨[(A [(I 0), (I 0)]), (I 0)]⟩), 1006, B855, [], []⟩
def B857 : List (Nat × List Value) := [(64000, [(I 0), (I 0)]), (64064, [(I 0), (I 0)]), (64128, [(I 0), (I 0), (I 0), (I 0)])]
def B858 : List (Nat × List Value) := [(64000, [(I 0), (I 0)]), (64064, [(I 0), (I 0)]), (64128, [(I 0), (I 0), (I 0), (I 0)])]
def Q859 : KC := ⟨60, [(.func (.func 155) ⟨[]⟩ ⟨[(Z 64000 0), (Z 64064 0)]⟩), (C 64128 0 2 2)], 1003, 64192, B857, (.tuple ⟨[(A [(I 0), (I 0)]), (I 0)]⟩), 1012, B858, [], []⟩
def B860 : List (Nat × List Value) := [(64000, [(I 0)]), (64064, [(I 1000000000000)]), (64128, [(I 0), (I 0)])]
def B861 : List (Nat × List Value) := [(64000, [(I 0)]), (64064, [(I 1000000000000)]), (64128, [(I 0), (I 0)])]
def Q862 : KC := ⟨61, [(Z 64000 0), (Z 64064 0), (Z 64128 0)], 1003, 64192, B860, (.tuple ⟨[(A [(I 0), (I 0)]), (I 0)]⟩), 1012, B861, [], []⟩
def B863 : List (Nat × List Value) := [(64000, [(I 0)]), (64064, [(I 1000000000000)]), (64128, [(I 0), (I 0)]), (64192, [(I 0), (I 0)])]
def Q864 : KC := ⟨60, [(.func (.func 61) ⟨[]⟩ ⟨[(Z 64000 0), (Z 64064 0), (Z 64128 0)]⟩), (C 64192 0 1 1)], 1004, 64256, B863, (.tuple ⟨[(A [(I 0), (I 0)]), (I 0)]⟩), 1016, B863, [], []⟩
def B865 : List (Nat × List Value) := [(64000, [(I 1000000), (I 0), (I 0), (I 1), (I 1), (I 1000000), (I 500000), (.bool false)])]
def B866 : List (Nat × List Value) := [(64000, [(I 1000000), (I 0), (I 0), (I 1), (I 1), (I 1000000), (I 500000), (.bool false)])]
def Q867 : KC := ⟨102, [(I 500000000000), (Z 64000 0)], 1001, 64064, B865, (A [(I 0), (I 0)]), 1011, B866, [], []⟩
def L33 : List (Sum (FuncId × List Value × Value) KC) := [.inr Q847,
  .inl (184, [(A [(I 1), (I 1)])], (.bool true)),
  .inl (151, [(I 1), (I 1)], (.tuple ⟨[(A [(I 1), (I 1)]), (I 0)]⟩)),
  .inr Q850,
  .inl (141, [(.slice none 0 0), (I 1)], (.slice none 0 0)),
  .inl (154, [(A [(I 1), (I 1)]), (I 0)], (.tuple ⟨[(.slice none 0 0), (.bool true)]⟩)),
  .inr Q853,
  .inl (103, [(A [(I 0), (I 0)]), (I 1), (I 1)], (.tuple ⟨[(A [(I 0), (I 0)]), (I 0)]⟩)),
  .inr Q856,
  .inr Q859,
  .inr Q862,
  .inr Q864,
  .inl (57, [(A [(I 500000), (I 0), (I 0), (I 1), (I 1), (I 0), (I 0), (.bool true)]), (I 500000000000), (I 500000000000)], (A [(I 0), (I 0)])),
  .inl (46, [(A [(I 1000000), (I 0), (I 0), (I 1), (I 1), (I 1000000), (I 500000), (.bool false)]), (A [(S [49]), (S [50])])], (A [(S [48]), (S [49])])),
  .inr Q867]
def T33 : Tab := pushT T32 L33
def B868 : List (Nat × List Value) := [(64000, [(U 0), (U 0), (U 0), (U 0), (U 0), (U 0), (U 0), (U 0), (U 0), (U 0), (U 0), (U 0), (U 0), (U 0), (U 0), (U 0), (U 0), (U 0), (U 0), (U 0), (U 0), (U 0), (U 0), (U 0)])]
def B869 : List (Nat × List Value) := [(64000, [(U 0), (U 53), (U 48), (U 48), (U 48), (U 48), (U 48), (U 48), (U 48), (U 48), (U 48), (U 48), (U 49), (U 0), (U 0), (U 0), (U 0), (U 0), (U 0), (U 0), (U 0), (U 0), (U 0), (U 0)])]
def Q870 : KC := ⟨216, [(C 64000 1 12 23), (.int .u64 (.ofNat 500000000001))], 1001, 64000, B868, (.tuple ⟨[]⟩), 1001, B869, [], []⟩
def B871 : List (Nat × List Value) := [(64000, [(U 0), (U 0), (U 0), (U 0), (U 0), (U 0), (U 0), (U 0), (U 0), (U 0), (U 0), (U 0), (U 0), (U 0), (U 0), (U 0), (U 0), (U 0), (U 0), (U 0), (U 0), (U 0), (U 0), (U 0)])]
def B872 : List (Nat × List Value) := [(64000, [(U 0), (U 49), (U 48), (U 48), (U 48), (U 48), (U 48), (U 48), (U 48), (U 48), (U 48), (U 48), (U 48), (U 48), (U 0), (U 0), (U 0), (U 0), (U 0), (U 0), (U 0), (U 0), (U 0), (U 0)])]
def Q873 : KC := ⟨216, [(C 64000 1 13 23), (.int .u64 (.ofNat 1000000000000))], 1001, 64000, B871, (.tuple ⟨[]⟩), 1001, B872, [], []⟩
def L34 : List (Sum (FuncId × List Value × Value) KC) := [.inl (110, [(.int .u64 (.ofNat 500000000001)), (.int .u64 (.ofNat 1000000000000))], (.int .u64 (.ofNat 1))),
  .inl (215, [(.int .u64 (.ofNat 500000000001))], (I 12)),
  .inr Q870,
  .inl (164, [(I 500000000001)], (S [53, 48, 48, 48, 48, 48, 48, 48, 48, 48, 48, 49])),
  .inl (215, [(.int .u64 (.ofNat 1000000000000))], (I 13)),
  .inr Q873,
  .inl (164, [(I 1000000000000)], (S [49, 48, 48, 48, 48, 48, 48, 48, 48, 48, 48, 48, 48])),
  .inl (94, [(I 500000000001), (I 1000000000000)], (.tuple ⟨[(A [(S [53, 48, 48, 48, 48, 48, 48, 48, 48, 48, 48, 49]), (S [49, 48, 48, 48, 48, 48, 48, 48, 48, 48, 48, 48, 48])]), (.bool true)]⟩)),
  .inl (161, [(S [53, 48, 48, 48, 48, 48, 48, 48, 48, 48, 48, 49])], (.tuple ⟨[(I 500000000001), (.bool true)]⟩)),
  .inl (161, [(S [49, 48, 48, 48, 48, 48, 48, 48, 48, 48, 48, 48, 48])], (.tuple ⟨[(I 1000000000000), (.bool true)]⟩)),
  .inl (108, [(A [(S [53, 48, 48, 48, 48, 48, 48, 48, 48, 48, 48, 49]), (S [49, 48, 48, 48, 48, 48, 48, 48, 48, 48, 48, 48, 48])])], (.tuple ⟨[(A [(I 500000000001), (I 1000000000000)]), (.bool true)]⟩))]
def T34 : Tab := pushT T33 L34
def B874 : List (Nat × List Value) := [(64000, [(.func (.func 72) ⟨[]⟩ ⟨[]⟩)])]
def B875 : List (Nat × List Value) := [(64000, [(.func (.func 72) ⟨[]⟩ ⟨[]⟩)])]
def Q876 : KC := ⟨69, [(A [(S [48]), (S [49])]), (A [(S [53, 48, 48, 48, 48, 48, 48, 48, 48, 48, 48, 49]), (S [49, 48, 48, 48, 48, 48, 48, 48, 48, 48, 48, 48, 48])]), (.func (.func 70) ⟨[]⟩ ⟨[]⟩), (.func (.func 114) ⟨[]⟩ ⟨[(Z 64000 0)]⟩)], 1001, 64064, B874, (.tuple ⟨[(A [(S [48]), (S [49])]), (I 0)]⟩), 1008, B875, [], []⟩
def B877 : List (Nat × List Value) := [(64000, [(I 1000000), (I 0), (I 0), (I 1), (I 1), (I 1000000), (I 500000), (.bool false)])]
def B878 : List (Nat × List Value) := [(64000, [(I 1000000), (I 0), (I 0), (I 1), (I 1), (I 1000000), (I 500000), (.bool false)])]
def Q879 : KC := ⟨102, [(I 500000000001), (Z 64000 0)], 1001, 64064, B877, (A [(I 0), (I 0)]), 1011, B878, [], []⟩
def B880 : List (Nat × List Value) := [(64000, [(I 0), (I 0)]), (64064, [(I 1000000000000), (I 1000000000000)])]
def B881 : List (Nat × List Value) := [(64128, [(I 1000000000000), (I 1000000000000)]), (64000, [(I 0), (I 0)]), (64064, [(I 1000000000000), (I 1000000000000)])]
def Q882 : KC := ⟨155, [(Z 64000 0), (Z 64064 0)], 1002, 64128, B880, (.tuple ⟨[(A [(I 1000000000000), (I 1000000000000)]), (I 0)]⟩), 1006, B881, [], []⟩
def B883 : List (Nat × List Value) := [(64000, [(I 0), (I 0)]), (64064, [(I 1000000000000), (I 1000000000000)]), (64128, [(I 0), (I 0), (I 1000000000000), (I 1000000000000)])]
def B884 : List (Nat × List Value) := [(64000, [(I 0), (I 0)]), (64064, [(I 1000000000000), (I 1000000000000)]), (64128, [(I 0), (I 0), (I 1000000000000), (I 1000000000000)])]
def Q885 : KC := ⟨60, [(.func (.func 155) ⟨[]⟩ ⟨[(Z 64000 0), (Z 64064 0)]⟩), (C 64128 0 2 2)], 1003, 64192, B883, (.tuple ⟨[(A [(I 1000000000000), (I 1000000000000)]), (I 0)]⟩), 1012, B884, [], []⟩
def B886 : List (Nat × List Value) := [(64000, [(I 0)]), (64064, [(I 1000000000000)]), (64128, [(I 1000000000000), (I 1000000000000)])]
def B887 : List (Nat × List Value) := [(64000, [(I 0)]), (64064, [(I 1000000000000)]), (64128, [(I 1000000000000), (I 1000000000000)])]
def Q888 : KC := ⟨61, [(Z 64000 0), (Z 64064 0), (Z 64128 0)], 1003, 64192, B886, (.tuple ⟨[(A [(I 1000000000000), (I 1000000000000)]), (I 0)]⟩), 1012, B887, [], []⟩
def B889 : List (Nat × List Value) := [(64000, [(I 0)]), (64064, [(I 1000000000000)]), (64128, [(I 1000000000000), (I 1000000000000)]), (64192, [(I 1000000000000), (I 1000000000000)])]
def Q890 : KC := ⟨60, [(.func (.func 61) ⟨[]⟩ ⟨[(Z 64000 0), (Z 64064 0), (Z 64128 0)]⟩), (C 64192 0 1 1)], 1004, 64256, B889, (.tuple ⟨[(A [(I 1000000000000), (I 1000000000000)]), (I 0)]⟩), 1016, B889, [], []⟩
def L35 : List (Sum (FuncId × List Value × Value) KC) := [.inl (110, [(.int .u64 (.ofNat 500000000001)), (.int .u64 (.ofNat 1))], (.int .u64 (.ofNat 1))),
  .inl (143, [(.int .u64 (.ofNat 0)), (.int .u64 (.ofNat 500000000001))], (.tuple ⟨[(.int .u64 (.ofNat 0)), (.int .u64 (.ofNat 0))]⟩)),
  .inl (112, [(I 0), (I 500000000001)], (.tuple ⟨[(I 0), (.bool true)]⟩)),
  .inl (70, [(A [(I 0), (I 1)]), (A [(I 500000000001), (I 1000000000000)])], (.tuple ⟨[(A [(S [48]), (S [49])]), (.bool true)]⟩)),
  .inr Q876,
  .inl (46, [(A [(I 1000000), (I 0), (I 0), (I 1), (I 1), (I 1000000), (I 500000), (.bool false)]), (A [(S [53, 48, 48, 48, 48, 48, 48, 48, 48, 48, 48, 49]), (S [49, 48, 48, 48, 48, 48, 48, 48, 48, 48, 48, 48, 48])])], (A [(S [48]), (S [49])])),
  .inr Q879,
  .inr Q882,
  .inr Q885,
  .inr Q888,
  .inr Q890]
def T35 : Tab := pushT T34 L35
def B891 : List (Nat × List Value) := [(64000, [(.func (.func 64) ⟨[]⟩ ⟨[]⟩), (.func (.func 64) ⟨[]⟩ ⟨[]⟩), (.func (.func 65) ⟨[]⟩ ⟨[]⟩), (.func (.func 65) ⟨[]⟩ ⟨[]⟩), (.func (.func 64) ⟨[]⟩ ⟨[]⟩), (.func (.func 65) ⟨[]⟩ ⟨[]⟩), (.func (.func 65) ⟨[]⟩ ⟨[]⟩), (.func (.func 64) ⟨[]⟩ ⟨[]⟩)]), (64064, [(I 2)]), (64128, [(I 0), (I 0)]), (64192, [(I 1000000000000), (I 1000000000000)])]
def B892 : List (Nat × List Value) := [(64448, [(I 0), (I 1000000000000)]), (64384, [(I 1000000000000)]), (64320, [(I 1000000000000)]), (64000, [(.func (.func 64) ⟨[]⟩ ⟨[]⟩), (.func (.func 64) ⟨[]⟩ ⟨[]⟩), (.func (.func 65) ⟨[]⟩ ⟨[]⟩), (.func (.func 65) ⟨[]⟩ ⟨[]⟩), (.func (.func 64) ⟨[]⟩ ⟨[]⟩), (.func (.func 65) ⟨[]⟩ ⟨[]⟩), (.func (.func 65) ⟨[]⟩ ⟨[]⟩), (.func (.func 64) ⟨[]⟩ ⟨[]⟩)]), (64064, [(I 2)]), (64128, [(I 0), (I 0)]), (64192, [(I 1000000000000), (I 1000000000000)]), (64256, [(I 0), (I 1000000000000)])]
def Q893 : KC := ⟨183, [(Z 64000 0), (Z 64064 0), (Z 64128 0), (Z 64192 0)], 1004, 64256, B891, (.tuple ⟨[(A [(I 0), (I 1000000000000)]), (I 0)]⟩), 1008, B892, [], []⟩
def B894 : List (Nat × List Value) := [(64000, [(.func (.func 64) ⟨[]⟩ ⟨[]⟩), (.func (.func 64) ⟨[]⟩ ⟨[]⟩), (.func (.func 65) ⟨[]⟩ ⟨[]⟩), (.func (.func 65) ⟨[]⟩ ⟨[]⟩), (.func (.func 64) ⟨[]⟩ ⟨[]⟩), (.func (.func 65) ⟨[]⟩ ⟨[]⟩), (.func (.func 65) ⟨[]⟩ ⟨[]⟩), (.func (.func 64) ⟨[]⟩ ⟨[]⟩)]), (64064, [(I 2)]), (64128, [(I 0), (I 0)]), (64192, [(I 1000000000000), (I 1000000000000)]), (64256, [(I 0), (I 0), (I 1000000000000), (I 1000000000000)])]
def Q895 : KC := ⟨60, [(.func (.func 183) ⟨[]⟩ ⟨[(Z 64000 0), (Z 64064 0), (Z 64128 0), (Z 64192 0)]⟩), (C 64256 0 2 2)], 1005, 64320, B894, (.tuple ⟨[(A [(I 0), (I 1000000000000)]), (I 0)]⟩), 1014, B894, [], []⟩
def B896 : List (Nat × List Value) := [(64002, [(I 0), (I 0), (I 1000000000000), (I 1000000000000)])]
def B897 : List (Nat × List Value) := [(64002, [(I 0), (I 0), (I 1000000000000), (I 1000000000000)])]
def Q898 : KC := ⟨53, [(A [(I 0), (I 0)]), (C 64002 2 1 1)], 1001, 64064, B896, (A [(I 0), (I 1000000000000)]), 1024, B897, [], []⟩
def B899 : List (Nat × List Value) := [(64000, [(I 500000), (I 0), (I 0), (I 1), (I 1), (I 0), (I 1000000), (I 0), (I 0), (I 1), (I 1), (I 1000000)])]
def B900 : List (Nat × List Value) := [(64000, [(I 500000), (I 0), (I 0), (I 1), (I 1), (I 0), (I 1000000), (I 0), (I 0), (I 1), (I 1), (I 1000000)])]
def Q901 : KC := ⟨25, [(A [(I 3), (.slice none 0 0), (C 64000 0 2 2)]), (A [(I 500000000000), (I 500000000001)])], 1001, 64064, B899, (A [(I 0), (I 1000000000000)]), 1039, B900, [], []⟩
def B902 : List (Nat × List Value) := [(64000, [(I 500000), (I 0), (I 0), (I 1), (I 1), (I 0), (I 1000000), (I 0), (I 0), (I 1), (I 1), (I 1000000)])]
def B903 : List (Nat × List Value) := [(64000, [(I 500000), (I 0), (I 0), (I 1), (I 1), (I 0), (I 1000000), (I 0), (I 0), (I 1), (I 1), (I 1000000)])]
def Q904 : KC := ⟨6, [(A [(I 3), (.slice none 0 0), (C 64000 0 2 2)]), (A [(I 500000000000), (I 500000000001)])], 1001, 64064, B902, (.tuple ⟨[(A [(I 0), (I 1000000000000)]), (I 0)]⟩), 1068, B903, [], []⟩
def B905 : List (Nat × List Value) := [(64000, [(I 0)]), (64064, [(I 1000000000000)]), (64128, [(I 0), (I 500000000000)])]
def B906 : List (Nat × List Value) := [(64000, [(I 0)]), (64064, [(I 1000000000000)]), (64128, [(I 0), (I 500000000000)])]
def Q907 : KC := ⟨61, [(Z 64000 0), (Z 64064 0), (Z 64128 0)], 1003, 64192, B905, (.tuple ⟨[(A [(I 0), (I 500000000000)]), (I 0)]⟩), 1012, B906, [], []⟩
def B908 : List (Nat × List Value) := [(64000, [(I 0)]), (64064, [(I 1000000000000)]), (64128, [(I 0), (I 500000000000)]), (64192, [(I 0), (I 500000000000)])]
def Q909 : KC := ⟨60, [(.func (.func 61) ⟨[]⟩ ⟨[(Z 64000 0), (Z 64064 0), (Z 64128 0)]⟩), (C 64192 0 1 1)], 1004, 64256, B908, (.tuple ⟨[(A [(I 0), (I 500000000000)]), (I 0)]⟩), 1016, B908, [], []⟩
def B910 : List (Nat × List Value) := [(64000, [(.func (.func 72) ⟨[]⟩ ⟨[]⟩)])]
def B911 : List (Nat × List Value) := [(64000, [(.func (.func 72) ⟨[]⟩ ⟨[]⟩)])]
def Q912 : KC := ⟨69, [(A [(S [48]), (S [49])]), (A [(S [48]), (S [49])]), (.func (.func 70) ⟨[]⟩ ⟨[]⟩), (.func (.func 114) ⟨[]⟩ ⟨[(Z 64000 0)]⟩)], 1001, 64064, B910, (.tuple ⟨[(A [(S [48]), (S [49])]), (I 0)]⟩), 1008, B911, [], []⟩
def L36 : List (Sum (FuncId × List Value × Value) KC) := [.inl (57, [(A [(I 1000000), (I 0), (I 0), (I 1), (I 1), (I 1000000), (I 500000), (.bool false)]), (I 500000000000), (I 500000000001)], (A [(I 1000000000000), (I 1000000000000)])),
  .inr Q893,
  .inr Q895,
  .inr Q898,
  .inr Q901,
  .inr Q904,
  .inr Q907,
  .inr Q909,
  .inl (143, [(.int .u64 (.ofNat 0)), (.int .u64 (.ofNat 0))], (.tuple ⟨[(.int .u64 (.ofNat 0)), (.int .u64 (.ofNat 0))]⟩)),
  .inl (112, [(I 0), (I 0)], (.tuple ⟨[(I 0), (.bool true)]⟩)),
  .inl (70, [(A [(I 0), (I 1)]), (A [(I 0), (I 1)])], (.tuple ⟨[(A [(S [48]), (S [49])]), (.bool true)]⟩)),
  .inr Q912]
def T36 : Tab := pushT T35 L36
def B913 : List (Nat × List Value) := [(64000, [(I 500000), (I 0), (I 0), (I 1), (I 1), (I 0), (I 0), (.bool true)])]
def B914 : List (Nat × List Value) := [(64000, [(I 500000), (I 0), (I 0), (I 1), (I 1), (I 0), (I 0), (.bool true)])]
def Q915 : KC := ⟨102, [(I 0), (Z 64000 0)], 1001, 64064, B913, (A [(I 0), (I 0)]), 1011, B914, [], []⟩
def B916 : List (Nat × List Value) := [(64000, [(I 500000), (I 0), (I 0), (I 1), (I 1), (I 0), (I 1000000), (I 0), (I 0), (I 1), (I 1), (I 1000000)])]
def B917 : List (Nat × List Value) := [(64000, [(I 500000), (I 0), (I 0), (I 1), (I 1), (I 0), (I 1000000), (I 0), (I 0), (I 1), (I 1), (I 1000000)])]
def Q918 : KC := ⟨25, [(A [(I 3), (.slice none 0 0), (C 64000 0 2 2)]), (A [(I 0), (I 500000000000)])], 1001, 64064, B916, (A [(I 0), (I 0)]), 1016, B917, [], []⟩
def B919 : List (Nat × List Value) := [(64000, [(I 500000), (I 0), (I 0), (I 1), (I 1), (I 0), (I 1000000), (I 0), (I 0), (I 1), (I 1), (I 1000000)])]
def B920 : List (Nat × List Value) := [(64000, [(I 500000), (I 0), (I 0), (I 1), (I 1), (I 0), (I 1000000), (I 0), (I 0), (I 1), (I 1), (I 1000000)])]
def Q921 : KC := ⟨6, [(A [(I 3), (.slice none 0 0), (C 64000 0 2 2)]), (A [(I 0), (I 500000000000)])], 1001, 64064, B919, (.tuple ⟨[(A [(I 0), (I 0)]), (I 0)]⟩), 1045, B920, [], []⟩
def B922 : List (Nat × List Value) := [(64000, [(I 1000000), (I 2000000), (.int .i64 (.negSucc 999999)), (I 1), (I 1), (I 0)])]
def B923 : List (Nat × List Value) := [(64128, [(I 1000000), (I 2000000), (.int .i64 (.negSucc 999999)), (I 1), (I 1), (I 0)]), (64000, [(I 1000000), (I 2000000), (.int .i64 (.negSucc 999999)), (I 1), (I 1), (I 0)]), (64064, [(I 3), (.slice none 0 0), (C 64000 0 1 1)])]
def Q924 : KC := ⟨8, [(A [(I 3), (.slice none 0 0), (C 64000 0 1 1)])], 1001, 64064, B922, (I 0), 1003, B923, [], []⟩
def B925 : List (Nat × List Value) := [(64000, [(I 500000), (I 0), (I 0), (I 1), (I 1), (I 0), (I 1000000), (I 0), (I 0), (I 1), (I 1), (I 1000000)])]
def B926 : List (Nat × List Value) := [(64000, [(I 500000), (I 0), (I 0), (I 1), (I 1), (I 0), (I 1000000), (I 0), (I 0), (I 1), (I 1), (I 1000000)]), (64256, [(I 1000000), (I 0), (I 0), (I 1), (I 1), (I 1000000)]), (64192, [(I 500000), (I 0), (I 0), (I 1), (I 1), (I 0)]), (64128, [(I 3), (.slice none 0 0), (C 64000 0 2 2)]), (64064, [(I 3), (.slice none 0 0), (C 64000 0 2 2)])]
def Q927 : KC := ⟨7, [(A [(I 3), (.slice none 0 0), (C 64000 0 2 2)])], 1001, 64064, B925, (.tuple ⟨[(I 0), (I 0)]⟩), 1005, B926, [], []⟩
def B928 : List (Nat × List Value) := [(64000, [(.int .u64 (.ofNat 0))])]
def B929 : List (Nat × List Value) := [(64064, [(.int .u64 (.ofNat 1)), (.int .u64 (.ofNat 0))]), (64000, [(.int .u64 (.ofNat 0))])]
def Q930 : KC := ⟨141, [(C 64000 0 0 0), (I 1)], 1001, 64064, B928, (.slice none 0 0), 1002, B929, [], []⟩
def B931 : List (Nat × List Value) := [(64000, [(.int .u64 (.ofNat 0))]), (64064, [(.int .u64 (.ofNat 1))])]
def B932 : List (Nat × List Value) := [(64576, [(.int .u64 (.ofNat 1)), (.int .u64 (.ofNat 0))]), (64064, [(.int .u64 (.ofNat 1))]), (64000, [(.int .u64 (.ofNat 0))])]
def Q933 : KC := ⟨86, [(A [(C 64000 0 0 0), (.bool false), (C 64064 0 1 1)]), (I 1)], 1002, 64128, B931, (A [(.slice none 0 0), (.bool false), (C 64576 0 1 1)]), 1010, B932, [], []⟩
def B934 : List (Nat × List Value) := [(64000, [(.int .u64 (.ofNat 1)), (.int .u64 (.ofNat 0))])]
def B935 : List (Nat × List Value) := [(64000, [(.int .u64 (.ofNat 1)), (.int .u64 (.ofNat 0))])]
def Q936 : KC := ⟨87, [(A [(.slice none 0 0), (.bool false), (C 64000 0 1 1)])], 1001, 64064, B934, (.tuple ⟨[(A [(S [48]), (S [49])]), (I 0)]⟩), 1009, B935, [], []⟩
def B937 : List (Nat × List Value) := [(64000, [(I 1)])]
def B938 : List (Nat × List Value) := [(64000, [(I 1)])]
def Q939 : KC := ⟨84, [(A [(S [48]), (S [49])]), (.func (.func 85) ⟨[]⟩ ⟨[(Z 64000 0)]⟩)], 1001, 64064, B937, (.tuple ⟨[(A [(S [48]), (S [49])]), (I 0)]⟩), 1035, B938, [], []⟩
def B940 : List (Nat × List Value) := [(64000, [(S [48]), (S [49]), (S [48]), (S [49]), (S [49]), (S [49])])]
def B941 : List (Nat × List Value) := [(64000, [(S [48]), (S [49]), (S [48]), (S [49]), (S [49]), (S [49])])]
def Q942 : KC := ⟨49, [(C 64000 0 3 3)], 1001, 64064, B940, (I 0), 1010, B941, [], []⟩
def L37 : List (Sum (FuncId × List Value × Value) KC) := [.inl (46, [(A [(I 500000), (I 0), (I 0), (I 1), (I 1), (I 0), (I 0), (.bool true)]), (A [(S [48]), (S [49])])], (A [(S [48]), (S [49])])),
  .inr Q915,
  .inl (57, [(A [(I 500000), (I 0), (I 0), (I 1), (I 1), (I 0), (I 0), (.bool true)]), (I 0), (I 500000000000)], (A [(I 0), (I 0)])),
  .inr Q918,
  .inr Q921,
  .inl (66, [(A [(I 1000000), (I 2000000), (.int .i64 (.negSucc 999999)), (I 1), (I 1), (I 0)])], (.bool true)),
  .inr Q924,
  .inr Q927,
  .inr Q930,
  .inr Q933,
  .inr Q936,
  .inr Q939,
  .inr Q942]
def T37 : Tab := pushT T36 L37
def B943 : List (Nat × List Value) := [(64000, [(I 500000), (I 0), (I 0), (I 1), (I 1), (I 0), (I 1000000), (I 0), (I 0), (I 1), (I 1), (I 1000000)])]
def B944 : List (Nat × List Value) := [(64000, [(I 500000), (I 0), (I 0), (I 1), (I 1), (I 0), (I 1000000), (I 0), (I 0), (I 1), (I 1), (I 1000000)])]
def Q945 : KC := ⟨17, [(A [(I 3), (.slice none 0 0), (C 64000 0 2 2)]), (A [(S [49]), (S [50])])], 1001, 64064, B943, (A [(S [48]), (S [49])]), 1100, B944, [], []⟩
def B946 : List (Nat × List Value) := [(64000, [(I 500000), (I 0), (I 0), (I 1), (I 1), (I 0), (I 1000000), (I 0), (I 0), (I 1), (I 1), (I 1000000)])]
def B947 : List (Nat × List Value) := [(64000, [(I 500000), (I 0), (I 0), (I 1), (I 1), (I 0), (I 1000000), (I 0), (I 0), (I 1), (I 1), (I 1000000)])]
def Q948 : KC := ⟨5, [(A [(I 3), (.slice none 0 0), (C 64000 0 2 2)]), (A [(S [49]), (S [50])])], 1001, 64064, B946, (.tuple ⟨[(A [(S [48]), (S [49])]), (I 0)]⟩), 1122, B947, [], []⟩
def B949 : List (Nat × List Value) := [(64000, [(I 0), (I 0), (I 0)])]
def B950 : List (Nat × List Value) := [(64000, [(I 0), (I 0), (I 0)])]
def Q951 : KC := ⟨193, [(C 64000 0 3 3)], 1001, 64064, B949, (C 64000 0 0 3), 1001, B950, [], []⟩
def B952 : List (Nat × List Value) := [(64001, [(I 0), (I 100)]), (64064, [(I 0)])]
def B953 : List (Nat × List Value) := [(64128, [(I 0), (I 0), (I 0)]), (64001, [(I 0), (I 100)]), (64064, [(I 0)])]
def Q954 : KC := ⟨207, [(C 64001 0 2 2), (C 64064 0 1 1)], 1002, 64128, B952, (C 64128 0 0 3), 1003, B953, [], []⟩
def B955 : List (Nat × List Value) := [(64001, [(I 1), (I 50)]), (64064, [(I 0), (I 0), (I 0)])]
def B956 : List (Nat × List Value) := [(64321, [(I 1), (I 50)]), (64256, [(I 50)]), (64128, [(I 1)]), (64001, [(I 1), (I 50)]), (64064, [(I 0), (I 0), (I 0)])]
def Q957 : KC := ⟨208, [(C 64001 0 2 2), (C 64064 0 0 3)], 1002, 64128, B955, (C 64321 0 2 2), 1006, B956, [], []⟩
def B958 : List (Nat × List Value) := [(64001, [(I 1), (I 50)]), (64065, [(I 0), (I 100)])]
def B959 : List (Nat × List Value) := [(64128, [(I 0)]), (64769, [(I 1), (I 50)]), (64065, [(I 0), (I 100)]), (64001, [(I 1), (I 50)])]
def Q960 : KC := ⟨190, [(C 64001 0 2 2), (C 64065 0 2 2)], 1002, 64128, B958, (.tuple ⟨[(C 64128 0 0 1), (C 64769 0 2 2)]⟩), 1013, B959, [], []⟩
def B961 : List (Nat × List Value) := [(64001, [(I 1), (I 50)]), (64064, [(I 1)])]
def B962 : List (Nat × List Value) := [(64128, [(I 1), (I 50), (I 0)]), (64001, [(I 1), (I 50)]), (64064, [(I 1)])]
def Q963 : KC := ⟨207, [(C 64001 0 2 2), (C 64064 0 1 1)], 1002, 64128, B961, (C 64128 0 2 3), 1003, B962, [], []⟩
def B964 : List (Nat × List Value) := [(64001, [(I 0), (I 100)]), (64064, [(I 1), (I 50), (I 0)])]
def B965 : List (Nat × List Value) := [(64321, [(I 9999), (I 49)]), (64256, [(I 49)]), (64128, [(I 9999)]), (64001, [(I 0), (I 100)]), (64064, [(I 1), (I 50), (I 0)])]
def Q966 : KC := ⟨208, [(C 64001 0 2 2), (C 64064 0 2 3)], 1002, 64128, B964, (C 64321 0 2 2), 1006, B965, [], []⟩
def B967 : List (Nat × List Value) := [(64001, [(I 0), (I 100)]), (64065, [(I 1), (I 50)])]
def B968 : List (Nat × List Value) := [(64128, [(I 1)]), (64769, [(I 9999), (I 49)]), (64065, [(I 1), (I 50)]), (64001, [(I 0), (I 100)])]
def Q969 : KC := ⟨190, [(C 64001 0 2 2), (C 64065 0 2 2)], 1002, 64128, B967, (.tuple ⟨[(C 64128 0 1 1), (C 64769 0 2 2)]⟩), 1013, B968, [], []⟩
def B970 : List (Nat × List Value) := [(64001, [(I 9999), (I 49)]), (64064, [(I 1)])]
def B971 : List (Nat × List Value) := [(64128, [(I 9999), (I 49), (I 0)]), (64001, [(I 9999), (I 49)]), (64064, [(I 1)])]
def Q972 : KC := ⟨207, [(C 64001 0 2 2), (C 64064 0 1 1)], 1002, 64128, B970, (C 64128 0 2 3), 1003, B971, [], []⟩
def L38 : List (Sum (FuncId × List Value × Value) KC) := [.inl (21, [(A [(S [48]), (S [49])]), (A [(S [48]), (S [49])]), (A [(S [49]), (S [49])])], (.tuple ⟨[(A [(S [48]), (S [49])]), (I 0)]⟩)),
  .inr Q945,
  .inr Q948,
  .inr Q951,
  .inr Q954,
  .inr Q957,
  .inr Q960,
  .inr Q963,
  .inr Q966,
  .inr Q969,
  .inr Q972]
def T38 : Tab := pushT T37 L38
def B973 : List (Nat × List Value) := [(64001, [(I 1), (I 50)]), (64064, [(I 9999), (I 49), (I 0)])]
def B974 : List (Nat × List Value) := [(64321, [(I 2), (I 0)]), (64256, [(I 0)]), (64128, [(I 2)]), (64001, [(I 1), (I 50)]), (64064, [(I 9999), (I 49), (I 0)])]
def Q975 : KC := ⟨208, [(C 64001 0 2 2), (C 64064 0 2 3)], 1002, 64128, B973, (C 64321 0 1 2), 1006, B974, [], []⟩
def B976 : List (Nat × List Value) := [(64001, [(I 1), (I 50)]), (64065, [(I 9999), (I 49)])]
def B977 : List (Nat × List Value) := [(64128, [(I 1)]), (64769, [(I 2), (I 0)]), (64065, [(I 9999), (I 49)]), (64001, [(I 1), (I 50)])]
def Q978 : KC := ⟨190, [(C 64001 0 2 2), (C 64065 0 2 2)], 1002, 64128, B976, (.tuple ⟨[(C 64128 0 1 1), (C 64769 0 1 2)]⟩), 1013, B977, [], []⟩
def B979 : List (Nat × List Value) := [(64001, [(I 9999), (I 49)])]
def B980 : List (Nat × List Value) := [(64064, [(I 9999), (I 24)]), (64001, [(I 9999), (I 49)])]
def Q981 : KC := ⟨205, [(C 64001 0 2 2), (I 2)], 1001, 64064, B979, (.tuple ⟨[(C 64064 0 2 2), (I 1)]⟩), 1002, B980, [], []⟩
def B982 : List (Nat × List Value) := [(64001, [(I 9999), (I 49)]), (64065, [(I 2), (I 0)])]
def B983 : List (Nat × List Value) := [(64192, [(I 1)]), (64128, [(I 9999), (I 24)]), (64001, [(I 9999), (I 49)]), (64065, [(I 2), (I 0)])]
def Q984 : KC := ⟨190, [(C 64001 0 2 2), (C 64065 0 1 2)], 1002, 64128, B982, (.tuple ⟨[(C 64128 0 2 2), (C 64192 0 1 1)]⟩), 1004, B983, [], []⟩
def B985 : List (Nat × List Value) := [(64001, [(I 2), (I 0)])]
def B986 : List (Nat × List Value) := [(64064, [(I 2)]), (64001, [(I 2), (I 0)])]
def Q987 : KC := ⟨205, [(C 64001 0 1 2), (I 1)], 1001, 64064, B985, (.tuple ⟨[(C 64064 0 1 1), (I 0)]⟩), 1002, B986, [], []⟩
def B988 : List (Nat × List Value) := [(64001, [(I 2), (I 0)]), (64064, [(I 1)])]
def B989 : List (Nat × List Value) := [(64192, [(I 0)]), (64128, [(I 2)]), (64001, [(I 2), (I 0)]), (64064, [(I 1)])]
def Q990 : KC := ⟨190, [(C 64001 0 1 2), (C 64064 0 1 1)], 1002, 64128, B988, (.tuple ⟨[(C 64128 0 1 1), (C 64192 0 0 1)]⟩), 1004, B989, [], []⟩
def B991 : List (Nat × List Value) := [(64001, [(I 1), (I 50)]), (64065, [(I 0), (I 100)])]
def B992 : List (Nat × List Value) := [(66496, [(I 1)]), (64065, [(I 0), (I 100)]), (64001, [(I 1), (I 50)])]
def Q993 : KC := ⟨158, [(A [(.bool false), (C 64001 0 2 2)]), (A [(.bool false), (C 64065 0 2 2)])], 1002, 64128, B991, (A [(.bool false), (C 66496 0 1 1)]), 1042, B992, [], []⟩
def B994 : List (Nat × List Value) := [(64001, [(I 1), (I 50)])]
def B995 : List (Nat × List Value) := [(64064, [(I 1), (I 50)]), (64001, [(I 1), (I 50)])]
def Q996 : KC := ⟨205, [(C 64001 0 2 2), (I 1)], 1001, 64064, B994, (.tuple ⟨[(C 64064 0 2 2), (I 0)]⟩), 1002, B995, [], []⟩
def B997 : List (Nat × List Value) := [(64001, [(I 1), (I 50)]), (64064, [(I 1)])]
def B998 : List (Nat × List Value) := [(64192, [(I 0)]), (64128, [(I 1), (I 50)]), (64001, [(I 1), (I 50)]), (64064, [(I 1)])]
def Q999 : KC := ⟨190, [(C 64001 0 2 2), (C 64064 0 1 1)], 1002, 64128, B997, (.tuple ⟨[(C 64128 0 2 2), (C 64192 0 0 1)]⟩), 1004, B998, [], []⟩
def B1000 : List (Nat × List Value) := [(64001, [(I 1), (I 50)]), (64064, [(I 1)])]
def B1001 : List (Nat × List Value) := [(64448, [(I 0)]), (64384, [(I 1), (I 50)]), (64001, [(I 1), (I 50)]), (64064, [(I 1)])]
def Q1002 : KC := ⟨159, [(A [(.bool false), (C 64001 0 2 2)]), (A [(.bool false), (C 64064 0 1 1)])], 1002, 64128, B1000, (.tuple ⟨[(A [(.bool false), (C 64384 0 2 2)]), (A [(.bool false), (C 64448 0 0 1)])]⟩), 1012, B1001, [], []⟩
def B1003 : List (Nat × List Value) := [(64001, [(I 0), (I 100)])]
def B1004 : List (Nat × List Value) := [(64064, [(I 0), (I 100)]), (64001, [(I 0), (I 100)])]
def Q1005 : KC := ⟨205, [(C 64001 0 2 2), (I 1)], 1001, 64064, B1003, (.tuple ⟨[(C 64064 0 2 2), (I 0)]⟩), 1002, B1004, [], []⟩
def B1006 : List (Nat × List Value) := [(64001, [(I 0), (I 100)]), (64064, [(I 1)])]
def B1007 : List (Nat × List Value) := [(64192, [(I 0)]), (64128, [(I 0), (I 100)]), (64001, [(I 0), (I 100)]), (64064, [(I 1)])]
def Q1008 : KC := ⟨190, [(C 64001 0 2 2), (C 64064 0 1 1)], 1002, 64128, B1006, (.tuple ⟨[(C 64128 0 2 2), (C 64192 0 0 1)]⟩), 1004, B1007, [], []⟩
def B1009 : List (Nat × List Value) := [(64001, [(I 0), (I 100)]), (64064, [(I 1)])]
def B1010 : List (Nat × List Value) := [(64448, [(I 0)]), (64384, [(I 0), (I 100)]), (64001, [(I 0), (I 100)]), (64064, [(I 1)])]
def Q1011 : KC := ⟨159, [(A [(.bool false), (C 64001 0 2 2)]), (A [(.bool false), (C 64064 0 1 1)])], 1002, 64128, B1009, (.tuple ⟨[(A [(.bool false), (C 64384 0 2 2)]), (A [(.bool false), (C 64448 0 0 1)])]⟩), 1012, B1010, [], []⟩
def B1012 : List (Nat × List Value) := [(64000, [(I 1), (I 50)])]
def B1013 : List (Nat × List Value) := [(64064, [(.bool false), (C 64000 0 2 2)]), (64000, [(I 1), (I 50)])]
def Q1014 : KC := ⟨156, [(A [(.bool false), (C 64000 0 2 2)])], 1001, 64064, B1012, (S [53, 48, 48, 48, 48, 49]), 1004, B1013, [], []⟩
def B1015 : List (Nat × List Value) := [(64000, [(I 0), (I 100)])]
def B1016 : List (Nat × List Value) := [(64064, [(.bool false), (C 64000 0 2 2)]), (64000, [(I 0), (I 100)])]
def Q1017 : KC := ⟨156, [(A [(.bool false), (C 64000 0 2 2)])], 1001, 64064, B1015, (S [49, 48, 48, 48, 48, 48, 48]), 1004, B1016, [], []⟩
def B1018 : List (Nat × List Value) := [(64000, [(I 1), (I 50)]), (64064, [(I 0), (I 100)])]
def B1019 : List (Nat × List Value) := [(64064, [(I 0), (I 100)]), (64000, [(I 1), (I 50)])]
def Q1020 : KC := ⟨67, [(A [(.bool false), (C 64000 0 2 2), (.bool false), (C 64064 0 2 2)])], 1002, 64128, B1018, (.tuple ⟨[(A [(S [53, 48, 48, 48, 48, 49]), (S [49, 48, 48, 48, 48, 48, 48])]), (I 0)]⟩), 1012, B1019, [], []⟩
def B1021 : List (Nat × List Value) := [(64001, [(I 1)]), (64065, [(I 1)])]
def B1022 : List (Nat × List Value) := [(64192, [(I 0)]), (64128, [(I 1)]), (64001, [(I 1)]), (64065, [(I 1)])]
def Q1023 : KC := ⟨190, [(C 64001 0 1 1), (C 64065 0 1 1)], 1002, 64128, B1021, (.tuple ⟨[(C 64128 0 1 1), (C 64192 0 0 1)]⟩), 1004, B1022, [], []⟩
def L39 : List (Sum (FuncId × List Value × Value) KC) := [.inr Q975,
  .inr Q978,
  .inr Q981,
  .inr Q984,
  .inr Q987,
  .inr Q990,
  .inr Q993,
  .inr Q996,
  .inr Q999,
  .inr Q1002,
  .inr Q1005,
  .inr Q1008,
  .inr Q1011,
  .inr Q1014,
  .inr Q1017,
  .inr Q1020,
  .inl (34, [(I 500001), (I 1000000)], (.tuple ⟨[(A [(S [53, 48, 48, 48, 48, 49]), (S [49, 48, 48, 48, 48, 48, 48])]), (I 0)]⟩)),
  .inr Q1023]
def T39 : Tab := pushT T38 L39
def B1024 : List (Nat × List Value) := [(64001, [(I 1)]), (64065, [(I 1)])]
def B1025 : List (Nat × List Value) := [(64448, [(I 0)]), (64384, [(I 1)]), (64001, [(I 1)]), (64065, [(I 1)])]
def Q1026 : KC := ⟨159, [(A [(.bool false), (C 64001 0 1 1)]), (A [(.bool false), (C 64065 0 1 1)])], 1002, 64128, B1024, (.tuple ⟨[(A [(.bool false), (C 64384 0 1 1)]), (A [(.bool false), (C 64448 0 0 1)])]⟩), 1012, B1025, [], []⟩
def B1027 : List (Nat × List Value) := [(64001, [(I 1)]), (64065, [(I 1)])]
def B1028 : List (Nat × List Value) := [(65728, [(I 1)]), (64065, [(I 1)]), (64960, [(I 1)]), (64001, [(I 1)])]
def Q1029 : KC := ⟨106, [(A [(.bool false), (C 64001 0 1 1)]), (A [(.bool false), (C 64065 0 1 1)])], 1002, 64128, B1027, (A [(.bool false), (C 64960 0 1 1), (.bool false), (C 65728 0 1 1)]), 1035, B1028, [], []⟩
def B1030 : List (Nat × List Value) := [(64000, [(I 1)]), (64064, [(I 1)])]
def B1031 : List (Nat × List Value) := [(64064, [(I 1)]), (64000, [(I 1)])]
def Q1032 : KC := ⟨67, [(A [(.bool false), (C 64000 0 1 1), (.bool false), (C 64064 0 1 1)])], 1002, 64128, B1030, (.tuple ⟨[(A [(S [49]), (S [49])]), (I 0)]⟩), 1010, B1031, [], []⟩
def B1033 : List (Nat × List Value) := [(64000, [(S [53, 48, 48, 48, 48, 49]), (S [49, 48, 48, 48, 48, 48, 48]), (S [48]), (S [49]), (S [49]), (S [49])])]
def B1034 : List (Nat × List Value) := [(64000, [(S [53, 48, 48, 48, 48, 49]), (S [49, 48, 48, 48, 48, 48, 48]), (S [48]), (S [49]), (S [49]), (S [49])])]
def Q1035 : KC := ⟨49, [(C 64000 0 3 3)], 1001, 64064, B1033, (I 0), 1010, B1034, [], []⟩
def L40 : List (Sum (FuncId × List Value × Value) KC) := [.inr Q1026,
  .inr Q1029,
  .inr Q1032,
  .inl (34, [(I 1), (I 1)], (.tuple ⟨[(A [(S [49]), (S [49])]), (I 0)]⟩)),
  .inl (161, [(S [53, 48, 48, 48, 48, 49])], (.tuple ⟨[(I 500001), (.bool true)]⟩)),
  .inl (110, [(.int .u64 (.ofNat 500001)), (.int .u64 (.ofNat 1000000))], (.int .u64 (.ofNat 1))),
  .inl (108, [(A [(S [53, 48, 48, 48, 48, 49]), (S [49, 48, 48, 48, 48, 48, 48])])], (.tuple ⟨[(A [(I 500001), (I 1000000)]), (.bool true)]⟩)),
  .inr Q1035,
  .inl (143, [(.int .u64 (.ofNat 500001)), (.int .u64 (.ofNat 1))], (.tuple ⟨[(.int .u64 (.ofNat 0)), (.int .u64 (.ofNat 500001))]⟩)),
  .inl (143, [(.int .u64 (.ofNat 0)), (.int .u64 (.ofNat 1000000))], (.tuple ⟨[(.int .u64 (.ofNat 0)), (.int .u64 (.ofNat 0))]⟩)),
  .inl (91, [(A [(I 500001), (I 1000000)]), (A [(I 0), (I 1)])], (.tuple ⟨[(I 1), (.bool true)]⟩)),
  .inl (50, [(A [(S [53, 48, 48, 48, 48, 49]), (S [49, 48, 48, 48, 48, 48, 48])]), (A [(S [48]), (S [49])])], (.tuple ⟨[(I 1), (I 0)]⟩)),
  .inl (143, [(.int .u64 (.ofNat 1)), (.int .u64 (.ofNat 1000000))], (.tuple ⟨[(.int .u64 (.ofNat 0)), (.int .u64 (.ofNat 1000000))]⟩)),
  .inl (91, [(A [(I 500001), (I 1000000)]), (A [(I 1), (I 1)])], (.tuple ⟨[(.int .i64 (.negSucc 0)), (.bool true)]⟩)),
  .inl (50, [(A [(S [53, 48, 48, 48, 48, 49]), (S [49, 48, 48, 48, 48, 48, 48])]), (A [(S [49]), (S [49])])], (.tuple ⟨[(.int .i64 (.negSucc 0)), (I 0)]⟩)),
  .inl (21, [(A [(S [53, 48, 48, 48, 48, 49]), (S [49, 48, 48, 48, 48, 48, 48])]), (A [(S [48]), (S [49])]), (A [(S [49]), (S [49])])], (.tuple ⟨[(A [(S [53, 48, 48, 48, 48, 49]), (S [49, 48, 48, 48, 48, 48, 48])]), (I 0)]⟩)),
  .inl (143, [(.int .u64 (.ofNat 500001)), (.int .u64 (.ofNat 2))], (.tuple ⟨[(.int .u64 (.ofNat 0)), (.int .u64 (.ofNat 1000002))]⟩)),
  .inl (91, [(A [(I 500001), (I 1000000)]), (A [(I 1), (I 2)])], (.tuple ⟨[(I 1), (.bool true)]⟩)),
  .inl (50, [(A [(S [53, 48, 48, 48, 48, 49]), (S [49, 48, 48, 48, 48, 48, 48])]), (A [(S [49]), (S [50])])], (.tuple ⟨[(I 1), (I 0)]⟩))]
def T40 : Tab := pushT T39 L40
def B1036 : List (Nat × List Value) := [(64000, [(.func (.func 72) ⟨[]⟩ ⟨[]⟩)])]
def B1037 : List (Nat × List Value) := [(64000, [(.func (.func 72) ⟨[]⟩ ⟨[]⟩)])]
def Q1038 : KC := ⟨69, [(A [(S [48]), (S [49])]), (A [(S [53, 48, 48, 48, 48, 49]), (S [49, 48, 48, 48, 48, 48, 48])]), (.func (.func 70) ⟨[]⟩ ⟨[]⟩), (.func (.func 114) ⟨[]⟩ ⟨[(Z 64000 0)]⟩)], 1001, 64064, B1036, (.tuple ⟨[(A [(S [48]), (S [49])]), (I 0)]⟩), 1008, B1037, [], []⟩
def B1039 : List (Nat × List Value) := [(64000, [(.func (.func 80) ⟨[]⟩ ⟨[]⟩)])]
def B1040 : List (Nat × List Value) := [(64000, [(.func (.func 80) ⟨[]⟩ ⟨[]⟩)])]
def Q1041 : KC := ⟨69, [(A [(S [48]), (S [49])]), (A [(S [49]), (S [49])]), (.func (.func 79) ⟨[]⟩ ⟨[]⟩), (.func (.func 114) ⟨[]⟩ ⟨[(Z 64000 0)]⟩)], 1001, 64064, B1039, (.tuple ⟨[(A [(S [49]), (S [49])]), (I 0)]⟩), 1008, B1040, [], []⟩
def B1042 : List (Nat × List Value) := [(64000, [(S [49]), (S [49]), (S [48]), (S [49]), (S [49]), (S [49])])]
def B1043 : List (Nat × List Value) := [(64000, [(S [49]), (S [49]), (S [48]), (S [49]), (S [49]), (S [49])])]
def Q1044 : KC := ⟨49, [(C 64000 0 3 3)], 1001, 64064, B1042, (I 0), 1010, B1043, [], []⟩
def L41 : List (Sum (FuncId × List Value × Value) KC) := [.inl (110, [(.int .u64 (.ofNat 500001)), (.int .u64 (.ofNat 1))], (.int .u64 (.ofNat 1))),
  .inl (143, [(.int .u64 (.ofNat 0)), (.int .u64 (.ofNat 500001))], (.tuple ⟨[(.int .u64 (.ofNat 0)), (.int .u64 (.ofNat 0))]⟩)),
  .inl (112, [(I 0), (I 500001)], (.tuple ⟨[(I 0), (.bool true)]⟩)),
  .inl (70, [(A [(I 0), (I 1)]), (A [(I 500001), (I 1000000)])], (.tuple ⟨[(A [(S [48]), (S [49])]), (.bool true)]⟩)),
  .inr Q1038,
  .inl (46, [(A [(I 1000000), (I 0), (I 0), (I 1), (I 1), (I 1000000), (I 500000), (.bool false)]), (A [(S [53, 48, 48, 48, 48, 49]), (S [49, 48, 48, 48, 48, 48, 48])])], (A [(S [48]), (S [49])])),
  .inl (79, [(A [(I 0), (I 1)]), (A [(I 1), (I 1)])], (.tuple ⟨[(A [(S [49]), (S [49])]), (.bool true)]⟩)),
  .inr Q1041,
  .inr Q1044,
  .inl (91, [(A [(I 1), (I 1)]), (A [(I 0), (I 1)])], (.tuple ⟨[(I 1), (.bool true)]⟩)),
  .inl (50, [(A [(S [49]), (S [49])]), (A [(S [48]), (S [49])])], (.tuple ⟨[(I 1), (I 0)]⟩)),
  .inl (21, [(A [(S [49]), (S [49])]), (A [(S [48]), (S [49])]), (A [(S [49]), (S [49])])], (.tuple ⟨[(A [(S [49]), (S [49])]), (I 0)]⟩))]
def T41 : Tab := pushT T40 L41
def B1045 : List (Nat × List Value) := [(64000, [(I 500000), (I 0), (I 0), (I 1), (I 1), (I 0), (I 1000000), (I 0), (I 0), (I 1), (I 1), (I 1000000)])]
def B1046 : List (Nat × List Value) := [(64000, [(I 500000), (I 0), (I 0), (I 1), (I 1), (I 0), (I 1000000), (I 0), (I 0), (I 1), (I 1), (I 1000000)])]
def Q1047 : KC := ⟨17, [(A [(I 3), (.slice none 0 0), (C 64000 0 2 2)]), (A [(S [53, 48, 48, 48, 48, 49]), (S [49, 48, 48, 48, 48, 48, 48])])], 1001, 64064, B1045, (A [(S [49]), (S [49])]), 1109, B1046, [], []⟩
def B1048 : List (Nat × List Value) := [(64000, [(I 500000), (I 0), (I 0), (I 1), (I 1), (I 0), (I 1000000), (I 0), (I 0), (I 1), (I 1), (I 1000000)])]
def B1049 : List (Nat × List Value) := [(64000, [(I 500000), (I 0), (I 0), (I 1), (I 1), (I 0), (I 1000000), (I 0), (I 0), (I 1), (I 1), (I 1000000)])]
def Q1050 : KC := ⟨5, [(A [(I 3), (.slice none 0 0), (C 64000 0 2 2)]), (A [(S [53, 48, 48, 48, 48, 49]), (S [49, 48, 48, 48, 48, 48, 48])])], 1001, 64064, B1048, (.tuple ⟨[(A [(S [49]), (S [49])]), (I 0)]⟩), 1131, B1049, [], []⟩
def B1051 : List (Nat × List Value) := [(64000, [(.func (.func 72) ⟨[]⟩ ⟨[]⟩)])]
def B1052 : List (Nat × List Value) := [(64000, [(.func (.func 72) ⟨[]⟩ ⟨[]⟩)])]
def Q1053 : KC := ⟨69, [(A [(S [50, 48, 48, 48, 48, 48, 48]), (S [49])]), (A [(S [49]), (S [52])]), (.func (.func 70) ⟨[]⟩ ⟨[]⟩), (.func (.func 114) ⟨[]⟩ ⟨[(Z 64000 0)]⟩)], 1001, 64064, B1051, (.tuple ⟨[(A [(S [53, 48, 48, 48, 48, 48]), (S [49])]), (I 0)]⟩), 1008, B1052, [], []⟩
def B1054 : List (Nat × List Value) := [(64000, [(.func (.func 80) ⟨[]⟩ ⟨[]⟩)])]
def B1055 : List (Nat × List Value) := [(64000, [(.func (.func 80) ⟨[]⟩ ⟨[]⟩)])]
def Q1056 : KC := ⟨69, [(A [(S [53, 48, 48, 48, 48, 48]), (S [49])]), (A [(S [45, 49, 48, 48, 48, 48, 48, 48]), (S [49])]), (.func (.func 79) ⟨[]⟩ ⟨[]⟩), (.func (.func 114) ⟨[]⟩ ⟨[(Z 64000 0)]⟩)], 1001, 64064, B1054, (.tuple ⟨[(A [(S [45, 53, 48, 48, 48, 48, 48]), (S [49])]), (I 0)]⟩), 1008, B1055, [], []⟩
def B1057 : List (Nat × List Value) := [(64000, [(S [45, 53, 48, 48, 48, 48, 48]), (S [49]), (S [49, 48, 48, 48, 48, 48, 48]), (S [49])])]
def B1058 : List (Nat × List Value) := [(64256, [(S [49, 48, 48, 48, 48, 48, 48]), (S [49])]), (64064, [(S [45, 53, 48, 48, 48, 48, 48]), (S [49])]), (64000, [(S [45, 53, 48, 48, 48, 48, 48]), (S [49]), (S [49, 48, 48, 48, 48, 48, 48]), (S [49])])]
def Q1059 : KC := ⟨49, [(C 64000 0 2 2)], 1001, 64064, B1057, (I 0), 1007, B1058, [], []⟩
def B1060 : List (Nat × List Value) := [(64000, [(.func (.func 82) ⟨[]⟩ ⟨[]⟩)])]
def B1061 : List (Nat × List Value) := [(64000, [(.func (.func 82) ⟨[]⟩ ⟨[]⟩)])]
def Q1062 : KC := ⟨69, [(A [(S [45, 53, 48, 48, 48, 48, 48]), (S [49])]), (A [(S [49, 48, 48, 48, 48, 48, 48]), (S [49])]), (.func (.func 81) ⟨[]⟩ ⟨[]⟩), (.func (.func 114) ⟨[]⟩ ⟨[(Z 64000 0)]⟩)], 1001, 64064, B1060, (.tuple ⟨[(A [(S [45, 49]), (S [50])]), (I 0)]⟩), 1011, B1061, [], []⟩
def L42 : List (Sum (FuncId × List Value × Value) KC) := [.inr Q1047,
  .inr Q1050,
  .inl (70, [(A [(I 2000000), (I 1)]), (A [(I 1), (I 4)])], (.tuple ⟨[(A [(S [53, 48, 48, 48, 48, 48]), (S [49])]), (.bool true)]⟩)),
  .inr Q1053,
  .inl (164, [(.int .i64 (.negSucc 499999))], (S [45, 53, 48, 48, 48, 48, 48])),
  .inl (113, [(A [(.int .i64 (.negSucc 499999)), (I 1)])], (A [(S [45, 53, 48, 48, 48, 48, 48]), (S [49])])),
  .inl (79, [(A [(I 500000), (I 1)]), (A [(.int .i64 (.negSucc 999999)), (I 1)])], (.tuple ⟨[(A [(S [45, 53, 48, 48, 48, 48, 48]), (S [49])]), (.bool true)]⟩)),
  .inr Q1056,
  .inl (161, [(S [45, 53, 48, 48, 48, 48, 48])], (.tuple ⟨[(.int .i64 (.negSucc 499999)), (.bool true)]⟩)),
  .inl (108, [(A [(S [45, 53, 48, 48, 48, 48, 48]), (S [49])])], (.tuple ⟨[(A [(.int .i64 (.negSucc 499999)), (I 1)]), (.bool true)]⟩)),
  .inr Q1059,
  .inl (211, [(.int .i64 (.negSucc 0)), (I 10)], (S [45, 49])),
  .inl (113, [(A [(.int .i64 (.negSucc 0)), (I 2)])], (A [(S [45, 49]), (S [50])])),
  .inl (70, [(A [(.int .i64 (.negSucc 499999)), (I 1)]), (A [(I 1), (I 1000000)])], (.tuple ⟨[(A [(S [45, 49]), (S [50])]), (.bool true)]⟩)),
  .inr Q1062]
def T42 : Tab := pushT T41 L42
def B1063 : List (Nat × List Value) := [(64000, [(I 1000000), (I 2000000), (.int .i64 (.negSucc 999999)), (I 1), (I 1), (I 0)])]
def B1064 : List (Nat × List Value) := [(64000, [(I 1000000), (I 2000000), (.int .i64 (.negSucc 999999)), (I 1), (I 1), (I 0)])]
def Q1065 : KC := ⟨17, [(A [(I 3), (.slice none 0 0), (C 64000 0 1 1)]), (A [(S [49]), (S [52])])], 1001, 64064, B1063, (A [(S [48]), (S [49])]), 1094, B1064, [], []⟩
def B1066 : List (Nat × List Value) := [(64000, [(I 1000000), (I 2000000), (.int .i64 (.negSucc 999999)), (I 1), (I 1), (I 0)])]
def B1067 : List (Nat × List Value) := [(64000, [(I 1000000), (I 2000000), (.int .i64 (.negSucc 999999)), (I 1), (I 1), (I 0)])]
def Q1068 : KC := ⟨5, [(A [(I 3), (.slice none 0 0), (C 64000 0 1 1)]), (A [(S [49]), (S [52])])], 1001, 64064, B1066, (.tuple ⟨[(A [(S [48]), (S [49])]), (I 0)]⟩), 1115, B1067, [], []⟩
def L43 : List (Sum (FuncId × List Value × Value) KC) := [.inl (46, [(A [(I 1000000), (I 2000000), (.int .i64 (.negSucc 999999)), (I 1), (I 1), (I 0), (I 0), (.bool true)]), (A [(S [49]), (S [52])])], (A [(S [45, 49]), (S [50])])),
  .inl (161, [(S [45, 49])], (.tuple ⟨[(.int .i64 (.negSucc 0)), (.bool true)]⟩)),
  .inl (108, [(A [(S [45, 49]), (S [50])])], (.tuple ⟨[(A [(.int .i64 (.negSucc 0)), (I 2)]), (.bool true)]⟩)),
  .inl (90, [(A [(S [45, 49]), (S [50])]), (A [(S [48]), (S [49])]), (.func (.func 91) ⟨[]⟩ ⟨[]⟩), (.func (.func 92) ⟨[]⟩ ⟨[]⟩)], (.tuple ⟨[(.int .i64 (.negSucc 0)), (I 0)]⟩)),
  .inl (45, [(A [(S [45, 49]), (S [50])]), (A [(S [48]), (S [49])])], (.tuple ⟨[(A [(S [48]), (S [49])]), (I 0)]⟩)),
  .inr Q1065,
  .inr Q1068,
  .inl (46, [(A [(I 1000000), (I 2000000), (.int .i64 (.negSucc 999999)), (I 1), (I 1), (I 0), (I 0), (.bool true)]), (A [(S [51]), (S [52])])], (A [(S [49]), (S [50])]))]
def T43 : Tab := pushT T42 L43
def B1069 : List (Nat × List Value) := [(64000, [(I 1000000), (I 2000000), (.int .i64 (.negSucc 999999)), (I 1), (I 1), (I 0)])]
def B1070 : List (Nat × List Value) := [(64000, [(I 1000000), (I 2000000), (.int .i64 (.negSucc 999999)), (I 1), (I 1), (I 0)])]
def Q1071 : KC := ⟨17, [(A [(I 3), (.slice none 0 0), (C 64000 0 1 1)]), (A [(S [51]), (S [52])])], 1001, 64064, B1069, (A [(S [49]), (S [50])]), 1095, B1070, [], []⟩
def B1072 : List (Nat × List Value) := [(64000, [(I 1000000), (I 2000000), (.int .i64 (.negSucc 999999)), (I 1), (I 1), (I 0)])]
def B1073 : List (Nat × List Value) := [(64000, [(I 1000000), (I 2000000), (.int .i64 (.negSucc 999999)), (I 1), (I 1), (I 0)])]
def Q1074 : KC := ⟨5, [(A [(I 3), (.slice none 0 0), (C 64000 0 1 1)]), (A [(S [51]), (S [52])])], 1001, 64064, B1072, (.tuple ⟨[(A [(S [49]), (S [50])]), (I 0)]⟩), 1116, B1073, [], []⟩
def B1075 : List (Nat × List Value) := [(64000, [(.int .u64 (.ofNat 4))])]
def B1076 : List (Nat × List Value) := [(64064, [(.int .u64 (.ofNat 4))]), (64000, [(.int .u64 (.ofNat 4))])]
def Q1077 : KC := ⟨175, [(C 64000 0 1 1), (.int .u64 (.ofNat 1))], 1001, 64064, B1075, (.tuple ⟨[(C 64064 0 1 1), (.int .u64 (.ofNat 0))]⟩), 1002, B1076, [], []⟩
def B1078 : List (Nat × List Value) := [(64000, [(.int .u64 (.ofNat 1))]), (64064, [(.int .u64 (.ofNat 4))])]
def B1079 : List (Nat × List Value) := [(64192, [(.int .u64 (.ofNat 1)), (.int .u64 (.ofNat 0))]), (64128, [(.int .u64 (.ofNat 4))]), (64064, [(.int .u64 (.ofNat 4))]), (64000, [(.int .u64 (.ofNat 1))])]
def Q1080 : KC := ⟨133, [(C 64000 0 1 1), (C 64064 0 1 1)], 1002, 64128, B1078, (C 64192 0 1 1), 1004, B1079, [], []⟩
def B1081 : List (Nat × List Value) := [(64000, [(.int .u64 (.ofNat 1)), (.int .u64 (.ofNat 0))]), (64064, [(.int .u64 (.ofNat 4))])]
def B1082 : List (Nat × List Value) := [(64128, [(.int .u64 (.ofNat 4)), (.int .u64 (.ofNat 0))]), (64000, [(.int .u64 (.ofNat 1)), (.int .u64 (.ofNat 0))]), (64064, [(.int .u64 (.ofNat 4))])]
def Q1083 : KC := ⟨116, [(C 64000 0 1 1), (C 64064 0 1 1)], 1002, 64128, B1081, (C 64128 0 1 1), 1003, B1082, [], []⟩
def B1084 : List (Nat × List Value) := [(64000, [(.int .u64 (.ofNat 4))])]
def B1085 : List (Nat × List Value) := [(64128, [(.int .u64 (.ofNat 4)), (.int .u64 (.ofNat 0))]), (64064, [(.int .u64 (.ofNat 1)), (.int .u64 (.ofNat 0))]), (64000, [(.int .u64 (.ofNat 4))])]
def Q1086 : KC := ⟨141, [(C 64000 0 1 1), (I 1)], 1001, 64064, B1084, (C 64128 0 1 1), 1003, B1085, [], []⟩
def B1087 : List (Nat × List Value) := [(64000, [(.int .u64 (.ofNat 1))]), (64064, [(.int .u64 (.ofNat 4))])]
def B1088 : List (Nat × List Value) := [(64640, [(.int .u64 (.ofNat 4)), (.int .u64 (.ofNat 0))]), (64064, [(.int .u64 (.ofNat 4))]), (64448, [(.int .u64 (.ofNat 1)), (.int .u64 (.ofNat 0))]), (64000, [(.int .u64 (.ofNat 1))])]
def Q1089 : KC := ⟨86, [(A [(C 64000 0 1 1), (.bool false), (C 64064 0 1 1)]), (I 1)], 1002, 64128, B1087, (A [(C 64448 0 1 1), (.bool false), (C 64640 0 1 1)]), 1011, B1088, [], []⟩
def L44 : List (Sum (FuncId × List Value × Value) KC) := [.inr Q1071,
  .inr Q1074,
  .inl (91, [(A [(I 1), (I 4)]), (A [(I 1), (I 2)])], (.tuple ⟨[(.int .i64 (.negSucc 0)), (.bool true)]⟩)),
  .inl (50, [(A [(S [49]), (S [52])]), (A [(S [49]), (S [50])])], (.tuple ⟨[(.int .i64 (.negSucc 0)), (I 0)]⟩)),
  .inl (46, [(A [(I 500000), (I 1000000), (I 0), (I 1), (I 1), (I 0), (I 0), (.bool true)]), (A [(S [49]), (S [52])])], (A [(S [49]), (S [52])])),
  .inr Q1077,
  .inr Q1080,
  .inr Q1083,
  .inr Q1086,
  .inr Q1089]
def T44 : Tab := pushT T43 L44
def B1090 : List (Nat × List Value) := [(64000, [(I 1)])]
def B1091 : List (Nat × List Value) := [(64000, [(I 1)])]
def Q1092 : KC := ⟨84, [(A [(S [49]), (S [52])]), (.func (.func 85) ⟨[]⟩ ⟨[(Z 64000 0)]⟩)], 1001, 64064, B1090, (.tuple ⟨[(A [(S [49]), (S [52])]), (I 0)]⟩), 1041, B1091, [], []⟩
def B1093 : List (Nat × List Value) := [(64000, [(.func (.func 80) ⟨[]⟩ ⟨[]⟩)])]
def B1094 : List (Nat × List Value) := [(64000, [(.func (.func 80) ⟨[]⟩ ⟨[]⟩)])]
def Q1095 : KC := ⟨69, [(A [(S [49]), (S [52])]), (A [(S [48]), (S [49])]), (.func (.func 79) ⟨[]⟩ ⟨[]⟩), (.func (.func 114) ⟨[]⟩ ⟨[(Z 64000 0)]⟩)], 1001, 64064, B1093, (.tuple ⟨[(A [(S [49]), (S [52])]), (I 0)]⟩), 1008, B1094, [], []⟩
def B1096 : List (Nat × List Value) := [(64000, [(I 500000), (I 1000000), (I 0), (I 1), (I 1), (I 0), (I 1000000), (I 2000000), (.int .i64 (.negSucc 999999)), (I 2), (I 1), (I 500000)])]
def B1097 : List (Nat × List Value) := [(64000, [(I 500000), (I 1000000), (I 0), (I 1), (I 1), (I 0), (I 1000000), (I 2000000), (.int .i64 (.negSucc 999999)), (I 2), (I 1), (I 500000)])]
def Q1098 : KC := ⟨17, [(A [(I 3), (.slice none 0 0), (C 64000 0 2 2)]), (A [(S [49]), (S [52])])], 1001, 64064, B1096, (A [(S [49]), (S [52])]), 1106, B1097, [], []⟩
def B1099 : List (Nat × List Value) := [(64000, [(I 500000), (I 1000000), (I 0), (I 1), (I 1), (I 0), (I 1000000), (I 2000000), (.int .i64 (.negSucc 999999)), (I 2), (I 1), (I 500000)])]
def B1100 : List (Nat × List Value) := [(64000, [(I 500000), (I 1000000), (I 0), (I 1), (I 1), (I 0), (I 1000000), (I 2000000), (.int .i64 (.negSucc 999999)), (I 2), (I 1), (I 500000)])]
def Q1101 : KC := ⟨5, [(A [(I 3), (.slice none 0 0), (C 64000 0 2 2)]), (A [(S [49]), (S [52])])], 1001, 64064, B1099, (.tuple ⟨[(A [(S [49]), (S [52])]), (I 0)]⟩), 1128, B1100, [], []⟩
def B1102 : List (Nat × List Value) := [(64000, [(.func (.func 72) ⟨[]⟩ ⟨[]⟩)])]
def B1103 : List (Nat × List Value) := [(64000, [(.func (.func 72) ⟨[]⟩ ⟨[]⟩)])]
def Q1104 : KC := ⟨69, [(A [(S [50, 48, 48, 48, 48, 48, 48]), (S [49])]), (A [(S [49]), (S [49])]), (.func (.func 70) ⟨[]⟩ ⟨[]⟩), (.func (.func 114) ⟨[]⟩ ⟨[(Z 64000 0)]⟩)], 1001, 64064, B1102, (.tuple ⟨[(A [(S [50, 48, 48, 48, 48, 48, 48]), (S [49])]), (I 0)]⟩), 1008, B1103, [], []⟩
def L45 : List (Sum (FuncId × List Value × Value) KC) := [.inr Q1092,
  .inl (110, [(.int .u64 (.ofNat 4)), (.int .u64 (.ofNat 1))], (.int .u64 (.ofNat 1))),
  .inl (143, [(.int .u64 (.ofNat 4)), (.int .u64 (.ofNat 1))], (.tuple ⟨[(.int .u64 (.ofNat 0)), (.int .u64 (.ofNat 4))]⟩)),
  .inl (112, [(I 4), (I 1)], (.tuple ⟨[(I 4), (.bool true)]⟩)),
  .inl (79, [(A [(I 1), (I 4)]), (A [(I 0), (I 1)])], (.tuple ⟨[(A [(S [49]), (S [52])]), (.bool true)]⟩)),
  .inr Q1095,
  .inr Q1098,
  .inr Q1101,
  .inl (91, [(A [(I 1), (I 1)]), (A [(I 1), (I 2)])], (.tuple ⟨[(I 1), (.bool true)]⟩)),
  .inl (50, [(A [(S [49]), (S [49])]), (A [(S [49]), (S [50])])], (.tuple ⟨[(I 1), (I 0)]⟩)),
  .inl (143, [(.int .u64 (.ofNat 2000000)), (.int .u64 (.ofNat 1))], (.tuple ⟨[(.int .u64 (.ofNat 0)), (.int .u64 (.ofNat 2000000))]⟩)),
  .inl (112, [(I 2000000), (I 1)], (.tuple ⟨[(I 2000000), (.bool true)]⟩)),
  .inl (70, [(A [(I 2000000), (I 1)]), (A [(I 1), (I 1)])], (.tuple ⟨[(A [(S [50, 48, 48, 48, 48, 48, 48]), (S [49])]), (.bool true)]⟩)),
  .inr Q1104]
def T45 : Tab := pushT T44 L45
def B1105 : List (Nat × List Value) := [(64000, [(.func (.func 80) ⟨[]⟩ ⟨[]⟩)])]
def B1106 : List (Nat × List Value) := [(64000, [(.func (.func 80) ⟨[]⟩ ⟨[]⟩)])]
def Q1107 : KC := ⟨69, [(A [(S [50, 48, 48, 48, 48, 48, 48]), (S [49])]), (A [(S [45, 49, 48, 48, 48, 48, 48, 48]), (S [49])]), (.func (.func 79) ⟨[]⟩ ⟨[]⟩), (.func (.func 114) ⟨[]⟩ ⟨[(Z 64000 0)]⟩)], 1001, 64064, B1105, (.tuple ⟨[(A [(S [49, 48, 48, 48, 48, 48, 48]), (S [49])]), (I 0)]⟩), 1008, B1106, [], []⟩
def B1108 : List (Nat × List Value) := [(64000, [(S [49, 48, 48, 48, 48, 48, 48]), (S [49]), (S [49, 48, 48, 48, 48, 48, 48]), (S [49])])]
def B1109 : List (Nat × List Value) := [(64256, [(S [49, 48, 48, 48, 48, 48, 48]), (S [49])]), (64064, [(S [49, 48, 48, 48, 48, 48, 48]), (S [49])]), (64000, [(S [49, 48, 48, 48, 48, 48, 48]), (S [49]), (S [49, 48, 48, 48, 48, 48, 48]), (S [49])])]
def Q1110 : KC := ⟨49, [(C 64000 0 2 2)], 1001, 64064, B1108, (I 0), 1007, B1109, [], []⟩
def B1111 : List (Nat × List Value) := [(64000, [(.func (.func 82) ⟨[]⟩ ⟨[]⟩)])]
def B1112 : List (Nat × List Value) := [(64000, [(.func (.func 82) ⟨[]⟩ ⟨[]⟩)])]
def Q1113 : KC := ⟨69, [(A [(S [49, 48, 48, 48, 48, 48, 48]), (S [49])]), (A [(S [49, 48, 48, 48, 48, 48, 48]), (S [49])]), (.func (.func 81) ⟨[]⟩ ⟨[]⟩), (.func (.func 114) ⟨[]⟩ ⟨[(Z 64000 0)]⟩)], 1001, 64064, B1111, (.tuple ⟨[(A [(S [49]), (S [49])]), (I 0)]⟩), 1011, B1112, [], []⟩
def B1114 : List (Nat × List Value) := [(64000, [(.int .u64 (.ofNat 1))])]
def B1115 : List (Nat × List Value) := [(64064, [(.int .u64 (.ofNat 1))]), (64000, [(.int .u64 (.ofNat 1))])]
def Q1116 : KC := ⟨175, [(C 64000 0 1 1), (.int .u64 (.ofNat 1))], 1001, 64064, B1114, (.tuple ⟨[(C 64064 0 1 1), (.int .u64 (.ofNat 0))]⟩), 1002, B1115, [], []⟩
def B1117 : List (Nat × List Value) := [(64000, [(.int .u64 (.ofNat 1))]), (64064, [(.int .u64 (.ofNat 1))])]
def B1118 : List (Nat × List Value) := [(64192, [(.int .u64 (.ofNat 1)), (.int .u64 (.ofNat 0))]), (64128, [(.int .u64 (.ofNat 1))]), (64000, [(.int .u64 (.ofNat 1))]), (64064, [(.int .u64 (.ofNat 1))])]
def Q1119 : KC := ⟨133, [(C 64000 0 1 1), (C 64064 0 1 1)], 1002, 64128, B1117, (C 64192 0 1 1), 1004, B1118, [], []⟩
def B1120 : List (Nat × List Value) := [(64000, [(.int .u64 (.ofNat 1))]), (64064, [(.int .u64 (.ofNat 1))])]
def B1121 : List (Nat × List Value) := [(64768, [(.int .u64 (.ofNat 1)), (.int .u64 (.ofNat 0))]), (64064, [(.int .u64 (.ofNat 1))]), (64512, [(.int .u64 (.ofNat 1)), (.int .u64 (.ofNat 0))]), (64000, [(.int .u64 (.ofNat 1))])]
def Q1122 : KC := ⟨86, [(A [(C 64000 0 1 1), (.bool false), (C 64064 0 1 1)]), (I 2)], 1002, 64128, B1120, (A [(C 64512 0 1 1), (.bool false), (C 64768 0 1 1)]), 1013, B1121, [], []⟩
def B1123 : List (Nat × List Value) := [(64000, [(.int .u64 (.ofNat 1)), (.int .u64 (.ofNat 0))]), (64064, [(.int .u64 (.ofNat 1)), (.int .u64 (.ofNat 0))])]
def B1124 : List (Nat × List Value) := [(64064, [(.int .u64 (.ofNat 1)), (.int .u64 (.ofNat 0))]), (64000, [(.int .u64 (.ofNat 1)), (.int .u64 (.ofNat 0))])]
def Q1125 : KC := ⟨87, [(A [(C 64000 0 1 1), (.bool false), (C 64064 0 1 1)])], 1002, 64128, B1123, (.tuple ⟨[(A [(S [49]), (S [49])]), (I 0)]⟩), 1013, B1124, [], []⟩
def B1126 : List (Nat × List Value) := [(64000, [(I 2)])]
def B1127 : List (Nat × List Value) := [(64000, [(I 2)])]
def Q1128 : KC := ⟨84, [(A [(S [49]), (S [49])]), (.func (.func 85) ⟨[]⟩ ⟨[(Z 64000 0)]⟩)], 1001, 64064, B1126, (.tuple ⟨[(A [(S [49]), (S [49])]), (I 0)]⟩), 1043, B1127, [], []⟩
def B1129 : List (Nat × List Value) := [(64000, [(.func (.func 80) ⟨[]⟩ ⟨[]⟩)])]
def B1130 : List (Nat × List Value) := [(64000, [(.func (.func 80) ⟨[]⟩ ⟨[]⟩)])]
def Q1131 : KC := ⟨69, [(A [(S [49]), (S [49])]), (A [(S [49]), (S [50])]), (.func (.func 79) ⟨[]⟩ ⟨[]⟩), (.func (.func 114) ⟨[]⟩ ⟨[(Z 64000 0)]⟩)], 1001, 64064, B1129, (.tuple ⟨[(A [(S [51]), (S [50])]), (I 0)]⟩), 1008, B1130, [], []⟩
def B1132 : List (Nat × List Value) := [(64000, [(S [51]), (S [50]), (S [48]), (S [49]), (S [49]), (S [49])])]
def B1133 : List (Nat × List Value) := [(64000, [(S [51]), (S [50]), (S [48]), (S [49]), (S [49]), (S [49])])]
def Q1134 : KC := ⟨49, [(C 64000 0 3 3)], 1001, 64064, B1132, (I 0), 1010, B1133, [], []⟩
def L46 : List (Sum (FuncId × List Value × Value) KC) := [.inl (79, [(A [(I 2000000), (I 1)]), (A [(.int .i64 (.negSucc 999999)), (I 1)])], (.tuple ⟨[(A [(S [49, 48, 48, 48, 48, 48, 48]), (S [49])]), (.bool true)]⟩)),
  .inr Q1107,
  .inr Q1110,
  .inl (70, [(A [(I 1000000), (I 1)]), (A [(I 1), (I 1000000)])], (.tuple ⟨[(A [(S [49]), (S [49])]), (.bool true)]⟩)),
  .inr Q1113,
  .inl (46, [(A [(I 1000000), (I 2000000), (.int .i64 (.negSucc 999999)), (I 2), (I 1), (I 500000), (I 500000), (.bool false)]), (A [(S [49]), (S [49])])], (A [(S [49]), (S [49])])),
  .inr Q1116,
  .inr Q1119,
  .inr Q1122,
  .inr Q1125,
  .inr Q1128,
  .inl (79, [(A [(I 1), (I 1)]), (A [(I 1), (I 2)])], (.tuple ⟨[(A [(S [51]), (S [50])]), (.bool true)]⟩)),
  .inr Q1131,
  .inr Q1134,
  .inl (91, [(A [(I 3), (I 2)]), (A [(I 0), (I 1)])], (.tuple ⟨[(I 1), (.bool true)]⟩)),
  .inl (50, [(A [(S [51]), (S [50])]), (A [(S [48]), (S [49])])], (.tuple ⟨[(I 1), (I 0)]⟩))]
def T46 : Tab := pushT T45 L46
def B1135 : List (Nat × List Value) := [(64000, [(I 500000), (I 1000000), (I 0), (I 1), (I 1), (I 0), (I 1000000), (I 2000000), (.int .i64 (.negSucc 999999)), (I 2), (I 1), (I 500000)])]
def B1136 : List (Nat × List Value) := [(64000, [(I 500000), (I 1000000), (I 0), (I 1), (I 1), (I 0), (I 1000000), (I 2000000), (.int .i64 (.negSucc 999999)), (I 2), (I 1), (I 500000)])]
def Q1137 : KC := ⟨17, [(A [(I 3), (.slice none 0 0), (C 64000 0 2 2)]), (A [(S [49]), (S [49])])], 1001, 64064, B1135, (A [(S [49]), (S [49])]), 1117, B1136, [], []⟩
def B1138 : List (Nat × List Value) := [(64000, [(I 500000), (I 1000000), (I 0), (I 1), (I 1), (I 0), (I 1000000), (I 2000000), (.int .i64 (.negSucc 999999)), (I 2), (I 1), (I 500000)])]
def B1139 : List (Nat × List Value) := [(64000, [(I 500000), (I 1000000), (I 0), (I 1), (I 1), (I 0), (I 1000000), (I 2000000), (.int .i64 (.negSucc 999999)), (I 2), (I 1), (I 500000)])]
def Q1140 : KC := ⟨5, [(A [(I 3), (.slice none 0 0), (C 64000 0 2 2)]), (A [(S [49]), (S [49])])], 1001, 64064, B1138, (.tuple ⟨[(A [(S [49]), (S [49])]), (I 0)]⟩), 1139, B1139, [], []⟩
def L47 : List (Sum (FuncId × List Value × Value) KC) := [.inl (91, [(A [(I 3), (I 2)]), (A [(I 1), (I 1)])], (.tuple ⟨[(I 1), (.bool true)]⟩)),
  .inl (50, [(A [(S [51]), (S [50])]), (A [(S [49]), (S [49])])], (.tuple ⟨[(I 1), (I 0)]⟩)),
  .inl (21, [(A [(S [51]), (S [50])]), (A [(S [48]), (S [49])]), (A [(S [49]), (S [49])])], (.tuple ⟨[(A [(S [49]), (S [49])]), (I 0)]⟩)),
  .inr Q1137,
  .inr Q1140]
def T47 : Tab := pushT T46 L47
end Ev
end Go.Proofs.YtbmnclnmpheodaaGreatDoor
