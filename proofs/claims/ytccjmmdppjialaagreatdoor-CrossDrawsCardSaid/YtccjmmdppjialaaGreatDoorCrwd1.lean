/- works: the closed calls that it makes, and some calls in a state of memory, with what each gives: lists, nothing proved. -/
import Derived.Test.YtccjmmdppjialaaGreatDoorProg
import Derived.Test.YtccjmmdppjialaaGreatDoorEvM
import Derived.KernelRfl
namespace Go.Proofs.YtccjmmdppjialaaGreatDoor
open Go.RowKit
namespace Ev
set_option maxHeartbeats 4000000
def S (l : List Nat) : Value := .string ⟨⟨l.map UInt8.ofNat⟩⟩
def I (n : Nat) : Value := .int .i64 (.ofNat n)
def U (n : Nat) : Value := .int .u8 (.ofNat n)
def A (l : List Value) : Value := .agg ⟨l⟩
def C (b o n c : Nat) : Value := .slice (some ⟨b, o, none⟩) n c
def Z (b o : Nat) : Value := .pointer (some ⟨b, o, none⟩)
def G0 : List (Nat × List Value) := [(256, [(.int .u8 (.ofNat 0)), (.int .u8 (.ofNat 1)), (.int .u8 (.ofNat 28)), (.int .u8 (.ofNat 2)), (.int .u8 (.ofNat 29)), (.int .u8 (.ofNat 14)), (.int .u8 (.ofNat 24)), (.int .u8 (.ofNat 3)), (.int .u8 (.ofNat 30)), (.int .u8 (.ofNat 22)), (.int .u8 (.ofNat 20)), (.int .u8 (.ofNat 15)), (.int .u8 (.ofNat 25)), (.int .u8 (.ofNat 17)), (.int .u8 (.ofNat 4)), (.int .u8 (.ofNat 8)), (.int .u8 (.ofNat 31)), (.int .u8 (.ofNat 27)), (.int .u8 (.ofNat 13)), (.int .u8 (.ofNat 23)), (.int .u8 (.ofNat 21)), (.int .u8 (.ofNat 19)), (.int .u8 (.ofNat 16)), (.int .u8 (.ofNat 7)), (.int .u8 (.ofNat 26)), (.int .u8 (.ofNat 12)), (.int .u8 (.ofNat 18)), (.int .u8 (.ofNat 6)), (.int .u8 (.ofNat 11)), (.int .u8 (.ofNat 5)), (.int .u8 (.ofNat 10)), (.int .u8 (.ofNat 9))]), (128, [(.int .u8 (.ofNat 0)), (.int .u8 (.ofNat 1)), (.int .u8 (.ofNat 56)), (.int .u8 (.ofNat 2)), (.int .u8 (.ofNat 57)), (.int .u8 (.ofNat 49)), (.int .u8 (.ofNat 28)), (.int .u8 (.ofNat 3)), (.int .u8 (.ofNat 61)), (.int .u8 (.ofNat 58)), (.int .u8 (.ofNat 42)), (.int .u8 (.ofNat 50)), (.int .u8 (.ofNat 38)), (.int .u8 (.ofNat 29)), (.int .u8 (.ofNat 17)), (.int .u8 (.ofNat 4)), (.int .u8 (.ofNat 62)), (.int .u8 (.ofNat 47)), (.int .u8 (.ofNat 59)), (.int .u8 (.ofNat 36)), (.int .u8 (.ofNat 45)), (.int .u8 (.ofNat 43)), (.int .u8 (.ofNat 51)), (.int .u8 (.ofNat 22)), (.int .u8 (.ofNat 53)), (.int .u8 (.ofNat 39)), (.int .u8 (.ofNat 33)), (.int .u8 (.ofNat 30)), (.int .u8 (.ofNat 24)), (.int .u8 (.ofNat 18)), (.int .u8 (.ofNat 12)), (.int .u8 (.ofNat 5)), (.int .u8 (.ofNat 63)), (.int .u8 (.ofNat 55)), (.int .u8 (.ofNat 48)), (.int .u8 (.ofNat 27)), (.int .u8 (.ofNat 60)), (.int .u8 (.ofNat 41)), (.int .u8 (.ofNat 37)), (.int .u8 (.ofNat 16)), (.int .u8 (.ofNat 46)), (.int .u8 (.ofNat 35)), (.int .u8 (.ofNat 44)), (.int .u8 (.ofNat 21)), (.int .u8 (.ofNat 52)), (.int .u8 (.ofNat 32)), (.int .u8 (.ofNat 23)), (.int .u8 (.ofNat 11)), (.int .u8 (.ofNat 54)), (.int .u8 (.ofNat 26)), (.int .u8 (.ofNat 40)), (.int .u8 (.ofNat 15)), (.int .u8 (.ofNat 34)), (.int .u8 (.ofNat 20)), (.int .u8 (.ofNat 31)), (.int .u8 (.ofNat 10)), (.int .u8 (.ofNat 25)), (.int .u8 (.ofNat 14)), (.int .u8 (.ofNat 19)), (.int .u8 (.ofNat 9)), (.int .u8 (.ofNat 13)), (.int .u8 (.ofNat 8)), (.int .u8 (.ofNat 7)), (.int .u8 (.ofNat 6))]), (192, [(.int .u64 (.ofNat 1)), (.int .u64 (.ofNat 10)), (.int .u64 (.ofNat 100)), (.int .u64 (.ofNat 1000)), (.int .u64 (.ofNat 10000)), (.int .u64 (.ofNat 100000)), (.int .u64 (.ofNat 1000000)), (.int .u64 (.ofNat 10000000)), (.int .u64 (.ofNat 100000000)), (.int .u64 (.ofNat 1000000000)), (.int .u64 (.ofNat 10000000000)), (.int .u64 (.ofNat 100000000000)), (.int .u64 (.ofNat 1000000000000)), (.int .u64 (.ofNat 10000000000000)), (.int .u64 (.ofNat 100000000000000)), (.int .u64 (.ofNat 1000000000000000)), (.int .u64 (.ofNat 10000000000000000)), (.int .u64 (.ofNat 100000000000000000)), (.int .u64 (.ofNat 1000000000000000000)), (.int .u64 (.ofNat 10000000000000000000))])]
def gq (i : Nat) : Nat × List Value := (i, (look G0 i).getD [])
def T0 : Tab := (Tab.mk .e .e)
def B1 : List (Nat × List Value) := [(64000, [(I 0), (I 1), (I 0), (I 1), (I 0)]), (64064, [(I 0), (I 1), (I 0), (I 1), (I 0)])]
def B2 : List (Nat × List Value) := [(64000, [(I 0), (I 1), (I 0), (I 1), (I 0)]), (64064, [(I 0), (I 1), (I 0), (I 1), (I 0)])]
def Q3 : KC := ⟨14, [(C 64000 0 5 5), (C 64064 0 5 5)], 1002, 64128, B1, (.bool true), 1002, B2, [], []⟩
def B4 : List (Nat × List Value) := [(64000, [(I 1), (I 2), (I 0)]), (64064, [(I 1), (I 2), (I 0)])]
def B5 : List (Nat × List Value) := [(64000, [(I 1), (I 2), (I 0)]), (64064, [(I 1), (I 2), (I 0)])]
def Q6 : KC := ⟨14, [(C 64000 0 3 3), (C 64064 0 3 3)], 1002, 64128, B4, (.bool true), 1002, B5, [], []⟩
def B7 : List (Nat × List Value) := [(64000, [(I 1), (I 2), (I 6)])]
def B8 : List (Nat × List Value) := [(64962, [(S [49]), (S [49]), (S [50]), (S [49]), (S [54]), (S [49])]), (64000, [(I 1), (I 2), (I 6)])]
def Q9 : KC := ⟨20, [(C 64000 0 3 3)], 1001, 64064, B7, (C 64962 0 3 3), 1016, B8, [], []⟩
def B10 : List (Nat × List Value) := [(64000, [(.int .u64 (.ofNat 1))])]
def B11 : List (Nat × List Value) := [(64064, [(.int .u64 (.ofNat 1))]), (64000, [(.int .u64 (.ofNat 1))])]
def Q12 : KC := ⟨92, [(C 64000 0 1 1), (.int .u64 (.ofNat 1))], 1001, 64064, B10, (.tuple ⟨[(C 64064 0 1 1), (.int .u64 (.ofNat 0))]⟩), 1002, B11, [], []⟩
def B13 : List (Nat × List Value) := [(64000, [(.int .u64 (.ofNat 1))]), (64064, [(.int .u64 (.ofNat 1))])]
def B14 : List (Nat × List Value) := [(64192, [(.int .u64 (.ofNat 1)), (.int .u64 (.ofNat 0))]), (64128, [(.int .u64 (.ofNat 1))]), (64000, [(.int .u64 (.ofNat 1))]), (64064, [(.int .u64 (.ofNat 1))])]
def Q15 : KC := ⟨59, [(C 64000 0 1 1), (C 64064 0 1 1)], 1002, 64128, B13, (C 64192 0 1 1), 1004, B14, [], []⟩
def B16 : List (Nat × List Value) := [(64000, [(.int .u64 (.ofNat 2))])]
def B17 : List (Nat × List Value) := [(64064, [(.int .u64 (.ofNat 2))]), (64000, [(.int .u64 (.ofNat 2))])]
def Q18 : KC := ⟨92, [(C 64000 0 1 1), (.int .u64 (.ofNat 1))], 1001, 64064, B16, (.tuple ⟨[(C 64064 0 1 1), (.int .u64 (.ofNat 0))]⟩), 1002, B17, [], []⟩
def B19 : List (Nat × List Value) := [(64000, [(.int .u64 (.ofNat 2))]), (64064, [(.int .u64 (.ofNat 1))])]
def B20 : List (Nat × List Value) := [(64192, [(.int .u64 (.ofNat 1)), (.int .u64 (.ofNat 0))]), (64128, [(.int .u64 (.ofNat 2))]), (64000, [(.int .u64 (.ofNat 2))]), (64064, [(.int .u64 (.ofNat 1))])]
def Q21 : KC := ⟨59, [(C 64000 0 1 1), (C 64064 0 1 1)], 1002, 64128, B19, (C 64192 0 1 1), 1004, B20, [], []⟩
def B22 : List (Nat × List Value) := [(64000, [(.int .u64 (.ofNat 6))])]
def B23 : List (Nat × List Value) := [(64064, [(.int .u64 (.ofNat 6))]), (64000, [(.int .u64 (.ofNat 6))])]
def Q24 : KC := ⟨92, [(C 64000 0 1 1), (.int .u64 (.ofNat 1))], 1001, 64064, B22, (.tuple ⟨[(C 64064 0 1 1), (.int .u64 (.ofNat 0))]⟩), 1002, B23, [], []⟩
def B25 : List (Nat × List Value) := [(64000, [(.int .u64 (.ofNat 6))]), (64064, [(.int .u64 (.ofNat 1))])]
def B26 : List (Nat × List Value) := [(64192, [(.int .u64 (.ofNat 1)), (.int .u64 (.ofNat 0))]), (64128, [(.int .u64 (.ofNat 6))]), (64000, [(.int .u64 (.ofNat 6))]), (64064, [(.int .u64 (.ofNat 1))])]
def Q27 : KC := ⟨59, [(C 64000 0 1 1), (C 64064 0 1 1)], 1002, 64128, B25, (C 64192 0 1 1), 1004, B26, [], []⟩
def L1 : List (Sum (FuncId × List Value × Value) KC) := [.inl (10, [(I 1), (I 10)], (.tuple ⟨[(I 1), (I 48271), (I 0)]⟩)),
  .inr Q3,
  .inr Q6,
  .inl (105, [(.int .u64 (.ofNat 1)), (.int .u64 (.ofNat 1))], (.int .u64 (.ofNat 1))),
  .inl (107, [(A [(I 1), (I 1)])], (A [(S [49]), (S [49])])),
  .inl (70, [(I 1), (I 1)], (.tuple ⟨[(A [(S [49]), (S [49])]), (.bool true)]⟩)),
  .inl (105, [(.int .u64 (.ofNat 2)), (.int .u64 (.ofNat 1))], (.int .u64 (.ofNat 1))),
  .inl (107, [(A [(I 2), (I 1)])], (A [(S [50]), (S [49])])),
  .inl (70, [(I 2), (I 1)], (.tuple ⟨[(A [(S [50]), (S [49])]), (.bool true)]⟩)),
  .inl (105, [(.int .u64 (.ofNat 6)), (.int .u64 (.ofNat 1))], (.int .u64 (.ofNat 1))),
  .inl (107, [(A [(I 6), (I 1)])], (A [(S [54]), (S [49])])),
  .inl (70, [(I 6), (I 1)], (.tuple ⟨[(A [(S [54]), (S [49])]), (.bool true)]⟩)),
  .inr Q9,
  .inl (128, [(S [49])], (.tuple ⟨[(I 1), (.bool true)]⟩)),
  .inl (84, [(A [(S [49]), (S [49])])], (.tuple ⟨[(A [(I 1), (I 1)]), (.bool true)]⟩)),
  .inl (98, [(.int .u64 (.ofNat 0)), (.int .u64 (.ofNat 1000000000000000000))], (.tuple ⟨[(.int .u64 (.ofNat 0)), (.int .u64 (.ofNat 0))]⟩)),
  .inr Q12,
  .inr Q15,
  .inl (128, [(S [50])], (.tuple ⟨[(I 2), (.bool true)]⟩)),
  .inl (84, [(A [(S [50]), (S [49])])], (.tuple ⟨[(A [(I 2), (I 1)]), (.bool true)]⟩)),
  .inr Q18,
  .inr Q21,
  .inl (128, [(S [54])], (.tuple ⟨[(I 6), (.bool true)]⟩)),
  .inl (84, [(A [(S [54]), (S [49])])], (.tuple ⟨[(A [(I 6), (I 1)]), (.bool true)]⟩)),
  .inr Q24,
  .inr Q27]
def T1 : Tab := pushT T0 L1
def B28 : List (Nat × List Value) := [(64002, [(S [49]), (S [49]), (S [50]), (S [49]), (S [54]), (S [49])])]
def B29 : List (Nat × List Value) := [(66816, [(.int .u64 (.ofNat 6))]), (67136, [(.int .u64 (.ofNat 1))]), (65664, [(.int .u64 (.ofNat 2))]), (65984, [(.int .u64 (.ofNat 1))]), (64512, [(.int .u64 (.ofNat 1))]), (64832, [(.int .u64 (.ofNat 1))]), (64064, [(C 64512 0 1 1), (.bool false), (C 64832 0 1 1), (C 65664 0 1 1), (.bool false), (C 65984 0 1 1), (C 66816 0 1 1), (.bool false), (C 67136 0 1 1)]), (64002, [(S [49]), (S [49]), (S [50]), (S [49]), (S [54]), (S [49])])]
def Q30 : KC := ⟨36, [(C 64002 0 3 3)], 1001, 64064, B28, (.tuple ⟨[(C 64064 0 3 3), (I 0)]⟩), 1056, B29, [], []⟩
def B31 : List (Nat × List Value) := [(64000, [(.int .u64 (.ofNat 0)), (.int .u64 (.ofNat 0))])]
def B32 : List (Nat × List Value) := [(64192, [(.int .u64 (.ofNat 1)), (.int .u64 (.ofNat 0))]), (64128, [(C 64000 0 0 0), (.bool false), (C 64192 0 1 1)]), (64064, [(C 64000 0 0 0), (.bool false)]), (64000, [(.int .u64 (.ofNat 0)), (.int .u64 (.ofNat 0))])]
def Q33 : KC := ⟨57, [(A [(C 64000 0 0 0), (.bool false)])], 1001, 64064, B31, (A [(C 64000 0 0 0), (.bool false), (C 64192 0 1 1)]), 1004, B32, [], []⟩
def B34 : List (Nat × List Value) := [(64000, [(.int .u64 (.ofNat 1)), (.int .u64 (.ofNat 0))])]
def B35 : List (Nat × List Value) := [(64064, [(.int .u64 (.ofNat 1))]), (64000, [(.int .u64 (.ofNat 1)), (.int .u64 (.ofNat 0))])]
def Q36 : KC := ⟨92, [(C 64000 0 1 1), (.int .u64 (.ofNat 1))], 1001, 64064, B34, (.tuple ⟨[(C 64064 0 1 1), (.int .u64 (.ofNat 0))]⟩), 1002, B35, [], []⟩
def B37 : List (Nat × List Value) := [(64000, [(.int .u64 (.ofNat 1)), (.int .u64 (.ofNat 0))]), (64064, [(.int .u64 (.ofNat 1))])]
def B38 : List (Nat × List Value) := [(64192, [(.int .u64 (.ofNat 1)), (.int .u64 (.ofNat 0))]), (64128, [(.int .u64 (.ofNat 1))]), (64000, [(.int .u64 (.ofNat 1)), (.int .u64 (.ofNat 0))]), (64064, [(.int .u64 (.ofNat 1))])]
def Q39 : KC := ⟨59, [(C 64000 0 1 1), (C 64064 0 1 1)], 1002, 64128, B37, (C 64192 0 1 1), 1004, B38, [], []⟩
def B40 : List (Nat × List Value) := [(64000, [(.int .u64 (.ofNat 1))]), (64064, [(.int .u64 (.ofNat 1)), (.int .u64 (.ofNat 0))])]
def B41 : List (Nat × List Value) := [(64128, [(.int .u64 (.ofNat 1)), (.int .u64 (.ofNat 0))]), (64000, [(.int .u64 (.ofNat 1))]), (64064, [(.int .u64 (.ofNat 1)), (.int .u64 (.ofNat 0))])]
def Q42 : KC := ⟨66, [(C 64000 0 1 1), (C 64064 0 1 1)], 1002, 64128, B40, (C 64128 0 1 1), 1003, B41, [], []⟩
def B43 : List (Nat × List Value) := [(64000, [(.int .u64 (.ofNat 1)), (.int .u64 (.ofNat 0))])]
def B44 : List (Nat × List Value) := [(64064, [(.int .u64 (.ofNat 1)), (.int .u64 (.ofNat 0))]), (64000, [(.int .u64 (.ofNat 1)), (.int .u64 (.ofNat 0))])]
def Q45 : KC := ⟨96, [(.slice none 0 0), (C 64000 0 1 1)], 1001, 64064, B43, (C 64064 0 1 1), 1002, B44, [], []⟩
def L2 : List (Sum (FuncId × List Value × Value) KC) := [.inr Q30,
  .inr Q33,
  .inr Q36,
  .inr Q39,
  .inl (98, [(.int .u64 (.ofNat 1)), (.int .u64 (.ofNat 1))], (.tuple ⟨[(.int .u64 (.ofNat 0)), (.int .u64 (.ofNat 1))]⟩)),
  .inr Q42,
  .inr Q45]
def T2 : Tab := pushT T1 L2
def B46 : List (Nat × List Value) := [(64000, [(.int .u64 (.ofNat 1)), (.int .u64 (.ofNat 0))]), (64064, [(.int .u64 (.ofNat 1))])]
def B47 : List (Nat × List Value) := [(64128, [(.int .u64 (.ofNat 1)), (.int .u64 (.ofNat 0))]), (64000, [(.int .u64 (.ofNat 1)), (.int .u64 (.ofNat 0))]), (64064, [(.int .u64 (.ofNat 1))])]
def Q48 : KC := ⟨66, [(C 64000 0 1 1), (C 64064 0 1 1)], 1002, 64128, B46, (C 64128 0 1 1), 1003, B47, [], []⟩
def B49 : List (Nat × List Value) := [(64000, [(.int .u64 (.ofNat 0)), (.int .u64 (.ofNat 0))]), (64064, [(.int .u64 (.ofNat 1)), (.int .u64 (.ofNat 0))]), (64128, [(.int .u64 (.ofNat 1))]), (64192, [(.int .u64 (.ofNat 1))])]
def B50 : List (Nat × List Value) := [(65664, [(.int .u64 (.ofNat 1)), (.int .u64 (.ofNat 0))]), (64064, [(.int .u64 (.ofNat 1)), (.int .u64 (.ofNat 0))]), (64192, [(.int .u64 (.ofNat 1))]), (65472, [(.int .u64 (.ofNat 1)), (.int .u64 (.ofNat 0))]), (64128, [(.int .u64 (.ofNat 1))]), (64000, [(.int .u64 (.ofNat 0)), (.int .u64 (.ofNat 0))])]
def Q51 : KC := ⟨38, [(A [(C 64000 0 0 0), (.bool false), (C 64064 0 1 1)]), (A [(C 64128 0 1 1), (.bool false), (C 64192 0 1 1)])], 1004, 64256, B49, (A [(C 65472 0 1 1), (.bool false), (C 65664 0 1 1)]), 1027, B50, [], []⟩
def B52 : List (Nat × List Value) := [(64000, [(.int .u64 (.ofNat 2))]), (64064, [(.int .u64 (.ofNat 1)), (.int .u64 (.ofNat 0))])]
def B53 : List (Nat × List Value) := [(64128, [(.int .u64 (.ofNat 2)), (.int .u64 (.ofNat 0))]), (64000, [(.int .u64 (.ofNat 2))]), (64064, [(.int .u64 (.ofNat 1)), (.int .u64 (.ofNat 0))])]
def Q54 : KC := ⟨66, [(C 64000 0 1 1), (C 64064 0 1 1)], 1002, 64128, B52, (C 64128 0 1 1), 1003, B53, [], []⟩
def B55 : List (Nat × List Value) := [(64000, [(.int .u64 (.ofNat 1)), (.int .u64 (.ofNat 0))]), (64064, [(.int .u64 (.ofNat 2)), (.int .u64 (.ofNat 0))])]
def B56 : List (Nat × List Value) := [(64128, [(.int .u64 (.ofNat 3)), (.int .u64 (.ofNat 0))]), (64000, [(.int .u64 (.ofNat 1)), (.int .u64 (.ofNat 0))]), (64064, [(.int .u64 (.ofNat 2)), (.int .u64 (.ofNat 0))])]
def Q57 : KC := ⟨96, [(C 64000 0 1 1), (C 64064 0 1 1)], 1002, 64128, B55, (C 64128 0 1 1), 1003, B56, [], []⟩
def B58 : List (Nat × List Value) := [(64000, [(.int .u64 (.ofNat 1)), (.int .u64 (.ofNat 0))]), (64064, [(.int .u64 (.ofNat 1)), (.int .u64 (.ofNat 0))]), (64128, [(.int .u64 (.ofNat 2))]), (64192, [(.int .u64 (.ofNat 1))])]
def B59 : List (Nat × List Value) := [(65728, [(.int .u64 (.ofNat 1)), (.int .u64 (.ofNat 0))]), (64064, [(.int .u64 (.ofNat 1)), (.int .u64 (.ofNat 0))]), (64192, [(.int .u64 (.ofNat 1))]), (65536, [(.int .u64 (.ofNat 3)), (.int .u64 (.ofNat 0))]), (64128, [(.int .u64 (.ofNat 2))]), (64000, [(.int .u64 (.ofNat 1)), (.int .u64 (.ofNat 0))])]
def Q60 : KC := ⟨38, [(A [(C 64000 0 1 1), (.bool false), (C 64064 0 1 1)]), (A [(C 64128 0 1 1), (.bool false), (C 64192 0 1 1)])], 1004, 64256, B58, (A [(C 65536 0 1 1), (.bool false), (C 65728 0 1 1)]), 1028, B59, [], []⟩
def B61 : List (Nat × List Value) := [(64000, [(.int .u64 (.ofNat 3)), (.int .u64 (.ofNat 0))]), (64064, [(.int .u64 (.ofNat 1))])]
def B62 : List (Nat × List Value) := [(64128, [(.int .u64 (.ofNat 3)), (.int .u64 (.ofNat 0))]), (64000, [(.int .u64 (.ofNat 3)), (.int .u64 (.ofNat 0))]), (64064, [(.int .u64 (.ofNat 1))])]
def Q63 : KC := ⟨66, [(C 64000 0 1 1), (C 64064 0 1 1)], 1002, 64128, B61, (C 64128 0 1 1), 1003, B62, [], []⟩
def B64 : List (Nat × List Value) := [(64000, [(.int .u64 (.ofNat 6))]), (64064, [(.int .u64 (.ofNat 1)), (.int .u64 (.ofNat 0))])]
def B65 : List (Nat × List Value) := [(64128, [(.int .u64 (.ofNat 6)), (.int .u64 (.ofNat 0))]), (64000, [(.int .u64 (.ofNat 6))]), (64064, [(.int .u64 (.ofNat 1)), (.int .u64 (.ofNat 0))])]
def Q66 : KC := ⟨66, [(C 64000 0 1 1), (C 64064 0 1 1)], 1002, 64128, B64, (C 64128 0 1 1), 1003, B65, [], []⟩
def B67 : List (Nat × List Value) := [(64000, [(.int .u64 (.ofNat 3)), (.int .u64 (.ofNat 0))]), (64064, [(.int .u64 (.ofNat 6)), (.int .u64 (.ofNat 0))])]
def B68 : List (Nat × List Value) := [(64128, [(.int .u64 (.ofNat 9)), (.int .u64 (.ofNat 0))]), (64000, [(.int .u64 (.ofNat 3)), (.int .u64 (.ofNat 0))]), (64064, [(.int .u64 (.ofNat 6)), (.int .u64 (.ofNat 0))])]
def Q69 : KC := ⟨96, [(C 64000 0 1 1), (C 64064 0 1 1)], 1002, 64128, B67, (C 64128 0 1 1), 1003, B68, [], []⟩
def L3 : List (Sum (FuncId × List Value × Value) KC) := [.inr Q48,
  .inr Q51,
  .inl (98, [(.int .u64 (.ofNat 2)), (.int .u64 (.ofNat 1))], (.tuple ⟨[(.int .u64 (.ofNat 0)), (.int .u64 (.ofNat 2))]⟩)),
  .inr Q54,
  .inr Q57,
  .inr Q60,
  .inl (98, [(.int .u64 (.ofNat 3)), (.int .u64 (.ofNat 1))], (.tuple ⟨[(.int .u64 (.ofNat 0)), (.int .u64 (.ofNat 3))]⟩)),
  .inr Q63,
  .inl (98, [(.int .u64 (.ofNat 6)), (.int .u64 (.ofNat 1))], (.tuple ⟨[(.int .u64 (.ofNat 0)), (.int .u64 (.ofNat 6))]⟩)),
  .inr Q66,
  .inr Q69]
def T3 : Tab := pushT T2 L3
def B70 : List (Nat × List Value) := [(64000, [(.int .u64 (.ofNat 3)), (.int .u64 (.ofNat 0))]), (64064, [(.int .u64 (.ofNat 1)), (.int .u64 (.ofNat 0))]), (64128, [(.int .u64 (.ofNat 6))]), (64192, [(.int .u64 (.ofNat 1))])]
def B71 : List (Nat × List Value) := [(65728, [(.int .u64 (.ofNat 1)), (.int .u64 (.ofNat 0))]), (64064, [(.int .u64 (.ofNat 1)), (.int .u64 (.ofNat 0))]), (64192, [(.int .u64 (.ofNat 1))]), (65536, [(.int .u64 (.ofNat 9)), (.int .u64 (.ofNat 0))]), (64128, [(.int .u64 (.ofNat 6))]), (64000, [(.int .u64 (.ofNat 3)), (.int .u64 (.ofNat 0))])]
def Q72 : KC := ⟨38, [(A [(C 64000 0 1 1), (.bool false), (C 64064 0 1 1)]), (A [(C 64128 0 1 1), (.bool false), (C 64192 0 1 1)])], 1004, 64256, B70, (A [(C 65536 0 1 1), (.bool false), (C 65728 0 1 1)]), 1028, B71, [], []⟩
def B73 : List (Nat × List Value) := [(64000, [(.int .u64 (.ofNat 3)), (.int .u64 (.ofNat 0))])]
def B74 : List (Nat × List Value) := [(64192, [(.int .u64 (.ofNat 1)), (.int .u64 (.ofNat 0))]), (64128, [(C 64000 0 1 1), (.bool false), (C 64192 0 1 1)]), (64064, [(C 64000 0 1 1), (.bool false)]), (64000, [(.int .u64 (.ofNat 3)), (.int .u64 (.ofNat 0))])]
def Q75 : KC := ⟨57, [(A [(C 64000 0 1 1), (.bool false)])], 1001, 64064, B73, (A [(C 64000 0 1 1), (.bool false), (C 64192 0 1 1)]), 1004, B74, [], []⟩
def B76 : List (Nat × List Value) := [(64000, [(.int .u64 (.ofNat 9)), (.int .u64 (.ofNat 0))])]
def B77 : List (Nat × List Value) := [(64064, [(.int .u64 (.ofNat 3))]), (64000, [(.int .u64 (.ofNat 9)), (.int .u64 (.ofNat 0))])]
def Q78 : KC := ⟨92, [(C 64000 0 1 1), (.int .u64 (.ofNat 3))], 1001, 64064, B76, (.tuple ⟨[(C 64064 0 1 1), (.int .u64 (.ofNat 0))]⟩), 1002, B77, [], []⟩
def B79 : List (Nat × List Value) := [(64000, [(.int .u64 (.ofNat 9)), (.int .u64 (.ofNat 0))]), (64064, [(.int .u64 (.ofNat 3)), (.int .u64 (.ofNat 0))])]
def B80 : List (Nat × List Value) := [(64192, [(.int .u64 (.ofNat 3)), (.int .u64 (.ofNat 0))]), (64128, [(.int .u64 (.ofNat 3))]), (64000, [(.int .u64 (.ofNat 9)), (.int .u64 (.ofNat 0))]), (64064, [(.int .u64 (.ofNat 3)), (.int .u64 (.ofNat 0))])]
def Q81 : KC := ⟨59, [(C 64000 0 1 1), (C 64064 0 1 1)], 1002, 64128, B79, (C 64192 0 1 1), 1004, B80, [], []⟩
def B82 : List (Nat × List Value) := [(64000, [(.int .u64 (.ofNat 9)), (.int .u64 (.ofNat 0))]), (64064, [(.int .u64 (.ofNat 3)), (.int .u64 (.ofNat 0))])]
def B83 : List (Nat × List Value) := [(64192, [(.int .u64 (.ofNat 0)), (.int .u64 (.ofNat 0))]), (64128, [(.int .u64 (.ofNat 3))]), (64000, [(.int .u64 (.ofNat 9)), (.int .u64 (.ofNat 0))]), (64064, [(.int .u64 (.ofNat 3)), (.int .u64 (.ofNat 0))])]
def Q84 : KC := ⟨61, [(C 64000 0 1 1), (C 64064 0 1 1)], 1002, 64128, B82, (.tuple ⟨[(C 64128 0 1 1), (C 64192 0 0 0)]⟩), 1004, B83, [], []⟩
def B85 : List (Nat × List Value) := [(64000, [(.int .u64 (.ofNat 3)), (.int .u64 (.ofNat 0))])]
def B86 : List (Nat × List Value) := [(64064, [(.int .u64 (.ofNat 1))]), (64000, [(.int .u64 (.ofNat 3)), (.int .u64 (.ofNat 0))])]
def Q87 : KC := ⟨92, [(C 64000 0 1 1), (.int .u64 (.ofNat 3))], 1001, 64064, B85, (.tuple ⟨[(C 64064 0 1 1), (.int .u64 (.ofNat 0))]⟩), 1002, B86, [], []⟩
def B88 : List (Nat × List Value) := [(64000, [(.int .u64 (.ofNat 3)), (.int .u64 (.ofNat 0))]), (64064, [(.int .u64 (.ofNat 3)), (.int .u64 (.ofNat 0))])]
def B89 : List (Nat × List Value) := [(64192, [(.int .u64 (.ofNat 0)), (.int .u64 (.ofNat 0))]), (64128, [(.int .u64 (.ofNat 1))]), (64000, [(.int .u64 (.ofNat 3)), (.int .u64 (.ofNat 0))]), (64064, [(.int .u64 (.ofNat 3)), (.int .u64 (.ofNat 0))])]
def Q90 : KC := ⟨61, [(C 64000 0 1 1), (C 64064 0 1 1)], 1002, 64128, B88, (.tuple ⟨[(C 64128 0 1 1), (C 64192 0 0 0)]⟩), 1004, B89, [], []⟩
def B91 : List (Nat × List Value) := [(64000, [(.int .u64 (.ofNat 9)), (.int .u64 (.ofNat 0))]), (64064, [(.int .u64 (.ofNat 3)), (.int .u64 (.ofNat 0))])]
def B92 : List (Nat × List Value) := [(64448, [(.int .u64 (.ofNat 0)), (.int .u64 (.ofNat 0))]), (64384, [(.int .u64 (.ofNat 1))]), (64064, [(.int .u64 (.ofNat 3)), (.int .u64 (.ofNat 0))]), (64192, [(.int .u64 (.ofNat 3)), (.int .u64 (.ofNat 0))]), (64320, [(.int .u64 (.ofNat 0)), (.int .u64 (.ofNat 0))]), (64256, [(.int .u64 (.ofNat 3))]), (64000, [(.int .u64 (.ofNat 9)), (.int .u64 (.ofNat 0))]), (64128, [(.int .u64 (.ofNat 3))])]
def Q93 : KC := ⟨102, [(C 64000 0 1 1), (C 64064 0 1 1)], 1002, 64128, B91, (.tuple ⟨[(C 64256 0 1 1), (C 64384 0 1 1)]⟩), 1008, B92, [], []⟩
def B94 : List (Nat × List Value) := [(64000, [(.int .u64 (.ofNat 1)), (.int .u64 (.ofNat 0))]), (64064, [(.int .u64 (.ofNat 1)), (.int .u64 (.ofNat 0))])]
def B95 : List (Nat × List Value) := [(64192, [(.int .u64 (.ofNat 1)), (.int .u64 (.ofNat 0))]), (64128, [(.int .u64 (.ofNat 1))]), (64000, [(.int .u64 (.ofNat 1)), (.int .u64 (.ofNat 0))]), (64064, [(.int .u64 (.ofNat 1)), (.int .u64 (.ofNat 0))])]
def Q96 : KC := ⟨59, [(C 64000 0 1 1), (C 64064 0 1 1)], 1002, 64128, B94, (C 64192 0 1 1), 1004, B95, [], []⟩
def B97 : List (Nat × List Value) := [(64000, [(.int .u64 (.ofNat 3))]), (64064, [(.int .u64 (.ofNat 1)), (.int .u64 (.ofNat 0))])]
def B98 : List (Nat × List Value) := [(64128, [(.int .u64 (.ofNat 3)), (.int .u64 (.ofNat 0))]), (64000, [(.int .u64 (.ofNat 3))]), (64064, [(.int .u64 (.ofNat 1)), (.int .u64 (.ofNat 0))])]
def Q99 : KC := ⟨66, [(C 64000 0 1 1), (C 64064 0 1 1)], 1002, 64128, B97, (C 64128 0 1 1), 1003, B98, [], []⟩
def B100 : List (Nat × List Value) := [(64000, [(.int .u64 (.ofNat 9)), (.int .u64 (.ofNat 0))]), (64064, [(.int .u64 (.ofNat 1)), (.int .u64 (.ofNat 0))]), (64128, [(.int .u64 (.ofNat 1)), (.int .u64 (.ofNat 0))]), (64192, [(.int .u64 (.ofNat 3)), (.int .u64 (.ofNat 0))])]
def B101 : List (Nat × List Value) := [(65024, [(.int .u64 (.ofNat 1)), (.int .u64 (.ofNat 0))]), (64064, [(.int .u64 (.ofNat 1)), (.int .u64 (.ofNat 0))]), (64960, [(.int .u64 (.ofNat 3)), (.int .u64 (.ofNat 0))]), (64128, [(.int .u64 (.ofNat 1)), (.int .u64 (.ofNat 0))]), (64192, [(.int .u64 (.ofNat 3)), (.int .u64 (.ofNat 0))]), (64000, [(.int .u64 (.ofNat 9)), (.int .u64 (.ofNat 0))])]
def Q102 : KC := ⟨67, [(A [(C 64000 0 1 1), (.bool false), (C 64064 0 1 1)]), (A [(C 64128 0 1 1), (.bool false), (C 64192 0 1 1)])], 1004, 64256, B100, (A [(C 64960 0 1 1), (.bool false), (C 65024 0 1 1)]), 1017, B101, [], []⟩
def B103 : List (Nat × List Value) := [(64000, [(.int .u64 (.ofNat 3)), (.int .u64 (.ofNat 0))])]
def B104 : List (Nat × List Value) := [(64256, [(I 1)]), (64128, [(U 0), (U 51)]), (64192, [(C 64128 0 2 2)]), (64000, [(.int .u64 (.ofNat 3)), (.int .u64 (.ofNat 0))]), (64064, [(C 64000 0 1 1), (.bool false)])]
def Q105 : KC := ⟨69, [(A [(C 64000 0 1 1), (.bool false)])], 1001, 64064, B103, (S [51]), 1005, B104, [], []⟩
def B106 : List (Nat × List Value) := [(64000, [(.int .u64 (.ofNat 1)), (.int .u64 (.ofNat 0))])]
def B107 : List (Nat × List Value) := [(64256, [(I 1)]), (64128, [(U 0), (U 49)]), (64192, [(C 64128 0 2 2)]), (64000, [(.int .u64 (.ofNat 1)), (.int .u64 (.ofNat 0))]), (64064, [(C 64000 0 1 1), (.bool false)])]
def Q108 : KC := ⟨69, [(A [(C 64000 0 1 1), (.bool false)])], 1001, 64064, B106, (S [49]), 1005, B107, [], []⟩
def B109 : List (Nat × List Value) := [(64000, [(.int .u64 (.ofNat 3)), (.int .u64 (.ofNat 0))]), (64064, [(.int .u64 (.ofNat 1)), (.int .u64 (.ofNat 0))])]
def B110 : List (Nat × List Value) := [(64064, [(.int .u64 (.ofNat 1)), (.int .u64 (.ofNat 0))]), (64000, [(.int .u64 (.ofNat 3)), (.int .u64 (.ofNat 0))])]
def Q111 : KC := ⟨40, [(A [(C 64000 0 1 1), (.bool false), (C 64064 0 1 1)])], 1002, 64128, B109, (.tuple ⟨[(A [(S [51]), (S [49])]), (I 0)]⟩), 1013, B110, [], []⟩
def B112 : List (Nat × List Value) := [(64002, [(S [49]), (S [49]), (S [50]), (S [49]), (S [54]), (S [49])])]
def B113 : List (Nat × List Value) := [(64002, [(S [49]), (S [49]), (S [50]), (S [49]), (S [54]), (S [49])])]
def Q114 : KC := ⟨19, [(C 64002 0 3 3)], 1001, 64064, B112, (.tuple ⟨[(A [(S [51]), (S [49])]), (I 0)]⟩), 1171, B113, [], []⟩
def L4 : List (Sum (FuncId × List Value × Value) KC) := [.inr Q72,
  .inr Q75,
  .inr Q78,
  .inr Q81,
  .inr Q84,
  .inr Q87,
  .inr Q90,
  .inr Q93,
  .inr Q96,
  .inr Q99,
  .inr Q102,
  .inr Q105,
  .inr Q108,
  .inr Q111,
  .inr Q114]
def T4 : Tab := pushT T3 L4
def B115 : List (Nat × List Value) := [(64000, [(.int .u64 (.ofNat 2))]), (64064, [(.int .u64 (.ofNat 1))])]
def B116 : List (Nat × List Value) := [(64128, [(.int .u64 (.ofNat 2)), (.int .u64 (.ofNat 0))]), (64000, [(.int .u64 (.ofNat 2))]), (64064, [(.int .u64 (.ofNat 1))])]
def Q117 : KC := ⟨66, [(C 64000 0 1 1), (C 64064 0 1 1)], 1002, 64128, B115, (C 64128 0 1 1), 1003, B116, [], []⟩
def B118 : List (Nat × List Value) := [(64000, [(.int .u64 (.ofNat 1))]), (64064, [(.int .u64 (.ofNat 1))])]
def B119 : List (Nat × List Value) := [(64128, [(.int .u64 (.ofNat 1)), (.int .u64 (.ofNat 0))]), (64000, [(.int .u64 (.ofNat 1))]), (64064, [(.int .u64 (.ofNat 1))])]
def Q120 : KC := ⟨66, [(C 64000 0 1 1), (C 64064 0 1 1)], 1002, 64128, B118, (C 64128 0 1 1), 1003, B119, [], []⟩
def B121 : List (Nat × List Value) := [(64000, [(.int .u64 (.ofNat 2)), (.int .u64 (.ofNat 0))]), (64064, [(.int .u64 (.ofNat 1)), (.int .u64 (.ofNat 0))])]
def B122 : List (Nat × List Value) := [(64000, [(.int .u64 (.ofNat 2)), (.int .u64 (.ofNat 0))]), (64064, [(.int .u64 (.ofNat 1)), (.int .u64 (.ofNat 0))]), (64192, [(C 64064 0 1 1), (.bool false)]), (64128, [(C 64000 0 1 1), (.bool false)])]
def Q123 : KC := ⟨111, [(A [(C 64000 0 1 1), (.bool false)]), (A [(C 64064 0 1 1), (.bool false)])], 1002, 64128, B121, (I 1), 1004, B122, [], []⟩
def B124 : List (Nat × List Value) := [(64000, [(.int .u64 (.ofNat 2))]), (64064, [(.int .u64 (.ofNat 1))]), (64128, [(.int .u64 (.ofNat 1))]), (64192, [(.int .u64 (.ofNat 1))])]
def B125 : List (Nat × List Value) := [(64128, [(.int .u64 (.ofNat 1))]), (64064, [(.int .u64 (.ofNat 1))]), (64000, [(.int .u64 (.ofNat 2))]), (64192, [(.int .u64 (.ofNat 1))])]
def Q126 : KC := ⟨74, [(A [(C 64000 0 1 1), (.bool false), (C 64064 0 1 1)]), (A [(C 64128 0 1 1), (.bool false), (C 64192 0 1 1)])], 1004, 64256, B124, (I 1), 1022, B125, [], []⟩
def B127 : List (Nat × List Value) := [(64000, [(.int .u64 (.ofNat 6))]), (64064, [(.int .u64 (.ofNat 1))])]
def B128 : List (Nat × List Value) := [(64128, [(.int .u64 (.ofNat 6)), (.int .u64 (.ofNat 0))]), (64000, [(.int .u64 (.ofNat 6))]), (64064, [(.int .u64 (.ofNat 1))])]
def Q129 : KC := ⟨66, [(C 64000 0 1 1), (C 64064 0 1 1)], 1002, 64128, B127, (C 64128 0 1 1), 1003, B128, [], []⟩
def B130 : List (Nat × List Value) := [(64000, [(.int .u64 (.ofNat 6)), (.int .u64 (.ofNat 0))]), (64064, [(.int .u64 (.ofNat 2)), (.int .u64 (.ofNat 0))])]
def B131 : List (Nat × List Value) := [(64000, [(.int .u64 (.ofNat 6)), (.int .u64 (.ofNat 0))]), (64064, [(.int .u64 (.ofNat 2)), (.int .u64 (.ofNat 0))]), (64192, [(C 64064 0 1 1), (.bool false)]), (64128, [(C 64000 0 1 1), (.bool false)])]
def Q132 : KC := ⟨111, [(A [(C 64000 0 1 1), (.bool false)]), (A [(C 64064 0 1 1), (.bool false)])], 1002, 64128, B130, (I 1), 1004, B131, [], []⟩
def B133 : List (Nat × List Value) := [(64000, [(.int .u64 (.ofNat 6))]), (64064, [(.int .u64 (.ofNat 1))]), (64128, [(.int .u64 (.ofNat 2))]), (64192, [(.int .u64 (.ofNat 1))])]
def B134 : List (Nat × List Value) := [(64128, [(.int .u64 (.ofNat 2))]), (64064, [(.int .u64 (.ofNat 1))]), (64000, [(.int .u64 (.ofNat 6))]), (64192, [(.int .u64 (.ofNat 1))])]
def Q135 : KC := ⟨74, [(A [(C 64000 0 1 1), (.bool false), (C 64064 0 1 1)]), (A [(C 64128 0 1 1), (.bool false), (C 64192 0 1 1)])], 1004, 64256, B133, (I 1), 1022, B134, [], []⟩
def B136 : List (Nat × List Value) := [(64000, [(.int .u64 (.ofNat 1))]), (64064, [(.int .u64 (.ofNat 1))]), (64128, [(.int .u64 (.ofNat 2))]), (64192, [(.int .u64 (.ofNat 1))]), (64256, [(.int .u64 (.ofNat 6))]), (64320, [(.int .u64 (.ofNat 1))]), (64384, [(C 64000 0 1 1), (.bool false), (C 64064 0 1 1), (C 64128 0 1 1), (.bool false), (C 64192 0 1 1), (C 64256 0 1 1), (.bool false), (C 64320 0 1 1)])]
def B137 : List (Nat × List Value) := [(64128, [(.int .u64 (.ofNat 2))]), (64320, [(.int .u64 (.ofNat 1))]), (64256, [(.int .u64 (.ofNat 6))]), (64192, [(.int .u64 (.ofNat 1))]), (64000, [(.int .u64 (.ofNat 1))]), (64064, [(.int .u64 (.ofNat 1))]), (64384, [(C 64000 0 1 1), (.bool false), (C 64064 0 1 1), (C 64128 0 1 1), (.bool false), (C 64192 0 1 1), (C 64256 0 1 1), (.bool false), (C 64320 0 1 1)])]
def Q138 : KC := ⟨155, [(C 64384 0 3 3), (I 0), (I 3), (.func (.func 73) ⟨[]⟩ ⟨[]⟩)], 1007, 64448, B136, (.tuple ⟨[]⟩), 1047, B137, [], []⟩
def Q139 : KC := ⟨110, [(C 64384 0 3 3), (.func (.func 73) ⟨[]⟩ ⟨[]⟩)], 1007, 64448, B136, (.tuple ⟨[]⟩), 1047, B137, [], []⟩
def B140 : List (Nat × List Value) := [(64000, [(.int .u64 (.ofNat 2))])]
def B141 : List (Nat × List Value) := [(64256, [(I 1)]), (64128, [(U 0), (U 50)]), (64192, [(C 64128 0 2 2)]), (64000, [(.int .u64 (.ofNat 2))]), (64064, [(C 64000 0 1 1), (.bool false)])]
def Q142 : KC := ⟨69, [(A [(C 64000 0 1 1), (.bool false)])], 1001, 64064, B140, (S [50]), 1005, B141, [], []⟩
def B143 : List (Nat × List Value) := [(64000, [(.int .u64 (.ofNat 1))])]
def B144 : List (Nat × List Value) := [(64256, [(I 1)]), (64128, [(U 0), (U 49)]), (64192, [(C 64128 0 2 2)]), (64000, [(.int .u64 (.ofNat 1))]), (64064, [(C 64000 0 1 1), (.bool false)])]
def Q145 : KC := ⟨69, [(A [(C 64000 0 1 1), (.bool false)])], 1001, 64064, B143, (S [49]), 1005, B144, [], []⟩
def B146 : List (Nat × List Value) := [(64000, [(.int .u64 (.ofNat 2))]), (64064, [(.int .u64 (.ofNat 1))])]
def B147 : List (Nat × List Value) := [(64064, [(.int .u64 (.ofNat 1))]), (64000, [(.int .u64 (.ofNat 2))])]
def Q148 : KC := ⟨40, [(A [(C 64000 0 1 1), (.bool false), (C 64064 0 1 1)])], 1002, 64128, B146, (.tuple ⟨[(A [(S [50]), (S [49])]), (I 0)]⟩), 1013, B147, [], []⟩
def B149 : List (Nat × List Value) := [(64002, [(S [49]), (S [49]), (S [50]), (S [49]), (S [54]), (S [49])])]
def B150 : List (Nat × List Value) := [(64002, [(S [49]), (S [49]), (S [50]), (S [49]), (S [54]), (S [49])])]
def Q151 : KC := ⟨21, [(C 64002 0 3 3)], 1001, 64064, B149, (.tuple ⟨[(A [(S [50]), (S [49])]), (I 0)]⟩), 1109, B150, [], []⟩
def B152 : List (Nat × List Value) := [(64000, [(I 1), (I 2)])]
def B153 : List (Nat × List Value) := [(64642, [(S [49]), (S [49]), (S [50]), (S [49])]), (64000, [(I 1), (I 2)])]
def Q154 : KC := ⟨20, [(C 64000 0 2 2)], 1001, 64064, B152, (C 64642 0 2 2), 1011, B153, [], []⟩
def L5 : List (Sum (FuncId × List Value × Value) KC) := [.inr Q117,
  .inr Q120,
  .inr Q123,
  .inr Q126,
  .inr Q129,
  .inr Q132,
  .inr Q135,
  .inr Q138,
  .inr Q139,
  .inr Q142,
  .inr Q145,
  .inr Q148,
  .inr Q151,
  .inr Q154]
def T5 : Tab := pushT T4 L5
def B155 : List (Nat × List Value) := [(64002, [(S [49]), (S [49]), (S [50]), (S [49])])]
def B156 : List (Nat × List Value) := [(65664, [(.int .u64 (.ofNat 2))]), (65984, [(.int .u64 (.ofNat 1))]), (64512, [(.int .u64 (.ofNat 1))]), (64832, [(.int .u64 (.ofNat 1))]), (64064, [(C 64512 0 1 1), (.bool false), (C 64832 0 1 1), (C 65664 0 1 1), (.bool false), (C 65984 0 1 1)]), (64002, [(S [49]), (S [49]), (S [50]), (S [49])])]
def Q157 : KC := ⟨36, [(C 64002 0 2 2)], 1001, 64064, B155, (.tuple ⟨[(C 64064 0 2 2), (I 0)]⟩), 1038, B156, [], []⟩
def B158 : List (Nat × List Value) := [(64000, [(.int .u64 (.ofNat 1))]), (64064, [(.int .u64 (.ofNat 1))]), (64128, [(.int .u64 (.ofNat 2))]), (64192, [(.int .u64 (.ofNat 1))]), (64256, [(C 64000 0 1 1), (.bool false), (C 64064 0 1 1), (C 64128 0 1 1), (.bool false), (C 64192 0 1 1)])]
def B159 : List (Nat × List Value) := [(64000, [(.int .u64 (.ofNat 1))]), (64192, [(.int .u64 (.ofNat 1))]), (64128, [(.int .u64 (.ofNat 2))]), (64064, [(.int .u64 (.ofNat 1))]), (64256, [(C 64000 0 1 1), (.bool false), (C 64064 0 1 1), (C 64128 0 1 1), (.bool false), (C 64192 0 1 1)])]
def Q160 : KC := ⟨155, [(C 64256 0 2 2), (I 0), (I 2), (.func (.func 73) ⟨[]⟩ ⟨[]⟩)], 1005, 64320, B158, (.tuple ⟨[]⟩), 1025, B159, [], []⟩
def Q161 : KC := ⟨110, [(C 64256 0 2 2), (.func (.func 73) ⟨[]⟩ ⟨[]⟩)], 1005, 64320, B158, (.tuple ⟨[]⟩), 1025, B159, [], []⟩
def B162 : List (Nat × List Value) := [(64000, [(.int .u64 (.ofNat 1))]), (64064, [(.int .u64 (.ofNat 1))]), (64128, [(.int .u64 (.ofNat 2))]), (64192, [(.int .u64 (.ofNat 1))])]
def B163 : List (Nat × List Value) := [(65728, [(.int .u64 (.ofNat 1)), (.int .u64 (.ofNat 0))]), (64064, [(.int .u64 (.ofNat 1))]), (64192, [(.int .u64 (.ofNat 1))]), (65536, [(.int .u64 (.ofNat 3)), (.int .u64 (.ofNat 0))]), (64128, [(.int .u64 (.ofNat 2))]), (64000, [(.int .u64 (.ofNat 1))])]
def Q164 : KC := ⟨38, [(A [(C 64000 0 1 1), (.bool false), (C 64064 0 1 1)]), (A [(C 64128 0 1 1), (.bool false), (C 64192 0 1 1)])], 1004, 64256, B162, (A [(C 65536 0 1 1), (.bool false), (C 65728 0 1 1)]), 1028, B163, [], []⟩
def B165 : List (Nat × List Value) := [(64000, [(.int .u64 (.ofNat 2)), (.int .u64 (.ofNat 0))])]
def B166 : List (Nat × List Value) := [(64192, [(.int .u64 (.ofNat 1)), (.int .u64 (.ofNat 0))]), (64128, [(C 64000 0 1 1), (.bool false), (C 64192 0 1 1)]), (64064, [(C 64000 0 1 1), (.bool false)]), (64000, [(.int .u64 (.ofNat 2)), (.int .u64 (.ofNat 0))])]
def Q167 : KC := ⟨57, [(A [(C 64000 0 1 1), (.bool false)])], 1001, 64064, B165, (A [(C 64000 0 1 1), (.bool false), (C 64192 0 1 1)]), 1004, B166, [], []⟩
def B168 : List (Nat × List Value) := [(64000, [(.int .u64 (.ofNat 3)), (.int .u64 (.ofNat 0))])]
def B169 : List (Nat × List Value) := [(64064, [(.int .u64 (.ofNat 1))]), (64000, [(.int .u64 (.ofNat 3)), (.int .u64 (.ofNat 0))])]
def Q170 : KC := ⟨92, [(C 64000 0 1 1), (.int .u64 (.ofNat 2))], 1001, 64064, B168, (.tuple ⟨[(C 64064 0 1 1), (.int .u64 (.ofNat 1))]⟩), 1002, B169, [], []⟩
def B171 : List (Nat × List Value) := [(64000, [(.int .u64 (.ofNat 3)), (.int .u64 (.ofNat 0))]), (64064, [(.int .u64 (.ofNat 2)), (.int .u64 (.ofNat 0))])]
def B172 : List (Nat × List Value) := [(64192, [(.int .u64 (.ofNat 1)), (.int .u64 (.ofNat 0))]), (64128, [(.int .u64 (.ofNat 1))]), (64000, [(.int .u64 (.ofNat 3)), (.int .u64 (.ofNat 0))]), (64064, [(.int .u64 (.ofNat 2)), (.int .u64 (.ofNat 0))])]
def Q173 : KC := ⟨59, [(C 64000 0 1 1), (C 64064 0 1 1)], 1002, 64128, B171, (C 64192 0 1 1), 1004, B172, [], []⟩
def B174 : List (Nat × List Value) := [(64000, [(.int .u64 (.ofNat 3)), (.int .u64 (.ofNat 0))]), (64064, [(.int .u64 (.ofNat 1)), (.int .u64 (.ofNat 0))])]
def B175 : List (Nat × List Value) := [(64128, [(.int .u64 (.ofNat 3)), (.int .u64 (.ofNat 0))]), (64000, [(.int .u64 (.ofNat 3)), (.int .u64 (.ofNat 0))]), (64064, [(.int .u64 (.ofNat 1)), (.int .u64 (.ofNat 0))])]
def Q176 : KC := ⟨66, [(C 64000 0 1 1), (C 64064 0 1 1)], 1002, 64128, B174, (C 64128 0 1 1), 1003, B175, [], []⟩
def L6 : List (Sum (FuncId × List Value × Value) KC) := [.inr Q157,
  .inr Q160,
  .inr Q161,
  .inr Q164,
  .inr Q167,
  .inr Q170,
  .inr Q173,
  .inr Q176,
  .inl (98, [(.int .u64 (.ofNat 1)), (.int .u64 (.ofNat 2))], (.tuple ⟨[(.int .u64 (.ofNat 0)), (.int .u64 (.ofNat 2))]⟩))]
def T6 : Tab := pushT T5 L6
def B177 : List (Nat × List Value) := [(64000, [(.int .u64 (.ofNat 1)), (.int .u64 (.ofNat 0))]), (64064, [(.int .u64 (.ofNat 2)), (.int .u64 (.ofNat 0))])]
def B178 : List (Nat × List Value) := [(64128, [(.int .u64 (.ofNat 2)), (.int .u64 (.ofNat 0))]), (64000, [(.int .u64 (.ofNat 1)), (.int .u64 (.ofNat 0))]), (64064, [(.int .u64 (.ofNat 2)), (.int .u64 (.ofNat 0))])]
def Q179 : KC := ⟨66, [(C 64000 0 1 1), (C 64064 0 1 1)], 1002, 64128, B177, (C 64128 0 1 1), 1003, B178, [], []⟩
def B180 : List (Nat × List Value) := [(64000, [(.int .u64 (.ofNat 3)), (.int .u64 (.ofNat 0))]), (64064, [(.int .u64 (.ofNat 1)), (.int .u64 (.ofNat 0))]), (64128, [(.int .u64 (.ofNat 1)), (.int .u64 (.ofNat 0))]), (64192, [(.int .u64 (.ofNat 2)), (.int .u64 (.ofNat 0))])]
def B181 : List (Nat × List Value) := [(64768, [(.int .u64 (.ofNat 2)), (.int .u64 (.ofNat 0))]), (64064, [(.int .u64 (.ofNat 1)), (.int .u64 (.ofNat 0))]), (64192, [(.int .u64 (.ofNat 2)), (.int .u64 (.ofNat 0))]), (64704, [(.int .u64 (.ofNat 3)), (.int .u64 (.ofNat 0))]), (64000, [(.int .u64 (.ofNat 3)), (.int .u64 (.ofNat 0))]), (64128, [(.int .u64 (.ofNat 1)), (.int .u64 (.ofNat 0))])]
def Q182 : KC := ⟨67, [(A [(C 64000 0 1 1), (.bool false), (C 64064 0 1 1)]), (A [(C 64128 0 1 1), (.bool false), (C 64192 0 1 1)])], 1004, 64256, B180, (A [(C 64704 0 1 1), (.bool false), (C 64768 0 1 1)]), 1013, B181, [], []⟩
def B183 : List (Nat × List Value) := [(64000, [(.int .u64 (.ofNat 2)), (.int .u64 (.ofNat 0))])]
def B184 : List (Nat × List Value) := [(64256, [(I 1)]), (64128, [(U 0), (U 50)]), (64192, [(C 64128 0 2 2)]), (64000, [(.int .u64 (.ofNat 2)), (.int .u64 (.ofNat 0))]), (64064, [(C 64000 0 1 1), (.bool false)])]
def Q185 : KC := ⟨69, [(A [(C 64000 0 1 1), (.bool false)])], 1001, 64064, B183, (S [50]), 1005, B184, [], []⟩
def B186 : List (Nat × List Value) := [(64000, [(.int .u64 (.ofNat 3)), (.int .u64 (.ofNat 0))]), (64064, [(.int .u64 (.ofNat 2)), (.int .u64 (.ofNat 0))])]
def B187 : List (Nat × List Value) := [(64064, [(.int .u64 (.ofNat 2)), (.int .u64 (.ofNat 0))]), (64000, [(.int .u64 (.ofNat 3)), (.int .u64 (.ofNat 0))])]
def Q188 : KC := ⟨40, [(A [(C 64000 0 1 1), (.bool false), (C 64064 0 1 1)])], 1002, 64128, B186, (.tuple ⟨[(A [(S [51]), (S [50])]), (I 0)]⟩), 1013, B187, [], []⟩
def B189 : List (Nat × List Value) := [(64002, [(S [49]), (S [49]), (S [50]), (S [49])])]
def B190 : List (Nat × List Value) := [(64002, [(S [49]), (S [49]), (S [50]), (S [49])])]
def Q191 : KC := ⟨21, [(C 64002 0 2 2)], 1001, 64064, B189, (.tuple ⟨[(A [(S [51]), (S [50])]), (I 0)]⟩), 1113, B190, [], []⟩
def B192 : List (Nat × List Value) := [(64000, [(.int .u64 (.ofNat 6))])]
def B193 : List (Nat × List Value) := [(64256, [(I 1)]), (64128, [(U 0), (U 54)]), (64192, [(C 64128 0 2 2)]), (64000, [(.int .u64 (.ofNat 6))]), (64064, [(C 64000 0 1 1), (.bool false)])]
def Q194 : KC := ⟨69, [(A [(C 64000 0 1 1), (.bool false)])], 1001, 64064, B192, (S [54]), 1005, B193, [], []⟩
def B195 : List (Nat × List Value) := [(64000, [(.int .u64 (.ofNat 6))]), (64064, [(.int .u64 (.ofNat 1))])]
def B196 : List (Nat × List Value) := [(64064, [(.int .u64 (.ofNat 1))]), (64000, [(.int .u64 (.ofNat 6))])]
def Q197 : KC := ⟨40, [(A [(C 64000 0 1 1), (.bool false), (C 64064 0 1 1)])], 1002, 64128, B195, (.tuple ⟨[(A [(S [54]), (S [49])]), (I 0)]⟩), 1013, B196, [], []⟩
def B198 : List (Nat × List Value) := [(64002, [(S [49]), (S [49]), (S [50]), (S [49]), (S [54]), (S [49])])]
def B199 : List (Nat × List Value) := [(64002, [(S [49]), (S [49]), (S [50]), (S [49]), (S [54]), (S [49])])]
def Q200 : KC := ⟨22, [(C 64002 0 3 3), (I 67)], 1001, 64064, B198, (.tuple ⟨[(A [(S [54]), (S [49])]), (I 0)]⟩), 1109, B199, [], []⟩
def B201 : List (Nat × List Value) := [(64000, [(I 1)])]
def B202 : List (Nat × List Value) := [(64322, [(S [49]), (S [49])]), (64256, [(S [49]), (S [49])]), (64192, [(S [49]), (S [49])]), (64000, [(I 1)])]
def Q203 : KC := ⟨20, [(C 64000 0 1 1)], 1001, 64064, B201, (C 64322 0 1 1), 1006, B202, [], []⟩
def B204 : List (Nat × List Value) := [(64002, [(S [49]), (S [49])])]
def B205 : List (Nat × List Value) := [(64512, [(.int .u64 (.ofNat 1))]), (64832, [(.int .u64 (.ofNat 1))]), (64064, [(C 64512 0 1 1), (.bool false), (C 64832 0 1 1)]), (64002, [(S [49]), (S [49])])]
def Q206 : KC := ⟨36, [(C 64002 0 1 1)], 1001, 64064, B204, (.tuple ⟨[(C 64064 0 1 1), (I 0)]⟩), 1020, B205, [], []⟩
def B207 : List (Nat × List Value) := [(64000, [(I 0)])]
def B208 : List (Nat × List Value) := [(64064, [(S [97]), (C 64000 0 1 1), (I 0), (I 0), (I 0)]), (64000, [(I 0)])]
def Q209 : KC := ⟨75, [(A [(S [97]), (C 64000 0 1 1), (I 0), (I 0), (I 0)])], 1001, 64064, B207, (.bool true), 1002, B208, [], []⟩
def B210 : List (Nat × List Value) := [(64000, [(I 5000)])]
def B211 : List (Nat × List Value) := [(64064, [(S [98]), (C 64000 0 1 1), (I 6000), (I 0), (I 0)]), (64000, [(I 5000)])]
def Q212 : KC := ⟨75, [(A [(S [98]), (C 64000 0 1 1), (I 6000), (I 0), (I 0)])], 1001, 64064, B210, (.bool true), 1002, B211, [], []⟩
def B213 : List (Nat × List Value) := [(64000, [(I 10000)])]
def B214 : List (Nat × List Value) := [(64064, [(S [99]), (C 64000 0 1 1), (I 10000), (I 0), (I 0)]), (64000, [(I 10000)])]
def Q215 : KC := ⟨75, [(A [(S [99]), (C 64000 0 1 1), (I 10000), (I 0), (I 0)])], 1001, 64064, B213, (.bool true), 1002, B214, [], []⟩
def L7 : List (Sum (FuncId × List Value × Value) KC) := [.inr Q179,
  .inr Q182,
  .inr Q185,
  .inr Q188,
  .inr Q191,
  .inr Q194,
  .inr Q197,
  .inr Q200,
  .inr Q203,
  .inr Q206,
  .inl (112, [(S [97])], (.bool true)),
  .inr Q209,
  .inl (112, [(S [98])], (.bool true)),
  .inr Q212,
  .inl (112, [(S [99])], (.bool true)),
  .inr Q215]
def T7 : Tab := pushT T6 L7
def B216 : List (Nat × List Value) := [(64000, [(I 0)]), (64064, [(I 5000)]), (64128, [(I 10000)]), (64192, [(S [97]), (C 64000 0 1 1), (I 0), (I 0), (I 0), (S [98]), (C 64064 0 1 1), (I 6000), (I 0), (I 0), (S [99]), (C 64128 0 1 1), (I 10000), (I 0), (I 0)])]
def B217 : List (Nat × List Value) := [(64128, [(I 10000)]), (64064, [(I 5000)]), (64000, [(I 0)]), (64192, [(S [97]), (C 64000 0 1 1), (I 0), (I 0), (I 0), (S [98]), (C 64064 0 1 1), (I 6000), (I 0), (I 0), (S [99]), (C 64128 0 1 1), (I 10000), (I 0), (I 0)])]
def Q218 : KC := ⟨44, [(C 64192 0 3 3)], 1004, 64256, B216, (I 0), 1011, B217, [], [(64256, .map [((S [97]), (.bool true)), ((S [98]), (.bool true)), ((S [99]), (.bool true))])]⟩
def B219 : List (Nat × List Value) := [(64000, [(I 0), (I 1), (I 2)])]
def B220 : List (Nat × List Value) := [(64577, [(I 2)]), (64449, [(I 1)]), (64321, [(I 0)]), (64192, [(.map (some 64128))]), (64064, [(I 3)]), (64000, [(I 0), (I 1), (I 2)])]
def Q221 : KC := ⟨78, [(C 64000 0 3 3), (I 3)], 1001, 64064, B219, (.func (.func 114) ⟨[]⟩ ⟨[(Z 64064 0), (Z 64192 0)]⟩), 1010, B220, [], [(64128, .map [((I 0), (C 64321 0 1 1)), ((I 1), (C 64449 0 1 1)), ((I 2), (C 64577 0 1 1))])]⟩
def B222 : List (Nat × List Value) := [(64000, [(.int .u64 (.ofNat 1)), (.int .u64 (.ofNat 0))])]
def B223 : List (Nat × List Value) := [(64192, [(.int .u64 (.ofNat 1)), (.int .u64 (.ofNat 0))]), (64128, [(C 64000 0 1 1), (.bool false), (C 64192 0 1 1)]), (64064, [(C 64000 0 1 1), (.bool false)]), (64000, [(.int .u64 (.ofNat 1)), (.int .u64 (.ofNat 0))])]
def Q224 : KC := ⟨57, [(A [(C 64000 0 1 1), (.bool false)])], 1001, 64064, B222, (A [(C 64000 0 1 1), (.bool false), (C 64192 0 1 1)]), 1004, B223, [], []⟩
def B225 : List (Nat × List Value) := [(64000, [(.int .u64 (.ofNat 10000)), (.int .u64 (.ofNat 0))])]
def B226 : List (Nat × List Value) := [(64064, [(.int .u64 (.ofNat 1))]), (64000, [(.int .u64 (.ofNat 10000)), (.int .u64 (.ofNat 0))])]
def Q227 : KC := ⟨92, [(C 64000 0 1 1), (.int .u64 (.ofNat 10000))], 1001, 64064, B225, (.tuple ⟨[(C 64064 0 1 1), (.int .u64 (.ofNat 0))]⟩), 1002, B226, [], []⟩
def B228 : List (Nat × List Value) := [(64000, [(.int .u64 (.ofNat 10000)), (.int .u64 (.ofNat 0))])]
def B229 : List (Nat × List Value) := [(64128, [(.int .u64 (.ofNat 0)), (.int .u64 (.ofNat 0))]), (64064, [(.int .u64 (.ofNat 1))]), (64000, [(.int .u64 (.ofNat 10000)), (.int .u64 (.ofNat 0))])]
def Q230 : KC := ⟨61, [(C 64000 0 1 1), (C 64000 0 1 1)], 1001, 64064, B228, (.tuple ⟨[(C 64064 0 1 1), (C 64128 0 0 0)]⟩), 1003, B229, [], []⟩
def B231 : List (Nat × List Value) := [(64000, [(.int .u64 (.ofNat 0)), (.int .u64 (.ofNat 0))]), (64064, [(.int .u64 (.ofNat 10000)), (.int .u64 (.ofNat 0))])]
def B232 : List (Nat × List Value) := [(64320, [(.int .u64 (.ofNat 0)), (.int .u64 (.ofNat 0))]), (64256, [(.int .u64 (.ofNat 1))]), (64064, [(.int .u64 (.ofNat 10000)), (.int .u64 (.ofNat 0))]), (64000, [(.int .u64 (.ofNat 0)), (.int .u64 (.ofNat 0))]), (64192, [(.slice none 0 0), (.bool false), (C 64256 0 1 1)]), (64128, [(.slice none 0 0), (.bool false)])]
def Q233 : KC := ⟨109, [(A [(C 64000 0 0 0), (.bool false)]), (C 64064 0 1 1)], 1002, 64128, B231, (A [(.slice none 0 0), (.bool false), (C 64256 0 1 1)]), 1006, B232, [], []⟩
def B234 : List (Nat × List Value) := [(64000, [(I 0)])]
def B235 : List (Nat × List Value) := [(65283, [(C 64768 0 1 1), (.bool false), (C 64960 0 1 1), (.slice none 0 0), (.bool false), (C 64512 0 1 1)]), (64512, [(.int .u64 (.ofNat 1))]), (64768, [(.int .u64 (.ofNat 1)), (.int .u64 (.ofNat 0))]), (64960, [(.int .u64 (.ofNat 1)), (.int .u64 (.ofNat 0))]), (64000, [(I 0)])]
def Q236 : KC := ⟨121, [(I 1), (C 64000 0 1 1)], 1001, 64064, B234, (C 65283 0 2 2), 1021, B235, [], [(65152, .map [((I 1), (.func (.func 164) ⟨[]⟩ ⟨[(Z 65024 0)]⟩)), ((I 2), (.func (.func 165) ⟨[]⟩ ⟨[(Z 65088 0)]⟩)), ((I 3), (.func (.func 166) ⟨[]⟩ ⟨[(Z 65024 0)]⟩))])]⟩
def B237 : List (Nat × List Value) := [(64000, [(.int .u64 (.ofNat 1)), (.int .u64 (.ofNat 0))]), (64064, [(.int .u64 (.ofNat 1)), (.int .u64 (.ofNat 0))])]
def B238 : List (Nat × List Value) := [(64064, [(.int .u64 (.ofNat 1)), (.int .u64 (.ofNat 0))]), (64000, [(.int .u64 (.ofNat 1)), (.int .u64 (.ofNat 0))])]
def Q239 : KC := ⟨40, [(A [(C 64000 0 1 1), (.bool false), (C 64064 0 1 1)])], 1002, 64128, B237, (.tuple ⟨[(A [(S [49]), (S [49])]), (I 0)]⟩), 1013, B238, [], []⟩
def B240 : List (Nat × List Value) := [(64000, [(.int .u64 (.ofNat 1))])]
def B241 : List (Nat × List Value) := [(64000, [(.int .u64 (.ofNat 1))])]
def Q242 : KC := ⟨40, [(A [(.slice none 0 0), (.bool false), (C 64000 0 1 1)])], 1001, 64064, B240, (.tuple ⟨[(A [(S [48]), (S [49])]), (I 0)]⟩), 1009, B241, [], []⟩
def B243 : List (Nat × List Value) := [(64000, [(.int .u64 (.ofNat 1)), (.int .u64 (.ofNat 0))]), (64064, [(.int .u64 (.ofNat 1)), (.int .u64 (.ofNat 0))]), (64128, [(.int .u64 (.ofNat 1))]), (64195, [(C 64000 0 1 1), (.bool false), (C 64064 0 1 1), (.slice none 0 0), (.bool false), (C 64128 0 1 1)])]
def B244 : List (Nat × List Value) := [(64128, [(.int .u64 (.ofNat 1))]), (64064, [(.int .u64 (.ofNat 1)), (.int .u64 (.ofNat 0))]), (64000, [(.int .u64 (.ofNat 1)), (.int .u64 (.ofNat 0))]), (64256, [(S [49]), (S [49]), (S [48]), (S [49])]), (64195, [(C 64000 0 1 1), (.bool false), (C 64064 0 1 1), (.slice none 0 0), (.bool false), (C 64128 0 1 1)])]
def Q245 : KC := ⟨120, [(C 64195 0 2 2)], 1004, 64256, B243, (C 64256 0 2 2), 1030, B244, [], []⟩
def B246 : List (Nat × List Value) := [(64000, [(.int .u64 (.ofNat 10000)), (.int .u64 (.ofNat 0))])]
def B247 : List (Nat × List Value) := [(64064, [(.int .u64 (.ofNat 2))]), (64000, [(.int .u64 (.ofNat 10000)), (.int .u64 (.ofNat 0))])]
def Q248 : KC := ⟨92, [(C 64000 0 1 1), (.int .u64 (.ofNat 5000))], 1001, 64064, B246, (.tuple ⟨[(C 64064 0 1 1), (.int .u64 (.ofNat 0))]⟩), 1002, B247, [], []⟩
def B249 : List (Nat × List Value) := [(64000, [(.int .u64 (.ofNat 5000)), (.int .u64 (.ofNat 0))]), (64064, [(.int .u64 (.ofNat 10000)), (.int .u64 (.ofNat 0))])]
def B250 : List (Nat × List Value) := [(64192, [(.int .u64 (.ofNat 5000)), (.int .u64 (.ofNat 0))]), (64128, [(.int .u64 (.ofNat 2))]), (64064, [(.int .u64 (.ofNat 10000)), (.int .u64 (.ofNat 0))]), (64000, [(.int .u64 (.ofNat 5000)), (.int .u64 (.ofNat 0))])]
def Q251 : KC := ⟨59, [(C 64000 0 1 1), (C 64064 0 1 1)], 1002, 64128, B249, (C 64192 0 1 1), 1004, B250, [], []⟩
def B252 : List (Nat × List Value) := [(64000, [(.int .u64 (.ofNat 5000)), (.int .u64 (.ofNat 0))])]
def B253 : List (Nat × List Value) := [(64064, [(.int .u64 (.ofNat 1))]), (64000, [(.int .u64 (.ofNat 5000)), (.int .u64 (.ofNat 0))])]
def Q254 : KC := ⟨92, [(C 64000 0 1 1), (.int .u64 (.ofNat 5000))], 1001, 64064, B252, (.tuple ⟨[(C 64064 0 1 1), (.int .u64 (.ofNat 0))]⟩), 1002, B253, [], []⟩
def B255 : List (Nat × List Value) := [(64000, [(.int .u64 (.ofNat 5000)), (.int .u64 (.ofNat 0))]), (64064, [(.int .u64 (.ofNat 5000)), (.int .u64 (.ofNat 0))])]
def B256 : List (Nat × List Value) := [(64192, [(.int .u64 (.ofNat 0)), (.int .u64 (.ofNat 0))]), (64128, [(.int .u64 (.ofNat 1))]), (64000, [(.int .u64 (.ofNat 5000)), (.int .u64 (.ofNat 0))]), (64064, [(.int .u64 (.ofNat 5000)), (.int .u64 (.ofNat 0))])]
def Q257 : KC := ⟨61, [(C 64000 0 1 1), (C 64064 0 1 1)], 1002, 64128, B255, (.tuple ⟨[(C 64128 0 1 1), (C 64192 0 0 0)]⟩), 1004, B256, [], []⟩
def B258 : List (Nat × List Value) := [(64000, [(.int .u64 (.ofNat 10000)), (.int .u64 (.ofNat 0))]), (64064, [(.int .u64 (.ofNat 5000)), (.int .u64 (.ofNat 0))])]
def B259 : List (Nat × List Value) := [(64192, [(.int .u64 (.ofNat 0)), (.int .u64 (.ofNat 0))]), (64128, [(.int .u64 (.ofNat 2))]), (64000, [(.int .u64 (.ofNat 10000)), (.int .u64 (.ofNat 0))]), (64064, [(.int .u64 (.ofNat 5000)), (.int .u64 (.ofNat 0))])]
def Q260 : KC := ⟨61, [(C 64000 0 1 1), (C 64064 0 1 1)], 1002, 64128, B258, (.tuple ⟨[(C 64128 0 1 1), (C 64192 0 0 0)]⟩), 1004, B259, [], []⟩
def B261 : List (Nat × List Value) := [(64000, [(.int .u64 (.ofNat 5000)), (.int .u64 (.ofNat 0))]), (64064, [(.int .u64 (.ofNat 10000)), (.int .u64 (.ofNat 0))])]
def B262 : List (Nat × List Value) := [(64512, [(.int .u64 (.ofNat 2))]), (64064, [(.int .u64 (.ofNat 10000)), (.int .u64 (.ofNat 0))]), (64384, [(.int .u64 (.ofNat 1))]), (64000, [(.int .u64 (.ofNat 5000)), (.int .u64 (.ofNat 0))])]
def Q263 : KC := ⟨109, [(A [(C 64000 0 1 1), (.bool false)]), (C 64064 0 1 1)], 1002, 64128, B261, (A [(C 64384 0 1 1), (.bool false), (C 64512 0 1 1)]), 1010, B262, [], []⟩
def B264 : List (Nat × List Value) := [(64000, [(I 5000)])]
def B265 : List (Nat × List Value) := [(65539, [(C 65024 0 1 1), (.bool false), (C 65216 0 1 1), (C 64640 0 1 1), (.bool false), (C 64768 0 1 1)]), (64640, [(.int .u64 (.ofNat 1))]), (64768, [(.int .u64 (.ofNat 2))]), (65024, [(.int .u64 (.ofNat 1)), (.int .u64 (.ofNat 0))]), (65216, [(.int .u64 (.ofNat 1)), (.int .u64 (.ofNat 0))]), (64000, [(I 5000)])]
def Q266 : KC := ⟨121, [(I 1), (C 64000 0 1 1)], 1001, 64064, B264, (C 65539 0 2 2), 1025, B265, [], [(65408, .map [((I 1), (.func (.func 164) ⟨[]⟩ ⟨[(Z 65280 0)]⟩)), ((I 2), (.func (.func 165) ⟨[]⟩ ⟨[(Z 65344 0)]⟩)), ((I 3), (.func (.func 166) ⟨[]⟩ ⟨[(Z 65280 0)]⟩))])]⟩
def L8 : List (Sum (FuncId × List Value × Value) KC) := [.inr Q218,
  .inr Q221,
  .inr Q224,
  .inl (116, [(I 1)], (.bool true)),
  .inr Q227,
  .inr Q230,
  .inr Q233,
  .inr Q236,
  .inr Q239,
  .inr Q242,
  .inr Q245,
  .inl (107, [(A [(I 0), (I 1)])], (A [(S [48]), (S [49])])),
  .inl (70, [(I 0), (I 1)], (.tuple ⟨[(A [(S [48]), (S [49])]), (.bool true)]⟩)),
  .inr Q248,
  .inr Q251,
  .inr Q254,
  .inr Q257,
  .inr Q260,
  .inr Q263,
  .inr Q266]
def T8 : Tab := pushT T7 L8
def B267 : List (Nat × List Value) := [(64000, [(.int .u64 (.ofNat 1))]), (64064, [(.int .u64 (.ofNat 2))])]
def B268 : List (Nat × List Value) := [(64064, [(.int .u64 (.ofNat 2))]), (64000, [(.int .u64 (.ofNat 1))])]
def Q269 : KC := ⟨40, [(A [(C 64000 0 1 1), (.bool false), (C 64064 0 1 1)])], 1002, 64128, B267, (.tuple ⟨[(A [(S [49]), (S [50])]), (I 0)]⟩), 1013, B268, [], []⟩
def B270 : List (Nat × List Value) := [(64000, [(.int .u64 (.ofNat 1)), (.int .u64 (.ofNat 0))]), (64064, [(.int .u64 (.ofNat 1)), (.int .u64 (.ofNat 0))]), (64128, [(.int .u64 (.ofNat 1))]), (64192, [(.int .u64 (.ofNat 2))]), (64259, [(C 64000 0 1 1), (.bool false), (C 64064 0 1 1), (C 64128 0 1 1), (.bool false), (C 64192 0 1 1)])]
def B271 : List (Nat × List Value) := [(64192, [(.int .u64 (.ofNat 2))]), (64128, [(.int .u64 (.ofNat 1))]), (64064, [(.int .u64 (.ofNat 1)), (.int .u64 (.ofNat 0))]), (64000, [(.int .u64 (.ofNat 1)), (.int .u64 (.ofNat 0))]), (64320, [(S [49]), (S [49]), (S [49]), (S [50])]), (64259, [(C 64000 0 1 1), (.bool false), (C 64064 0 1 1), (C 64128 0 1 1), (.bool false), (C 64192 0 1 1)])]
def Q272 : KC := ⟨120, [(C 64259 0 2 2)], 1005, 64320, B270, (C 64320 0 2 2), 1034, B271, [], []⟩
def B273 : List (Nat × List Value) := [(64000, [(.int .u64 (.ofNat 10000)), (.int .u64 (.ofNat 0))]), (64064, [(.int .u64 (.ofNat 10000)), (.int .u64 (.ofNat 0))])]
def B274 : List (Nat × List Value) := [(64192, [(.int .u64 (.ofNat 10000)), (.int .u64 (.ofNat 0))]), (64128, [(.int .u64 (.ofNat 1))]), (64000, [(.int .u64 (.ofNat 10000)), (.int .u64 (.ofNat 0))]), (64064, [(.int .u64 (.ofNat 10000)), (.int .u64 (.ofNat 0))])]
def Q275 : KC := ⟨59, [(C 64000 0 1 1), (C 64064 0 1 1)], 1002, 64128, B273, (C 64192 0 1 1), 1004, B274, [], []⟩
def B276 : List (Nat × List Value) := [(64000, [(.int .u64 (.ofNat 10000)), (.int .u64 (.ofNat 0))]), (64064, [(.int .u64 (.ofNat 10000)), (.int .u64 (.ofNat 0))])]
def B277 : List (Nat × List Value) := [(64192, [(.int .u64 (.ofNat 0)), (.int .u64 (.ofNat 0))]), (64128, [(.int .u64 (.ofNat 1))]), (64000, [(.int .u64 (.ofNat 10000)), (.int .u64 (.ofNat 0))]), (64064, [(.int .u64 (.ofNat 10000)), (.int .u64 (.ofNat 0))])]
def Q278 : KC := ⟨61, [(C 64000 0 1 1), (C 64064 0 1 1)], 1002, 64128, B276, (.tuple ⟨[(C 64128 0 1 1), (C 64192 0 0 0)]⟩), 1004, B277, [], []⟩
def B279 : List (Nat × List Value) := [(64000, [(.int .u64 (.ofNat 10000)), (.int .u64 (.ofNat 0))]), (64064, [(.int .u64 (.ofNat 10000)), (.int .u64 (.ofNat 0))])]
def B280 : List (Nat × List Value) := [(64512, [(.int .u64 (.ofNat 1))]), (64064, [(.int .u64 (.ofNat 10000)), (.int .u64 (.ofNat 0))]), (64384, [(.int .u64 (.ofNat 1))]), (64000, [(.int .u64 (.ofNat 10000)), (.int .u64 (.ofNat 0))])]
def Q281 : KC := ⟨109, [(A [(C 64000 0 1 1), (.bool false)]), (C 64064 0 1 1)], 1002, 64128, B279, (A [(C 64384 0 1 1), (.bool false), (C 64512 0 1 1)]), 1010, B280, [], []⟩
def B282 : List (Nat × List Value) := [(64000, [(I 10000)])]
def B283 : List (Nat × List Value) := [(65539, [(C 65024 0 1 1), (.bool false), (C 65216 0 1 1), (C 64640 0 1 1), (.bool false), (C 64768 0 1 1)]), (64640, [(.int .u64 (.ofNat 1))]), (64768, [(.int .u64 (.ofNat 1))]), (65024, [(.int .u64 (.ofNat 1)), (.int .u64 (.ofNat 0))]), (65216, [(.int .u64 (.ofNat 1)), (.int .u64 (.ofNat 0))]), (64000, [(I 10000)])]
def Q284 : KC := ⟨121, [(I 1), (C 64000 0 1 1)], 1001, 64064, B282, (C 65539 0 2 2), 1025, B283, [], [(65408, .map [((I 1), (.func (.func 164) ⟨[]⟩ ⟨[(Z 65280 0)]⟩)), ((I 2), (.func (.func 165) ⟨[]⟩ ⟨[(Z 65344 0)]⟩)), ((I 3), (.func (.func 166) ⟨[]⟩ ⟨[(Z 65280 0)]⟩))])]⟩
def B285 : List (Nat × List Value) := [(64000, [(.int .u64 (.ofNat 1))]), (64064, [(.int .u64 (.ofNat 1))])]
def B286 : List (Nat × List Value) := [(64064, [(.int .u64 (.ofNat 1))]), (64000, [(.int .u64 (.ofNat 1))])]
def Q287 : KC := ⟨40, [(A [(C 64000 0 1 1), (.bool false), (C 64064 0 1 1)])], 1002, 64128, B285, (.tuple ⟨[(A [(S [49]), (S [49])]), (I 0)]⟩), 1013, B286, [], []⟩
def B288 : List (Nat × List Value) := [(64000, [(.int .u64 (.ofNat 1)), (.int .u64 (.ofNat 0))]), (64064, [(.int .u64 (.ofNat 1)), (.int .u64 (.ofNat 0))]), (64128, [(.int .u64 (.ofNat 1))]), (64192, [(.int .u64 (.ofNat 1))]), (64259, [(C 64000 0 1 1), (.bool false), (C 64064 0 1 1), (C 64128 0 1 1), (.bool false), (C 64192 0 1 1)])]
def B289 : List (Nat × List Value) := [(64192, [(.int .u64 (.ofNat 1))]), (64128, [(.int .u64 (.ofNat 1))]), (64064, [(.int .u64 (.ofNat 1)), (.int .u64 (.ofNat 0))]), (64000, [(.int .u64 (.ofNat 1)), (.int .u64 (.ofNat 0))]), (64320, [(S [49]), (S [49]), (S [49]), (S [49])]), (64259, [(C 64000 0 1 1), (.bool false), (C 64064 0 1 1), (C 64128 0 1 1), (.bool false), (C 64192 0 1 1)])]
def Q290 : KC := ⟨120, [(C 64259 0 2 2)], 1005, 64320, B288, (C 64320 0 2 2), 1034, B289, [], []⟩
def B291 : List (Nat × List Value) := [(64000, [(.int .u64 (.ofNat 100)), (.int .u64 (.ofNat 0))])]
def B292 : List (Nat × List Value) := [(64064, [(.int .u64 (.ofNat 1))]), (64000, [(.int .u64 (.ofNat 100)), (.int .u64 (.ofNat 0))])]
def Q293 : KC := ⟨92, [(C 64000 0 1 1), (.int .u64 (.ofNat 100))], 1001, 64064, B291, (.tuple ⟨[(C 64064 0 1 1), (.int .u64 (.ofNat 0))]⟩), 1002, B292, [], []⟩
def B294 : List (Nat × List Value) := [(64000, [(.int .u64 (.ofNat 100)), (.int .u64 (.ofNat 0))])]
def B295 : List (Nat × List Value) := [(64128, [(.int .u64 (.ofNat 0)), (.int .u64 (.ofNat 0))]), (64064, [(.int .u64 (.ofNat 1))]), (64000, [(.int .u64 (.ofNat 100)), (.int .u64 (.ofNat 0))])]
def Q296 : KC := ⟨61, [(C 64000 0 1 1), (C 64000 0 1 1)], 1001, 64064, B294, (.tuple ⟨[(C 64064 0 1 1), (C 64128 0 0 0)]⟩), 1003, B295, [], []⟩
def B297 : List (Nat × List Value) := [(64000, [(.int .u64 (.ofNat 0)), (.int .u64 (.ofNat 0))]), (64064, [(.int .u64 (.ofNat 100)), (.int .u64 (.ofNat 0))])]
def B298 : List (Nat × List Value) := [(64320, [(.int .u64 (.ofNat 0)), (.int .u64 (.ofNat 0))]), (64256, [(.int .u64 (.ofNat 1))]), (64064, [(.int .u64 (.ofNat 100)), (.int .u64 (.ofNat 0))]), (64000, [(.int .u64 (.ofNat 0)), (.int .u64 (.ofNat 0))]), (64192, [(.slice none 0 0), (.bool false), (C 64256 0 1 1)]), (64128, [(.slice none 0 0), (.bool false)])]
def Q299 : KC := ⟨109, [(A [(C 64000 0 0 0), (.bool false)]), (C 64064 0 1 1)], 1002, 64128, B297, (A [(.slice none 0 0), (.bool false), (C 64256 0 1 1)]), 1006, B298, [], []⟩
def B300 : List (Nat × List Value) := [(64000, [(.int .u64 (.ofNat 6000)), (.int .u64 (.ofNat 0))])]
def B301 : List (Nat × List Value) := [(64064, [(.int .u64 (.ofNat 60))]), (64000, [(.int .u64 (.ofNat 6000)), (.int .u64 (.ofNat 0))])]
def Q302 : KC := ⟨92, [(C 64000 0 1 1), (.int .u64 (.ofNat 100))], 1001, 64064, B300, (.tuple ⟨[(C 64064 0 1 1), (.int .u64 (.ofNat 0))]⟩), 1002, B301, [], []⟩
def B303 : List (Nat × List Value) := [(64000, [(.int .u64 (.ofNat 6000)), (.int .u64 (.ofNat 0))]), (64064, [(.int .u64 (.ofNat 100)), (.int .u64 (.ofNat 0))])]
def B304 : List (Nat × List Value) := [(64192, [(.int .u64 (.ofNat 100)), (.int .u64 (.ofNat 0))]), (64128, [(.int .u64 (.ofNat 60))]), (64000, [(.int .u64 (.ofNat 6000)), (.int .u64 (.ofNat 0))]), (64064, [(.int .u64 (.ofNat 100)), (.int .u64 (.ofNat 0))])]
def Q305 : KC := ⟨59, [(C 64000 0 1 1), (C 64064 0 1 1)], 1002, 64128, B303, (C 64192 0 1 1), 1004, B304, [], []⟩
def B306 : List (Nat × List Value) := [(64000, [(.int .u64 (.ofNat 6000)), (.int .u64 (.ofNat 0))]), (64064, [(.int .u64 (.ofNat 100)), (.int .u64 (.ofNat 0))])]
def B307 : List (Nat × List Value) := [(64192, [(.int .u64 (.ofNat 0)), (.int .u64 (.ofNat 0))]), (64128, [(.int .u64 (.ofNat 60))]), (64000, [(.int .u64 (.ofNat 6000)), (.int .u64 (.ofNat 0))]), (64064, [(.int .u64 (.ofNat 100)), (.int .u64 (.ofNat 0))])]
def Q308 : KC := ⟨61, [(C 64000 0 1 1), (C 64064 0 1 1)], 1002, 64128, B306, (.tuple ⟨[(C 64128 0 1 1), (C 64192 0 0 0)]⟩), 1004, B307, [], []⟩
def B309 : List (Nat × List Value) := [(64000, [(.int .u64 (.ofNat 100)), (.int .u64 (.ofNat 0))]), (64064, [(.int .u64 (.ofNat 100)), (.int .u64 (.ofNat 0))])]
def B310 : List (Nat × List Value) := [(64192, [(.int .u64 (.ofNat 0)), (.int .u64 (.ofNat 0))]), (64128, [(.int .u64 (.ofNat 1))]), (64000, [(.int .u64 (.ofNat 100)), (.int .u64 (.ofNat 0))]), (64064, [(.int .u64 (.ofNat 100)), (.int .u64 (.ofNat 0))])]
def Q311 : KC := ⟨61, [(C 64000 0 1 1), (C 64064 0 1 1)], 1002, 64128, B309, (.tuple ⟨[(C 64128 0 1 1), (C 64192 0 0 0)]⟩), 1004, B310, [], []⟩
def B312 : List (Nat × List Value) := [(64000, [(.int .u64 (.ofNat 6000)), (.int .u64 (.ofNat 0))]), (64064, [(.int .u64 (.ofNat 100)), (.int .u64 (.ofNat 0))])]
def B313 : List (Nat × List Value) := [(64512, [(.int .u64 (.ofNat 1))]), (64064, [(.int .u64 (.ofNat 100)), (.int .u64 (.ofNat 0))]), (64384, [(.int .u64 (.ofNat 60))]), (64000, [(.int .u64 (.ofNat 6000)), (.int .u64 (.ofNat 0))])]
def Q314 : KC := ⟨109, [(A [(C 64000 0 1 1), (.bool false)]), (C 64064 0 1 1)], 1002, 64128, B312, (A [(C 64384 0 1 1), (.bool false), (C 64512 0 1 1)]), 1010, B313, [], []⟩
def B315 : List (Nat × List Value) := [(64000, [(.int .u64 (.ofNat 10000)), (.int .u64 (.ofNat 0))])]
def B316 : List (Nat × List Value) := [(64064, [(.int .u64 (.ofNat 100))]), (64000, [(.int .u64 (.ofNat 10000)), (.int .u64 (.ofNat 0))])]
def Q317 : KC := ⟨92, [(C 64000 0 1 1), (.int .u64 (.ofNat 100))], 1001, 64064, B315, (.tuple ⟨[(C 64064 0 1 1), (.int .u64 (.ofNat 0))]⟩), 1002, B316, [], []⟩
def B318 : List (Nat × List Value) := [(64000, [(.int .u64 (.ofNat 10000)), (.int .u64 (.ofNat 0))]), (64064, [(.int .u64 (.ofNat 100)), (.int .u64 (.ofNat 0))])]
def B319 : List (Nat × List Value) := [(64192, [(.int .u64 (.ofNat 100)), (.int .u64 (.ofNat 0))]), (64128, [(.int .u64 (.ofNat 100))]), (64000, [(.int .u64 (.ofNat 10000)), (.int .u64 (.ofNat 0))]), (64064, [(.int .u64 (.ofNat 100)), (.int .u64 (.ofNat 0))])]
def Q320 : KC := ⟨59, [(C 64000 0 1 1), (C 64064 0 1 1)], 1002, 64128, B318, (C 64192 0 1 1), 1004, B319, [], []⟩
def B321 : List (Nat × List Value) := [(64000, [(.int .u64 (.ofNat 10000)), (.int .u64 (.ofNat 0))]), (64064, [(.int .u64 (.ofNat 100)), (.int .u64 (.ofNat 0))])]
def B322 : List (Nat × List Value) := [(64192, [(.int .u64 (.ofNat 0)), (.int .u64 (.ofNat 0))]), (64128, [(.int .u64 (.ofNat 100))]), (64000, [(.int .u64 (.ofNat 10000)), (.int .u64 (.ofNat 0))]), (64064, [(.int .u64 (.ofNat 100)), (.int .u64 (.ofNat 0))])]
def Q323 : KC := ⟨61, [(C 64000 0 1 1), (C 64064 0 1 1)], 1002, 64128, B321, (.tuple ⟨[(C 64128 0 1 1), (C 64192 0 0 0)]⟩), 1004, B322, [], []⟩
def B324 : List (Nat × List Value) := [(64000, [(.int .u64 (.ofNat 10000)), (.int .u64 (.ofNat 0))]), (64064, [(.int .u64 (.ofNat 100)), (.int .u64 (.ofNat 0))])]
def B325 : List (Nat × List Value) := [(64512, [(.int .u64 (.ofNat 1))]), (64064, [(.int .u64 (.ofNat 100)), (.int .u64 (.ofNat 0))]), (64384, [(.int .u64 (.ofNat 100))]), (64000, [(.int .u64 (.ofNat 10000)), (.int .u64 (.ofNat 0))])]
def Q326 : KC := ⟨109, [(A [(C 64000 0 1 1), (.bool false)]), (C 64064 0 1 1)], 1002, 64128, B324, (A [(C 64384 0 1 1), (.bool false), (C 64512 0 1 1)]), 1010, B325, [], []⟩
def B327 : List (Nat × List Value) := [(64000, [(.int .u64 (.ofNat 60))])]
def B328 : List (Nat × List Value) := [(64256, [(I 1)]), (64128, [(U 0), (U 54), (U 48)]), (64192, [(C 64128 0 3 3)]), (64000, [(.int .u64 (.ofNat 60))]), (64064, [(C 64000 0 1 1), (.bool false)])]
def Q329 : KC := ⟨69, [(A [(C 64000 0 1 1), (.bool false)])], 1001, 64064, B327, (S [54, 48]), 1005, B328, [], []⟩
def L9 : List (Sum (FuncId × List Value × Value) KC) := [.inr Q269,
  .inr Q272,
  .inr Q275,
  .inr Q278,
  .inr Q281,
  .inr Q284,
  .inr Q287,
  .inr Q290,
  .inr Q293,
  .inr Q296,
  .inr Q299,
  .inr Q302,
  .inr Q305,
  .inr Q308,
  .inr Q311,
  .inr Q314,
  .inr Q317,
  .inr Q320,
  .inr Q323,
  .inr Q326,
  .inr Q329]
def T9 : Tab := pushT T8 L9
def B330 : List (Nat × List Value) := [(64000, [(.int .u64 (.ofNat 60))]), (64064, [(.int .u64 (.ofNat 1))])]
def B331 : List (Nat × List Value) := [(64064, [(.int .u64 (.ofNat 1))]), (64000, [(.int .u64 (.ofNat 60))])]
def Q332 : KC := ⟨40, [(A [(C 64000 0 1 1), (.bool false), (C 64064 0 1 1)])], 1002, 64128, B330, (.tuple ⟨[(A [(S [54, 48]), (S [49])]), (I 0)]⟩), 1013, B331, [], []⟩
def B333 : List (Nat × List Value) := [(64000, [(I 4)]), (64064, [(U 0), (U 0), (U 0), (U 0)]), (64128, [(C 64064 0 4 4)])]
def B334 : List (Nat × List Value) := [(64000, [(I 1)]), (64064, [(U 0), (U 49), (U 48), (U 48)]), (64128, [(C 64064 0 4 4)])]
def Q335 : KC := ⟨104, [(.int .u64 (.ofNat 100)), (I 3), (Z 64000 0), (Z 64128 0)], 1003, 64000, B333, (.tuple ⟨[]⟩), 1003, B334, [], []⟩
def B336 : List (Nat × List Value) := [(64000, [(.int .u64 (.ofNat 100))])]
def B337 : List (Nat × List Value) := [(64256, [(I 1)]), (64128, [(U 0), (U 49), (U 48), (U 48)]), (64192, [(C 64128 0 4 4)]), (64000, [(.int .u64 (.ofNat 100))]), (64064, [(C 64000 0 1 1), (.bool false)])]
def Q338 : KC := ⟨69, [(A [(C 64000 0 1 1), (.bool false)])], 1001, 64064, B336, (S [49, 48, 48]), 1005, B337, [], []⟩
def B339 : List (Nat × List Value) := [(64000, [(.int .u64 (.ofNat 100))]), (64064, [(.int .u64 (.ofNat 1))])]
def B340 : List (Nat × List Value) := [(64064, [(.int .u64 (.ofNat 1))]), (64000, [(.int .u64 (.ofNat 100))])]
def Q341 : KC := ⟨40, [(A [(C 64000 0 1 1), (.bool false), (C 64064 0 1 1)])], 1002, 64128, B339, (.tuple ⟨[(A [(S [49, 48, 48]), (S [49])]), (I 0)]⟩), 1013, B340, [], []⟩
def B342 : List (Nat × List Value) := [(64000, [(.int .u64 (.ofNat 1))]), (64064, [(.int .u64 (.ofNat 60))]), (64128, [(.int .u64 (.ofNat 1))]), (64192, [(.int .u64 (.ofNat 100))]), (64256, [(.int .u64 (.ofNat 1))]), (64320, [(.slice none 0 0), (.bool false), (C 64000 0 1 1), (C 64064 0 1 1), (.bool false), (C 64128 0 1 1), (C 64192 0 1 1), (.bool false), (C 64256 0 1 1)])]
def B343 : List (Nat × List Value) := [(64256, [(.int .u64 (.ofNat 1))]), (64192, [(.int .u64 (.ofNat 100))]), (64128, [(.int .u64 (.ofNat 1))]), (64064, [(.int .u64 (.ofNat 60))]), (64000, [(.int .u64 (.ofNat 1))]), (64384, [(S [48]), (S [49]), (S [54, 48]), (S [49]), (S [49, 48, 48]), (S [49])]), (64320, [(.slice none 0 0), (.bool false), (C 64000 0 1 1), (C 64064 0 1 1), (.bool false), (C 64128 0 1 1), (C 64192 0 1 1), (.bool false), (C 64256 0 1 1)])]
def Q344 : KC := ⟨120, [(C 64320 0 3 3)], 1006, 64384, B342, (C 64384 0 3 3), 1046, B343, [], []⟩
def Q345 : KC := ⟨146, [(C 64192 0 3 3), (I 0)], 1004, 64256, B216, (C 66560 0 3 3), 1080, ([(66560, [(S [48]), (S [49]), (S [54, 48]), (S [49]), (S [49, 48, 48]), (S [49])])] ++ B216), [], []⟩
def B346 : List (Nat × List Value) := [(64000, [(S [49]), (S [49]), (S [48]), (S [49])]), (64064, [(C 64000 0 2 2)])]
def B347 : List (Nat × List Value) := [(64320, [(S [48]), (S [49])]), (64128, [(S [49]), (S [49])]), (64000, [(S [49]), (S [49]), (S [48]), (S [49])]), (64064, [(C 64000 0 2 2)])]
def Q348 : KC := ⟨186, [(C 64064 0 1 1)], 1002, 64128, B346, (I 0), 1008, B347, [], []⟩
def B349 : List (Nat × List Value) := [(64000, [(S [49]), (S [49]), (S [49]), (S [50])]), (64064, [(C 64000 0 2 2)])]
def B350 : List (Nat × List Value) := [(64320, [(S [49]), (S [50])]), (64128, [(S [49]), (S [49])]), (64000, [(S [49]), (S [49]), (S [49]), (S [50])]), (64064, [(C 64000 0 2 2)])]
def Q351 : KC := ⟨186, [(C 64064 0 1 1)], 1002, 64128, B349, (I 0), 1008, B350, [], []⟩
def B352 : List (Nat × List Value) := [(64000, [(S [49]), (S [49]), (S [49]), (S [49])]), (64064, [(C 64000 0 2 2)])]
def B353 : List (Nat × List Value) := [(64320, [(S [49]), (S [49])]), (64128, [(S [49]), (S [49])]), (64000, [(S [49]), (S [49]), (S [49]), (S [49])]), (64064, [(C 64000 0 2 2)])]
def Q354 : KC := ⟨186, [(C 64064 0 1 1)], 1002, 64128, B352, (I 0), 1008, B353, [], []⟩
def B355 : List (Nat × List Value) := [(64000, [(S [49]), (S [49]), (S [48]), (S [49])]), (64064, [(S [49]), (S [49]), (S [49]), (S [50])]), (64128, [(S [49]), (S [49]), (S [49]), (S [49])]), (64193, [(C 64000 0 2 2), (C 64064 0 2 2), (C 64128 0 2 2)])]
def B356 : List (Nat × List Value) := [(64128, [(S [49]), (S [49]), (S [49]), (S [49])]), (64064, [(S [49]), (S [49]), (S [49]), (S [50])]), (64000, [(S [49]), (S [49]), (S [48]), (S [49])]), (64193, [(C 64000 0 2 2), (C 64064 0 2 2), (C 64128 0 2 2)])]
def Q357 : KC := ⟨185, [(C 64193 0 3 3)], 1004, 64256, B355, (I 0), 1025, B356, [], []⟩
def L10 : List (Sum (FuncId × List Value × Value) KC) := [.inr Q332,
  .inr Q335,
  .inr Q338,
  .inr Q341,
  .inr Q344,
  .inr Q345,
  .inl (128, [(S [48])], (.tuple ⟨[(I 0), (.bool true)]⟩)),
  .inl (84, [(A [(S [48]), (S [49])])], (.tuple ⟨[(A [(I 0), (I 1)]), (.bool true)]⟩)),
  .inr Q348,
  .inl (105, [(.int .u64 (.ofNat 1)), (.int .u64 (.ofNat 2))], (.int .u64 (.ofNat 1))),
  .inl (84, [(A [(S [49]), (S [50])])], (.tuple ⟨[(A [(I 1), (I 2)]), (.bool true)]⟩)),
  .inr Q351,
  .inr Q354,
  .inr Q357,
  .inl (128, [(S [54, 48])], (.tuple ⟨[(I 60), (.bool true)]⟩)),
  .inl (105, [(.int .u64 (.ofNat 60)), (.int .u64 (.ofNat 1))], (.int .u64 (.ofNat 1))),
  .inl (84, [(A [(S [54, 48]), (S [49])])], (.tuple ⟨[(A [(I 60), (I 1)]), (.bool true)]⟩)),
  .inl (128, [(S [49, 48, 48])], (.tuple ⟨[(I 100), (.bool true)]⟩)),
  .inl (105, [(.int .u64 (.ofNat 100)), (.int .u64 (.ofNat 1))], (.int .u64 (.ofNat 1))),
  .inl (84, [(A [(S [49, 48, 48]), (S [49])])], (.tuple ⟨[(A [(I 100), (I 1)]), (.bool true)]⟩))]
def T10 : Tab := pushT T9 L10
def B358 : List (Nat × List Value) := [(64000, [(S [48]), (S [49]), (S [54, 48]), (S [49]), (S [49, 48, 48]), (S [49])]), (64066, [(S [48]), (S [49]), (S [49]), (S [49]), (S [49]), (S [49])]), (64128, [(C 64000 0 3 3), (C 64066 0 3 3)])]
def B359 : List (Nat × List Value) := [(64000, [(S [48]), (S [49]), (S [54, 48]), (S [49]), (S [49, 48, 48]), (S [49])]), (64066, [(S [48]), (S [49]), (S [49]), (S [49]), (S [49]), (S [49])]), (64128, [(C 64000 0 3 3), (C 64066 0 3 3)])]
def Q360 : KC := ⟨186, [(C 64128 0 2 2)], 1003, 64192, B358, (I 0), 1021, B359, [], []⟩
def B361 : List (Nat × List Value) := [(64002, [(S [48]), (S [49]), (S [49]), (S [49]), (S [49]), (S [49])])]
def B362 : List (Nat × List Value) := [(64002, [(S [48]), (S [49]), (S [49]), (S [49]), (S [49]), (S [49])])]
def Q363 : KC := ⟨168, [(C 64002 0 3 3)], 1001, 64064, B361, (.bool false), 1013, B362, [], []⟩
def B364 : List (Nat × List Value) := [(64000, [(S [49]), (S [49]), (S [48]), (S [49])])]
def B365 : List (Nat × List Value) := [(65728, [(.int .u64 (.ofNat 1))]), (65408, [(.int .u64 (.ofNat 0))]), (64384, [(.int .u64 (.ofNat 1))]), (64704, [(.int .u64 (.ofNat 1))]), (64064, [(C 64384 0 1 1), (.bool false), (C 64704 0 1 1), (C 65408 0 0 0), (.bool false), (C 65728 0 1 1)]), (64000, [(S [49]), (S [49]), (S [48]), (S [49])])]
def Q366 : KC := ⟨170, [(C 64000 0 2 2)], 1001, 64064, B364, (C 64064 0 2 2), 1032, B365, [], []⟩
def B367 : List (Nat × List Value) := [(64000, [(.int .u64 (.ofNat 1))]), (64064, [(.int .u64 (.ofNat 2))])]
def B368 : List (Nat × List Value) := [(64192, [(.int .u64 (.ofNat 1)), (.int .u64 (.ofNat 0))]), (64128, [(.int .u64 (.ofNat 2))]), (64064, [(.int .u64 (.ofNat 2))]), (64000, [(.int .u64 (.ofNat 1))])]
def Q369 : KC := ⟨59, [(C 64000 0 1 1), (C 64064 0 1 1)], 1002, 64128, B367, (C 64192 0 1 1), 1004, B368, [], []⟩
def L11 : List (Sum (FuncId × List Value × Value) KC) := [.inr Q360,
  .inl (200, [(S [48])], (.tuple ⟨[(I 0), (I 0)]⟩)),
  .inl (200, [(S [49])], (.tuple ⟨[(I 1), (I 0)]⟩)),
  .inr Q363,
  .inr Q366,
  .inr Q369]
def T11 : Tab := pushT T10 L11
def B370 : List (Nat × List Value) := [(64000, [(S [49]), (S [49]), (S [49]), (S [50])])]
def B371 : List (Nat × List Value) := [(65728, [(.int .u64 (.ofNat 2))]), (65408, [(.int .u64 (.ofNat 1))]), (64384, [(.int .u64 (.ofNat 1))]), (64704, [(.int .u64 (.ofNat 1))]), (64064, [(C 64384 0 1 1), (.bool false), (C 64704 0 1 1), (C 65408 0 1 1), (.bool false), (C 65728 0 1 1)]), (64000, [(S [49]), (S [49]), (S [49]), (S [50])])]
def Q372 : KC := ⟨170, [(C 64000 0 2 2)], 1001, 64064, B370, (C 64064 0 2 2), 1034, B371, [], []⟩
def B373 : List (Nat × List Value) := [(64000, [(S [49]), (S [49]), (S [49]), (S [49])])]
def B374 : List (Nat × List Value) := [(65408, [(.int .u64 (.ofNat 1))]), (65728, [(.int .u64 (.ofNat 1))]), (64384, [(.int .u64 (.ofNat 1))]), (64704, [(.int .u64 (.ofNat 1))]), (64064, [(C 64384 0 1 1), (.bool false), (C 64704 0 1 1), (C 65408 0 1 1), (.bool false), (C 65728 0 1 1)]), (64000, [(S [49]), (S [49]), (S [49]), (S [49])])]
def Q375 : KC := ⟨170, [(C 64000 0 2 2)], 1001, 64064, B373, (C 64064 0 2 2), 1034, B374, [], []⟩
def B376 : List (Nat × List Value) := [(69760, [(.int .u64 (.ofNat 1))]), (70080, [(.int .u64 (.ofNat 1))]), (68736, [(.int .u64 (.ofNat 1))]), (69056, [(.int .u64 (.ofNat 1))]), (68416, [(C 68736 0 1 1), (.bool false), (C 69056 0 1 1), (C 69760 0 1 1), (.bool false), (C 70080 0 1 1)]), (64128, [(S [49]), (S [49]), (S [49]), (S [49])]), (67968, [(.int .u64 (.ofNat 2))]), (67648, [(.int .u64 (.ofNat 1))]), (66624, [(.int .u64 (.ofNat 1))]), (66944, [(.int .u64 (.ofNat 1))]), (66304, [(C 66624 0 1 1), (.bool false), (C 66944 0 1 1), (C 67648 0 1 1), (.bool false), (C 67968 0 1 1)]), (64064, [(S [49]), (S [49]), (S [49]), (S [50])]), (65984, [(.int .u64 (.ofNat 1))]), (65664, [(.int .u64 (.ofNat 0))]), (64640, [(.int .u64 (.ofNat 1))]), (64960, [(.int .u64 (.ofNat 1))]), (64320, [(C 64640 0 1 1), (.bool false), (C 64960 0 1 1), (C 65664 0 0 0), (.bool false), (C 65984 0 1 1)]), (64000, [(S [49]), (S [49]), (S [48]), (S [49])]), (64256, [(C 64320 0 2 2), (C 66304 0 2 2), (C 68416 0 2 2)]), (64193, [(C 64000 0 2 2), (C 64064 0 2 2), (C 64128 0 2 2)])]
def Q377 : KC := ⟨169, [(C 64193 0 3 3)], 1004, 64256, B355, (C 64256 0 3 3), 1102, B376, [], []⟩
def B378 : List (Nat × List Value) := [(64000, [(.int .u64 (.ofNat 60))])]
def B379 : List (Nat × List Value) := [(64064, [(.int .u64 (.ofNat 60))]), (64000, [(.int .u64 (.ofNat 60))])]
def Q380 : KC := ⟨92, [(C 64000 0 1 1), (.int .u64 (.ofNat 1))], 1001, 64064, B378, (.tuple ⟨[(C 64064 0 1 1), (.int .u64 (.ofNat 0))]⟩), 1002, B379, [], []⟩
def B381 : List (Nat × List Value) := [(64000, [(.int .u64 (.ofNat 60))]), (64064, [(.int .u64 (.ofNat 1))])]
def B382 : List (Nat × List Value) := [(64192, [(.int .u64 (.ofNat 1)), (.int .u64 (.ofNat 0))]), (64128, [(.int .u64 (.ofNat 60))]), (64000, [(.int .u64 (.ofNat 60))]), (64064, [(.int .u64 (.ofNat 1))])]
def Q383 : KC := ⟨59, [(C 64000 0 1 1), (C 64064 0 1 1)], 1002, 64128, B381, (C 64192 0 1 1), 1004, B382, [], []⟩
def B384 : List (Nat × List Value) := [(64000, [(.int .u64 (.ofNat 100))])]
def B385 : List (Nat × List Value) := [(64064, [(.int .u64 (.ofNat 100))]), (64000, [(.int .u64 (.ofNat 100))])]
def Q386 : KC := ⟨92, [(C 64000 0 1 1), (.int .u64 (.ofNat 1))], 1001, 64064, B384, (.tuple ⟨[(C 64064 0 1 1), (.int .u64 (.ofNat 0))]⟩), 1002, B385, [], []⟩
def L12 : List (Sum (FuncId × List Value × Value) KC) := [.inr Q372,
  .inr Q375,
  .inr Q377,
  .inr Q380,
  .inr Q383,
  .inr Q386]
def T12 : Tab := pushT T11 L12
def B387 : List (Nat × List Value) := [(64000, [(.int .u64 (.ofNat 100))]), (64064, [(.int .u64 (.ofNat 1))])]
def B388 : List (Nat × List Value) := [(64192, [(.int .u64 (.ofNat 1)), (.int .u64 (.ofNat 0))]), (64128, [(.int .u64 (.ofNat 100))]), (64000, [(.int .u64 (.ofNat 100))]), (64064, [(.int .u64 (.ofNat 1))])]
def Q389 : KC := ⟨59, [(C 64000 0 1 1), (C 64064 0 1 1)], 1002, 64128, B387, (C 64192 0 1 1), 1004, B388, [], []⟩
def B390 : List (Nat × List Value) := [(64000, [(S [48]), (S [49]), (S [54, 48]), (S [49]), (S [49, 48, 48]), (S [49])])]
def B391 : List (Nat × List Value) := [(66304, [(.int .u64 (.ofNat 100))]), (66624, [(.int .u64 (.ofNat 1))]), (65280, [(.int .u64 (.ofNat 60))]), (65600, [(.int .u64 (.ofNat 1))]), (64704, [(.int .u64 (.ofNat 1))]), (64384, [(.int .u64 (.ofNat 0))]), (64064, [(C 64384 0 0 0), (.bool false), (C 64704 0 1 1), (C 65280 0 1 1), (.bool false), (C 65600 0 1 1), (C 66304 0 1 1), (.bool false), (C 66624 0 1 1)]), (64000, [(S [48]), (S [49]), (S [54, 48]), (S [49]), (S [49, 48, 48]), (S [49])])]
def Q392 : KC := ⟨170, [(C 64000 0 3 3)], 1001, 64064, B390, (C 64064 0 3 3), 1048, B391, [], []⟩
def B393 : List (Nat × List Value) := [(64000, [(.int .u64 (.ofNat 1))]), (64064, [(.int .u64 (.ofNat 1)), (.int .u64 (.ofNat 0))])]
def B394 : List (Nat × List Value) := [(64192, [(.int .u64 (.ofNat 0)), (.int .u64 (.ofNat 0))]), (64128, [(.int .u64 (.ofNat 1))]), (64000, [(.int .u64 (.ofNat 1))]), (64064, [(.int .u64 (.ofNat 1)), (.int .u64 (.ofNat 0))])]
def Q395 : KC := ⟨61, [(C 64000 0 1 1), (C 64064 0 1 1)], 1002, 64128, B393, (.tuple ⟨[(C 64128 0 1 1), (C 64192 0 0 0)]⟩), 1004, B394, [], []⟩
def B396 : List (Nat × List Value) := [(64000, [(.int .u64 (.ofNat 1))]), (64064, [(.int .u64 (.ofNat 1))]), (64128, [(.int .u64 (.ofNat 1))]), (64193, [(C 64000 0 1 1), (C 64064 0 1 1), (C 64128 0 1 1)])]
def B397 : List (Nat × List Value) := [(65216, [(.int .u64 (.ofNat 1)), (.int .u64 (.ofNat 0))]), (64128, [(.int .u64 (.ofNat 1))]), (64064, [(.int .u64 (.ofNat 1))]), (64000, [(.int .u64 (.ofNat 1))]), (64193, [(C 64000 0 1 1), (C 64064 0 1 1), (C 64128 0 1 1)])]
def Q398 : KC := ⟨188, [(C 64193 0 3 3)], 1004, 64256, B396, (C 65216 0 1 1), 1020, B397, [], []⟩
def B399 : List (Nat × List Value) := [(64000, [(.int .u64 (.ofNat 1)), (.int .u64 (.ofNat 0))]), (64064, [(.int .u64 (.ofNat 2))])]
def B400 : List (Nat × List Value) := [(64192, [(.int .u64 (.ofNat 1)), (.int .u64 (.ofNat 0))]), (64128, [(.int .u64 (.ofNat 2))]), (64064, [(.int .u64 (.ofNat 2))]), (64000, [(.int .u64 (.ofNat 1)), (.int .u64 (.ofNat 0))])]
def Q401 : KC := ⟨59, [(C 64000 0 1 1), (C 64064 0 1 1)], 1002, 64128, B399, (C 64192 0 1 1), 1004, B400, [], []⟩
def B402 : List (Nat × List Value) := [(64000, [(.int .u64 (.ofNat 2))]), (64064, [(.int .u64 (.ofNat 1)), (.int .u64 (.ofNat 0))])]
def B403 : List (Nat × List Value) := [(64192, [(.int .u64 (.ofNat 0)), (.int .u64 (.ofNat 0))]), (64128, [(.int .u64 (.ofNat 2))]), (64000, [(.int .u64 (.ofNat 2))]), (64064, [(.int .u64 (.ofNat 1)), (.int .u64 (.ofNat 0))])]
def Q404 : KC := ⟨61, [(C 64000 0 1 1), (C 64064 0 1 1)], 1002, 64128, B402, (.tuple ⟨[(C 64128 0 1 1), (C 64192 0 0 0)]⟩), 1004, B403, [], []⟩
def L13 : List (Sum (FuncId × List Value × Value) KC) := [.inr Q389,
  .inr Q392,
  .inr Q395,
  .inr Q398,
  .inr Q401,
  .inr Q404]
def T13 : Tab := pushT T12 L13
def B405 : List (Nat × List Value) := [(64000, [(.int .u64 (.ofNat 1)), (.int .u64 (.ofNat 0))]), (64064, [(.int .u64 (.ofNat 2))])]
def B406 : List (Nat × List Value) := [(64128, [(.int .u64 (.ofNat 2)), (.int .u64 (.ofNat 0))]), (64000, [(.int .u64 (.ofNat 1)), (.int .u64 (.ofNat 0))]), (64064, [(.int .u64 (.ofNat 2))])]
def Q407 : KC := ⟨66, [(C 64000 0 1 1), (C 64064 0 1 1)], 1002, 64128, B405, (C 64128 0 1 1), 1003, B406, [], []⟩
def B408 : List (Nat × List Value) := [(64000, [(.int .u64 (.ofNat 2)), (.int .u64 (.ofNat 0))])]
def B409 : List (Nat × List Value) := [(64064, [(.int .u64 (.ofNat 2))]), (64000, [(.int .u64 (.ofNat 2)), (.int .u64 (.ofNat 0))])]
def Q410 : KC := ⟨92, [(C 64000 0 1 1), (.int .u64 (.ofNat 1))], 1001, 64064, B408, (.tuple ⟨[(C 64064 0 1 1), (.int .u64 (.ofNat 0))]⟩), 1002, B409, [], []⟩
def B411 : List (Nat × List Value) := [(64000, [(.int .u64 (.ofNat 2)), (.int .u64 (.ofNat 0))]), (64064, [(.int .u64 (.ofNat 1))])]
def B412 : List (Nat × List Value) := [(64192, [(.int .u64 (.ofNat 1)), (.int .u64 (.ofNat 0))]), (64128, [(.int .u64 (.ofNat 2))]), (64000, [(.int .u64 (.ofNat 2)), (.int .u64 (.ofNat 0))]), (64064, [(.int .u64 (.ofNat 1))])]
def Q413 : KC := ⟨59, [(C 64000 0 1 1), (C 64064 0 1 1)], 1002, 64128, B411, (C 64192 0 1 1), 1004, B412, [], []⟩
def B414 : List (Nat × List Value) := [(64000, [(.int .u64 (.ofNat 2)), (.int .u64 (.ofNat 0))]), (64064, [(.int .u64 (.ofNat 1))])]
def B415 : List (Nat × List Value) := [(64128, [(.int .u64 (.ofNat 2)), (.int .u64 (.ofNat 0))]), (64000, [(.int .u64 (.ofNat 2)), (.int .u64 (.ofNat 0))]), (64064, [(.int .u64 (.ofNat 1))])]
def Q416 : KC := ⟨66, [(C 64000 0 1 1), (C 64064 0 1 1)], 1002, 64128, B414, (C 64128 0 1 1), 1003, B415, [], []⟩
def B417 : List (Nat × List Value) := [(64000, [(.int .u64 (.ofNat 1))]), (64064, [(.int .u64 (.ofNat 2))]), (64128, [(.int .u64 (.ofNat 1))]), (64193, [(C 64000 0 1 1), (C 64064 0 1 1), (C 64128 0 1 1)])]
def B418 : List (Nat × List Value) := [(65216, [(.int .u64 (.ofNat 2)), (.int .u64 (.ofNat 0))]), (64128, [(.int .u64 (.ofNat 1))]), (64064, [(.int .u64 (.ofNat 2))]), (64000, [(.int .u64 (.ofNat 1))]), (64193, [(C 64000 0 1 1), (C 64064 0 1 1), (C 64128 0 1 1)])]
def Q419 : KC := ⟨188, [(C 64193 0 3 3)], 1004, 64256, B417, (C 65216 0 1 1), 1020, B418, [], []⟩
def B420 : List (Nat × List Value) := [(64000, [(.int .u64 (.ofNat 1))]), (64064, [(.int .u64 (.ofNat 1)), (.int .u64 (.ofNat 0))])]
def B421 : List (Nat × List Value) := [(64192, [(.int .u64 (.ofNat 1)), (.int .u64 (.ofNat 0))]), (64128, [(.int .u64 (.ofNat 1))]), (64000, [(.int .u64 (.ofNat 1))]), (64064, [(.int .u64 (.ofNat 1)), (.int .u64 (.ofNat 0))])]
def Q422 : KC := ⟨59, [(C 64000 0 1 1), (C 64064 0 1 1)], 1002, 64128, B420, (C 64192 0 1 1), 1004, B421, [], []⟩
def B423 : List (Nat × List Value) := [(64000, [(.int .u64 (.ofNat 1))]), (64064, [(.int .u64 (.ofNat 1))]), (64128, [(.int .u64 (.ofNat 1)), (.int .u64 (.ofNat 0))]), (64192, [(.int .u64 (.ofNat 1)), (.int .u64 (.ofNat 0))])]
def B424 : List (Nat × List Value) := [(64768, [(.int .u64 (.ofNat 1)), (.int .u64 (.ofNat 0))]), (64064, [(.int .u64 (.ofNat 1))]), (64192, [(.int .u64 (.ofNat 1)), (.int .u64 (.ofNat 0))]), (64704, [(.int .u64 (.ofNat 1)), (.int .u64 (.ofNat 0))]), (64000, [(.int .u64 (.ofNat 1))]), (64128, [(.int .u64 (.ofNat 1)), (.int .u64 (.ofNat 0))])]
def Q425 : KC := ⟨67, [(A [(C 64000 0 1 1), (.bool false), (C 64064 0 1 1)]), (A [(C 64128 0 1 1), (.bool false), (C 64192 0 1 1)])], 1004, 64256, B423, (A [(C 64704 0 1 1), (.bool false), (C 64768 0 1 1)]), 1013, B424, [], []⟩
def B426 : List (Nat × List Value) := [(64000, [(.int .u64 (.ofNat 0))]), (64064, [(.int .u64 (.ofNat 1)), (.int .u64 (.ofNat 0))])]
def B427 : List (Nat × List Value) := [(64064, [(.int .u64 (.ofNat 1)), (.int .u64 (.ofNat 0))]), (64000, [(.int .u64 (.ofNat 0))])]
def Q428 : KC := ⟨102, [(C 64000 0 0 0), (C 64064 0 1 1)], 1002, 64128, B426, (.tuple ⟨[(C 64000 0 0 0), (C 64064 0 1 1)]⟩), 1002, B427, [], []⟩
def B429 : List (Nat × List Value) := [(64000, [(.int .u64 (.ofNat 0))]), (64064, [(.int .u64 (.ofNat 1))]), (64128, [(.int .u64 (.ofNat 2)), (.int .u64 (.ofNat 0))]), (64192, [(.int .u64 (.ofNat 1)), (.int .u64 (.ofNat 0))])]
def B430 : List (Nat × List Value) := [(64576, [(.int .u64 (.ofNat 1)), (.int .u64 (.ofNat 0))]), (64064, [(.int .u64 (.ofNat 1))]), (64192, [(.int .u64 (.ofNat 1)), (.int .u64 (.ofNat 0))]), (64000, [(.int .u64 (.ofNat 0))]), (64128, [(.int .u64 (.ofNat 2)), (.int .u64 (.ofNat 0))]), (64512, [(.int .u64 (.ofNat 1)), (.int .u64 (.ofNat 0))]), (64448, [(.int .u64 (.ofNat 2))]), (64384, [(.slice none 0 0), (.bool false), (C 64576 0 1 1)]), (64320, [(C 64128 0 1 1), (.bool false), (C 64192 0 1 1)]), (64256, [(C 64000 0 0 0), (.bool false), (C 64064 0 1 1)])]
def Q431 : KC := ⟨67, [(A [(C 64000 0 0 0), (.bool false), (C 64064 0 1 1)]), (A [(C 64128 0 1 1), (.bool false), (C 64192 0 1 1)])], 1004, 64256, B429, (A [(.slice none 0 0), (.bool false), (C 64576 0 1 1)]), 1010, B430, [], []⟩
def B432 : List (Nat × List Value) := [(64000, [(.int .u64 (.ofNat 0))]), (64064, [(.int .u64 (.ofNat 1))]), (64128, [(.int .u64 (.ofNat 1)), (.int .u64 (.ofNat 0))]), (64192, [(.int .u64 (.ofNat 1)), (.int .u64 (.ofNat 0))])]
def B433 : List (Nat × List Value) := [(64576, [(.int .u64 (.ofNat 1)), (.int .u64 (.ofNat 0))]), (64064, [(.int .u64 (.ofNat 1))]), (64192, [(.int .u64 (.ofNat 1)), (.int .u64 (.ofNat 0))]), (64000, [(.int .u64 (.ofNat 0))]), (64128, [(.int .u64 (.ofNat 1)), (.int .u64 (.ofNat 0))]), (64512, [(.int .u64 (.ofNat 1)), (.int .u64 (.ofNat 0))]), (64448, [(.int .u64 (.ofNat 1))]), (64384, [(.slice none 0 0), (.bool false), (C 64576 0 1 1)]), (64320, [(C 64128 0 1 1), (.bool false), (C 64192 0 1 1)]), (64256, [(C 64000 0 0 0), (.bool false), (C 64064 0 1 1)])]
def Q434 : KC := ⟨67, [(A [(C 64000 0 0 0), (.bool false), (C 64064 0 1 1)]), (A [(C 64128 0 1 1), (.bool false), (C 64192 0 1 1)])], 1004, 64256, B432, (A [(.slice none 0 0), (.bool false), (C 64576 0 1 1)]), 1010, B433, [], []⟩
def B435 : List (Nat × List Value) := [(64000, [(.int .u64 (.ofNat 2)), (.int .u64 (.ofNat 0))])]
def B436 : List (Nat × List Value) := [(64064, [(.int .u64 (.ofNat 1))]), (64000, [(.int .u64 (.ofNat 2)), (.int .u64 (.ofNat 0))])]
def Q437 : KC := ⟨92, [(C 64000 0 1 1), (.int .u64 (.ofNat 2))], 1001, 64064, B435, (.tuple ⟨[(C 64064 0 1 1), (.int .u64 (.ofNat 0))]⟩), 1002, B436, [], []⟩
def B438 : List (Nat × List Value) := [(64000, [(.int .u64 (.ofNat 2)), (.int .u64 (.ofNat 0))]), (64064, [(.int .u64 (.ofNat 2))])]
def B439 : List (Nat × List Value) := [(64192, [(.int .u64 (.ofNat 2)), (.int .u64 (.ofNat 0))]), (64128, [(.int .u64 (.ofNat 1))]), (64000, [(.int .u64 (.ofNat 2)), (.int .u64 (.ofNat 0))]), (64064, [(.int .u64 (.ofNat 2))])]
def Q440 : KC := ⟨59, [(C 64000 0 1 1), (C 64064 0 1 1)], 1002, 64128, B438, (C 64192 0 1 1), 1004, B439, [], []⟩
def B441 : List (Nat × List Value) := [(64000, [(.int .u64 (.ofNat 2)), (.int .u64 (.ofNat 0))]), (64064, [(.int .u64 (.ofNat 2)), (.int .u64 (.ofNat 0))])]
def B442 : List (Nat × List Value) := [(64192, [(.int .u64 (.ofNat 0)), (.int .u64 (.ofNat 0))]), (64128, [(.int .u64 (.ofNat 1))]), (64000, [(.int .u64 (.ofNat 2)), (.int .u64 (.ofNat 0))]), (64064, [(.int .u64 (.ofNat 2)), (.int .u64 (.ofNat 0))])]
def Q443 : KC := ⟨61, [(C 64000 0 1 1), (C 64064 0 1 1)], 1002, 64128, B441, (.tuple ⟨[(C 64128 0 1 1), (C 64192 0 0 0)]⟩), 1004, B442, [], []⟩
def B444 : List (Nat × List Value) := [(64000, [(.int .u64 (.ofNat 2))])]
def B445 : List (Nat × List Value) := [(64064, [(.int .u64 (.ofNat 1))]), (64000, [(.int .u64 (.ofNat 2))])]
def Q446 : KC := ⟨92, [(C 64000 0 1 1), (.int .u64 (.ofNat 2))], 1001, 64064, B444, (.tuple ⟨[(C 64064 0 1 1), (.int .u64 (.ofNat 0))]⟩), 1002, B445, [], []⟩
def B447 : List (Nat × List Value) := [(64000, [(.int .u64 (.ofNat 2))]), (64064, [(.int .u64 (.ofNat 2)), (.int .u64 (.ofNat 0))])]
def B448 : List (Nat × List Value) := [(64192, [(.int .u64 (.ofNat 0)), (.int .u64 (.ofNat 0))]), (64128, [(.int .u64 (.ofNat 1))]), (64000, [(.int .u64 (.ofNat 2))]), (64064, [(.int .u64 (.ofNat 2)), (.int .u64 (.ofNat 0))])]
def Q449 : KC := ⟨61, [(C 64000 0 1 1), (C 64064 0 1 1)], 1002, 64128, B447, (.tuple ⟨[(C 64128 0 1 1), (C 64192 0 0 0)]⟩), 1004, B448, [], []⟩
def B450 : List (Nat × List Value) := [(64000, [(.int .u64 (.ofNat 2)), (.int .u64 (.ofNat 0))]), (64064, [(.int .u64 (.ofNat 2))])]
def B451 : List (Nat × List Value) := [(64448, [(.int .u64 (.ofNat 0)), (.int .u64 (.ofNat 0))]), (64384, [(.int .u64 (.ofNat 1))]), (64064, [(.int .u64 (.ofNat 2))]), (64192, [(.int .u64 (.ofNat 2)), (.int .u64 (.ofNat 0))]), (64320, [(.int .u64 (.ofNat 0)), (.int .u64 (.ofNat 0))]), (64256, [(.int .u64 (.ofNat 1))]), (64000, [(.int .u64 (.ofNat 2)), (.int .u64 (.ofNat 0))]), (64128, [(.int .u64 (.ofNat 1))])]
def Q452 : KC := ⟨102, [(C 64000 0 1 1), (C 64064 0 1 1)], 1002, 64128, B450, (.tuple ⟨[(C 64256 0 1 1), (C 64384 0 1 1)]⟩), 1008, B451, [], []⟩
def B453 : List (Nat × List Value) := [(64000, [(.int .u64 (.ofNat 1))]), (64064, [(.int .u64 (.ofNat 2))]), (64128, [(.int .u64 (.ofNat 2)), (.int .u64 (.ofNat 0))]), (64192, [(.int .u64 (.ofNat 1)), (.int .u64 (.ofNat 0))])]
def B454 : List (Nat × List Value) := [(65024, [(.int .u64 (.ofNat 1)), (.int .u64 (.ofNat 0))]), (64192, [(.int .u64 (.ofNat 1)), (.int .u64 (.ofNat 0))]), (64960, [(.int .u64 (.ofNat 1)), (.int .u64 (.ofNat 0))]), (64000, [(.int .u64 (.ofNat 1))]), (64064, [(.int .u64 (.ofNat 2))]), (64128, [(.int .u64 (.ofNat 2)), (.int .u64 (.ofNat 0))])]
def Q455 : KC := ⟨67, [(A [(C 64000 0 1 1), (.bool false), (C 64064 0 1 1)]), (A [(C 64128 0 1 1), (.bool false), (C 64192 0 1 1)])], 1004, 64256, B453, (A [(C 64960 0 1 1), (.bool false), (C 65024 0 1 1)]), 1017, B454, [], []⟩
def B456 : List (Nat × List Value) := [(64000, [(.int .u64 (.ofNat 60))]), (64064, [(.int .u64 (.ofNat 1)), (.int .u64 (.ofNat 0))])]
def B457 : List (Nat × List Value) := [(64192, [(.int .u64 (.ofNat 1)), (.int .u64 (.ofNat 0))]), (64128, [(.int .u64 (.ofNat 60))]), (64000, [(.int .u64 (.ofNat 60))]), (64064, [(.int .u64 (.ofNat 1)), (.int .u64 (.ofNat 0))])]
def Q458 : KC := ⟨59, [(C 64000 0 1 1), (C 64064 0 1 1)], 1002, 64128, B456, (C 64192 0 1 1), 1004, B457, [], []⟩
def L14 : List (Sum (FuncId × List Value × Value) KC) := [.inr Q407,
  .inr Q410,
  .inr Q413,
  .inr Q416,
  .inr Q419,
  .inr Q422,
  .inr Q425,
  .inr Q428,
  .inr Q431,
  .inr Q434,
  .inr Q437,
  .inr Q440,
  .inr Q443,
  .inr Q446,
  .inr Q449,
  .inr Q452,
  .inr Q455,
  .inr Q458,
  .inl (98, [(.int .u64 (.ofNat 60)), (.int .u64 (.ofNat 1))], (.tuple ⟨[(.int .u64 (.ofNat 0)), (.int .u64 (.ofNat 60))]⟩))]
def T14 : Tab := pushT T13 L14
def B459 : List (Nat × List Value) := [(64000, [(.int .u64 (.ofNat 60))]), (64064, [(.int .u64 (.ofNat 1)), (.int .u64 (.ofNat 0))])]
def B460 : List (Nat × List Value) := [(64128, [(.int .u64 (.ofNat 60)), (.int .u64 (.ofNat 0))]), (64000, [(.int .u64 (.ofNat 60))]), (64064, [(.int .u64 (.ofNat 1)), (.int .u64 (.ofNat 0))])]
def Q461 : KC := ⟨66, [(C 64000 0 1 1), (C 64064 0 1 1)], 1002, 64128, B459, (C 64128 0 1 1), 1003, B460, [], []⟩
def B462 : List (Nat × List Value) := [(64000, [(.int .u64 (.ofNat 60))]), (64064, [(.int .u64 (.ofNat 1))]), (64128, [(.int .u64 (.ofNat 1)), (.int .u64 (.ofNat 0))]), (64192, [(.int .u64 (.ofNat 1)), (.int .u64 (.ofNat 0))])]
def B463 : List (Nat × List Value) := [(64768, [(.int .u64 (.ofNat 1)), (.int .u64 (.ofNat 0))]), (64064, [(.int .u64 (.ofNat 1))]), (64192, [(.int .u64 (.ofNat 1)), (.int .u64 (.ofNat 0))]), (64704, [(.int .u64 (.ofNat 60)), (.int .u64 (.ofNat 0))]), (64000, [(.int .u64 (.ofNat 60))]), (64128, [(.int .u64 (.ofNat 1)), (.int .u64 (.ofNat 0))])]
def Q464 : KC := ⟨67, [(A [(C 64000 0 1 1), (.bool false), (C 64064 0 1 1)]), (A [(C 64128 0 1 1), (.bool false), (C 64192 0 1 1)])], 1004, 64256, B462, (A [(C 64704 0 1 1), (.bool false), (C 64768 0 1 1)]), 1013, B463, [], []⟩
def B465 : List (Nat × List Value) := [(64000, [(.int .u64 (.ofNat 1))]), (64064, [(.int .u64 (.ofNat 2)), (.int .u64 (.ofNat 0))])]
def B466 : List (Nat × List Value) := [(64128, [(.int .u64 (.ofNat 2)), (.int .u64 (.ofNat 0))]), (64000, [(.int .u64 (.ofNat 1))]), (64064, [(.int .u64 (.ofNat 2)), (.int .u64 (.ofNat 0))])]
def Q467 : KC := ⟨66, [(C 64000 0 1 1), (C 64064 0 1 1)], 1002, 64128, B465, (C 64128 0 1 1), 1003, B466, [], []⟩
def B468 : List (Nat × List Value) := [(64000, [(.int .u64 (.ofNat 1))]), (64064, [(.int .u64 (.ofNat 1))]), (64128, [(.int .u64 (.ofNat 2)), (.int .u64 (.ofNat 0))]), (64192, [(.int .u64 (.ofNat 1)), (.int .u64 (.ofNat 0))])]
def B469 : List (Nat × List Value) := [(64768, [(.int .u64 (.ofNat 1)), (.int .u64 (.ofNat 0))]), (64064, [(.int .u64 (.ofNat 1))]), (64192, [(.int .u64 (.ofNat 1)), (.int .u64 (.ofNat 0))]), (64704, [(.int .u64 (.ofNat 2)), (.int .u64 (.ofNat 0))]), (64000, [(.int .u64 (.ofNat 1))]), (64128, [(.int .u64 (.ofNat 2)), (.int .u64 (.ofNat 0))])]
def Q470 : KC := ⟨67, [(A [(C 64000 0 1 1), (.bool false), (C 64064 0 1 1)]), (A [(C 64128 0 1 1), (.bool false), (C 64192 0 1 1)])], 1004, 64256, B468, (A [(C 64704 0 1 1), (.bool false), (C 64768 0 1 1)]), 1013, B469, [], []⟩
def B471 : List (Nat × List Value) := [(64000, [(.int .u64 (.ofNat 100))]), (64064, [(.int .u64 (.ofNat 1)), (.int .u64 (.ofNat 0))])]
def B472 : List (Nat × List Value) := [(64192, [(.int .u64 (.ofNat 1)), (.int .u64 (.ofNat 0))]), (64128, [(.int .u64 (.ofNat 100))]), (64000, [(.int .u64 (.ofNat 100))]), (64064, [(.int .u64 (.ofNat 1)), (.int .u64 (.ofNat 0))])]
def Q473 : KC := ⟨59, [(C 64000 0 1 1), (C 64064 0 1 1)], 1002, 64128, B471, (C 64192 0 1 1), 1004, B472, [], []⟩
def B474 : List (Nat × List Value) := [(64000, [(.int .u64 (.ofNat 100))]), (64064, [(.int .u64 (.ofNat 1)), (.int .u64 (.ofNat 0))])]
def B475 : List (Nat × List Value) := [(64128, [(.int .u64 (.ofNat 100)), (.int .u64 (.ofNat 0))]), (64000, [(.int .u64 (.ofNat 100))]), (64064, [(.int .u64 (.ofNat 1)), (.int .u64 (.ofNat 0))])]
def Q476 : KC := ⟨66, [(C 64000 0 1 1), (C 64064 0 1 1)], 1002, 64128, B474, (C 64128 0 1 1), 1003, B475, [], []⟩
def B477 : List (Nat × List Value) := [(64000, [(.int .u64 (.ofNat 100))]), (64064, [(.int .u64 (.ofNat 1))]), (64128, [(.int .u64 (.ofNat 1)), (.int .u64 (.ofNat 0))]), (64192, [(.int .u64 (.ofNat 1)), (.int .u64 (.ofNat 0))])]
def B478 : List (Nat × List Value) := [(64768, [(.int .u64 (.ofNat 1)), (.int .u64 (.ofNat 0))]), (64064, [(.int .u64 (.ofNat 1))]), (64192, [(.int .u64 (.ofNat 1)), (.int .u64 (.ofNat 0))]), (64704, [(.int .u64 (.ofNat 100)), (.int .u64 (.ofNat 0))]), (64000, [(.int .u64 (.ofNat 100))]), (64128, [(.int .u64 (.ofNat 1)), (.int .u64 (.ofNat 0))])]
def Q479 : KC := ⟨67, [(A [(C 64000 0 1 1), (.bool false), (C 64064 0 1 1)]), (A [(C 64128 0 1 1), (.bool false), (C 64192 0 1 1)])], 1004, 64256, B477, (A [(C 64704 0 1 1), (.bool false), (C 64768 0 1 1)]), 1013, B478, [], []⟩
def B480 : List (Nat × List Value) := [(64000, [(.int .u64 (.ofNat 1))]), (64064, [(.int .u64 (.ofNat 1))]), (64128, [(.int .u64 (.ofNat 0))]), (64192, [(.int .u64 (.ofNat 1))]), (64256, [(.int .u64 (.ofNat 0))]), (64320, [(.int .u64 (.ofNat 1))]), (64387, [(C 64000 0 1 1), (.bool false), (C 64064 0 1 1), (C 64128 0 0 0), (.bool false), (C 64192 0 1 1), (C 64256 0 0 0), (.bool false), (C 64320 0 1 1)]), (64448, [(.int .u64 (.ofNat 1))]), (64512, [(.int .u64 (.ofNat 1))]), (64576, [(.int .u64 (.ofNat 1))]), (64640, [(.int .u64 (.ofNat 2))]), (64704, [(.int .u64 (.ofNat 60))]), (64768, [(.int .u64 (.ofNat 1))]), (64835, [(C 64448 0 1 1), (.bool false), (C 64512 0 1 1), (C 64576 0 1 1), (.bool false), (C 64640 0 1 1), (C 64704 0 1 1), (.bool false), (C 64768 0 1 1)]), (64896, [(.int .u64 (.ofNat 1))]), (64960, [(.int .u64 (.ofNat 1))]), (65024, [(.int .u64 (.ofNat 1))]), (65088, [(.int .u64 (.ofNat 1))]), (65152, [(.int .u64 (.ofNat 100))]), (65216, [(.int .u64 (.ofNat 1))]), (65283, [(C 64896 0 1 1), (.bool false), (C 64960 0 1 1), (C 65024 0 1 1), (.bool false), (C 65088 0 1 1), (C 65152 0 1 1), (.bool false), (C 65216 0 1 1)]), (65344, [(C 64387 0 3 3), (C 64835 0 3 3), (C 65283 0 3 3)])]
def B481 : List (Nat × List Value) := [(76929, [(C 70784 0 3 3), (C 72512 0 3 3), (C 74880 0 3 3)]), (76800, [(.int .u64 (.ofNat 1)), (.int .u64 (.ofNat 0))]), (65216, [(.int .u64 (.ofNat 1))]), (70592, [(.int .u64 (.ofNat 1)), (.int .u64 (.ofNat 0))]), (76736, [(.int .u64 (.ofNat 100)), (.int .u64 (.ofNat 0))]), (65152, [(.int .u64 (.ofNat 100))]), (70336, [(.int .u64 (.ofNat 1)), (.int .u64 (.ofNat 0))]), (76160, [(.int .u64 (.ofNat 1)), (.int .u64 (.ofNat 0))]), (65088, [(.int .u64 (.ofNat 1))]), (68800, [(.int .u64 (.ofNat 1)), (.int .u64 (.ofNat 0))]), (76096, [(.int .u64 (.ofNat 2)), (.int .u64 (.ofNat 0))]), (65024, [(.int .u64 (.ofNat 1))]), (68544, [(.int .u64 (.ofNat 2)), (.int .u64 (.ofNat 0))]), (75520, [(.int .u64 (.ofNat 1)), (.int .u64 (.ofNat 0))]), (67008, [(.int .u64 (.ofNat 1)), (.int .u64 (.ofNat 0))]), (75456, [(.int .u64 (.ofNat 1)), (.int .u64 (.ofNat 0))]), (66752, [(.int .u64 (.ofNat 1)), (.int .u64 (.ofNat 0))]), (74880, [(C 75456 0 1 1), (.bool false), (C 75520 0 1 1), (C 76096 0 1 1), (.bool false), (C 76160 0 1 1), (C 76736 0 1 1), (.bool false), (C 76800 0 1 1)]), (70723, [(C 66752 0 1 1), (.bool false), (C 67008 0 1 1), (C 68544 0 1 1), (.bool false), (C 68800 0 1 1), (C 70336 0 1 1), (.bool false), (C 70592 0 1 1)]), (64960, [(.int .u64 (.ofNat 1))]), (64896, [(.int .u64 (.ofNat 1))]), (74688, [(.int .u64 (.ofNat 1)), (.int .u64 (.ofNat 0))]), (64768, [(.int .u64 (.ofNat 1))]), (74624, [(.int .u64 (.ofNat 60)), (.int .u64 (.ofNat 0))]), (64704, [(.int .u64 (.ofNat 60))]), (74048, [(.int .u64 (.ofNat 1)), (.int .u64 (.ofNat 0))]), (73984, [(.int .u64 (.ofNat 1)), (.int .u64 (.ofNat 0))]), (73152, [(.int .u64 (.ofNat 1)), (.int .u64 (.ofNat 0))]), (73088, [(.int .u64 (.ofNat 1)), (.int .u64 (.ofNat 0))]), (72512, [(C 73088 0 1 1), (.bool false), (C 73152 0 1 1), (C 73984 0 1 1), (.bool false), (C 74048 0 1 1), (C 74624 0 1 1), (.bool false), (C 74688 0 1 1)]), (64576, [(.int .u64 (.ofNat 1))]), (64640, [(.int .u64 (.ofNat 2))]), (64512, [(.int .u64 (.ofNat 1))]), (64448, [(.int .u64 (.ofNat 1))]), (72320, [(.int .u64 (.ofNat 1)), (.int .u64 (.ofNat 0))]), (64320, [(.int .u64 (.ofNat 1))]), (64256, [(.int .u64 (.ofNat 0))]), (71872, [(.int .u64 (.ofNat 1)), (.int .u64 (.ofNat 0))]), (71424, [(.int .u64 (.ofNat 1)), (.int .u64 (.ofNat 0))]), (71360, [(.int .u64 (.ofNat 1)), (.int .u64 (.ofNat 0))]), (70784, [(C 71360 0 1 1), (.bool false), (C 71424 0 1 1), (.slice none 0 0), (.bool false), (C 71872 0 1 1), (.slice none 0 0), (.bool false), (C 72320 0 1 1)]), (64192, [(.int .u64 (.ofNat 1))]), (64128, [(.int .u64 (.ofNat 0))]), (64064, [(.int .u64 (.ofNat 1))]), (64000, [(.int .u64 (.ofNat 1))]), (64387, [(C 64000 0 1 1), (.bool false), (C 64064 0 1 1), (C 64128 0 0 0), (.bool false), (C 64192 0 1 1), (C 64256 0 0 0), (.bool false), (C 64320 0 1 1)]), (64835, [(C 64448 0 1 1), (.bool false), (C 64512 0 1 1), (C 64576 0 1 1), (.bool false), (C 64640 0 1 1), (C 64704 0 1 1), (.bool false), (C 64768 0 1 1)]), (65283, [(C 64896 0 1 1), (.bool false), (C 64960 0 1 1), (C 65024 0 1 1), (.bool false), (C 65088 0 1 1), (C 65152 0 1 1), (.bool false), (C 65216 0 1 1)]), (65344, [(C 64387 0 3 3), (C 64835 0 3 3), (C 65283 0 3 3)])]
def Q482 : KC := ⟨171, [(C 65344 0 3 3)], 1022, 65408, B480, (.tuple ⟨[(C 76929 0 3 3), (C 70723 0 3 3)]⟩), 1203, B481, [], []⟩
def L15 : List (Sum (FuncId × List Value × Value) KC) := [.inr Q461,
  .inr Q464,
  .inr Q467,
  .inr Q470,
  .inr Q473,
  .inl (98, [(.int .u64 (.ofNat 100)), (.int .u64 (.ofNat 1))], (.tuple ⟨[(.int .u64 (.ofNat 0)), (.int .u64 (.ofNat 100))]⟩)),
  .inr Q476,
  .inr Q479,
  .inr Q482]
def T15 : Tab := pushT T14 L15
def B483 : List (Nat × List Value) := [(64002, [(S [48]), (S [49]), (S [49]), (S [49]), (S [49]), (S [49])])]
def B484 : List (Nat × List Value) := [(66304, [(.int .u64 (.ofNat 1))]), (66624, [(.int .u64 (.ofNat 1))]), (65280, [(.int .u64 (.ofNat 1))]), (65600, [(.int .u64 (.ofNat 1))]), (64704, [(.int .u64 (.ofNat 1))]), (64384, [(.int .u64 (.ofNat 0))]), (64064, [(C 64384 0 0 0), (.bool false), (C 64704 0 1 1), (C 65280 0 1 1), (.bool false), (C 65600 0 1 1), (C 66304 0 1 1), (.bool false), (C 66624 0 1 1)]), (64002, [(S [48]), (S [49]), (S [49]), (S [49]), (S [49]), (S [49])])]
def Q485 : KC := ⟨170, [(C 64002 0 3 3)], 1001, 64064, B483, (C 64064 0 3 3), 1048, B484, [], []⟩
def B486 : List (Nat × List Value) := [(64000, [(.int .u64 (.ofNat 1)), (.int .u64 (.ofNat 0))])]
def B487 : List (Nat × List Value) := [(64064, [(.int .u64 (.ofNat 1)), (.int .u64 (.ofNat 0))]), (64000, [(.int .u64 (.ofNat 1)), (.int .u64 (.ofNat 0))])]
def Q488 : KC := ⟨66, [(C 64000 0 1 1), (C 64000 0 1 1)], 1001, 64064, B486, (C 64064 0 1 1), 1002, B487, [], []⟩
def B489 : List (Nat × List Value) := [(64000, [(.int .u64 (.ofNat 1)), (.int .u64 (.ofNat 0))]), (64064, [(.int .u64 (.ofNat 1)), (.int .u64 (.ofNat 0))])]
def B490 : List (Nat × List Value) := [(64640, [(.int .u64 (.ofNat 1)), (.int .u64 (.ofNat 0))]), (64064, [(.int .u64 (.ofNat 1)), (.int .u64 (.ofNat 0))]), (64576, [(.int .u64 (.ofNat 1)), (.int .u64 (.ofNat 0))]), (64000, [(.int .u64 (.ofNat 1)), (.int .u64 (.ofNat 0))])]
def Q491 : KC := ⟨67, [(A [(C 64000 0 1 1), (.bool false), (C 64064 0 1 1)]), (A [(C 64000 0 1 1), (.bool false), (C 64064 0 1 1)])], 1002, 64128, B489, (A [(C 64576 0 1 1), (.bool false), (C 64640 0 1 1)]), 1011, B490, [], []⟩
def B492 : List (Nat × List Value) := [(64000, [(.int .u64 (.ofNat 1)), (.int .u64 (.ofNat 0))]), (64064, [(.int .u64 (.ofNat 1)), (.int .u64 (.ofNat 0))])]
def B493 : List (Nat × List Value) := [(64128, [(.int .u64 (.ofNat 1)), (.int .u64 (.ofNat 0))]), (64000, [(.int .u64 (.ofNat 1)), (.int .u64 (.ofNat 0))]), (64064, [(.int .u64 (.ofNat 1)), (.int .u64 (.ofNat 0))])]
def Q494 : KC := ⟨66, [(C 64000 0 1 1), (C 64064 0 1 1)], 1002, 64128, B492, (C 64128 0 1 1), 1003, B493, [], []⟩
def L16 : List (Sum (FuncId × List Value × Value) KC) := [.inr Q485,
  .inr Q488,
  .inr Q491,
  .inr Q494]
def T16 : Tab := pushT T15 L16
def B495 : List (Nat × List Value) := [(64000, [(.int .u64 (.ofNat 1)), (.int .u64 (.ofNat 0))]), (64064, [(.int .u64 (.ofNat 1)), (.int .u64 (.ofNat 0))]), (64128, [(.int .u64 (.ofNat 1)), (.int .u64 (.ofNat 0))])]
def B496 : List (Nat × List Value) := [(65600, [(.int .u64 (.ofNat 1)), (.int .u64 (.ofNat 0))]), (64000, [(.int .u64 (.ofNat 1)), (.int .u64 (.ofNat 0))]), (64128, [(.int .u64 (.ofNat 1)), (.int .u64 (.ofNat 0))]), (65408, [(.int .u64 (.ofNat 1)), (.int .u64 (.ofNat 0))]), (64064, [(.int .u64 (.ofNat 1)), (.int .u64 (.ofNat 0))])]
def Q497 : KC := ⟨38, [(A [(.slice none 0 0), (.bool false), (C 64000 0 1 1)]), (A [(C 64064 0 1 1), (.bool false), (C 64128 0 1 1)])], 1003, 64192, B495, (A [(C 65408 0 1 1), (.bool false), (C 65600 0 1 1)]), 1026, B496, [], []⟩
def B498 : List (Nat × List Value) := [(64000, [(.int .u64 (.ofNat 1)), (.int .u64 (.ofNat 0))]), (64064, [(.int .u64 (.ofNat 1)), (.int .u64 (.ofNat 0))])]
def B499 : List (Nat × List Value) := [(64128, [(.int .u64 (.ofNat 2)), (.int .u64 (.ofNat 0))]), (64000, [(.int .u64 (.ofNat 1)), (.int .u64 (.ofNat 0))]), (64064, [(.int .u64 (.ofNat 1)), (.int .u64 (.ofNat 0))])]
def Q500 : KC := ⟨96, [(C 64000 0 1 1), (C 64064 0 1 1)], 1002, 64128, B498, (C 64128 0 1 1), 1003, B499, [], []⟩
def B501 : List (Nat × List Value) := [(64000, [(.int .u64 (.ofNat 1)), (.int .u64 (.ofNat 0))]), (64064, [(.int .u64 (.ofNat 1)), (.int .u64 (.ofNat 0))]), (64128, [(.int .u64 (.ofNat 1)), (.int .u64 (.ofNat 0))]), (64192, [(.int .u64 (.ofNat 1)), (.int .u64 (.ofNat 0))])]
def B502 : List (Nat × List Value) := [(65728, [(.int .u64 (.ofNat 1)), (.int .u64 (.ofNat 0))]), (64064, [(.int .u64 (.ofNat 1)), (.int .u64 (.ofNat 0))]), (64192, [(.int .u64 (.ofNat 1)), (.int .u64 (.ofNat 0))]), (65536, [(.int .u64 (.ofNat 2)), (.int .u64 (.ofNat 0))]), (64128, [(.int .u64 (.ofNat 1)), (.int .u64 (.ofNat 0))]), (64000, [(.int .u64 (.ofNat 1)), (.int .u64 (.ofNat 0))])]
def Q503 : KC := ⟨38, [(A [(C 64000 0 1 1), (.bool false), (C 64064 0 1 1)]), (A [(C 64128 0 1 1), (.bool false), (C 64192 0 1 1)])], 1004, 64256, B501, (A [(C 65536 0 1 1), (.bool false), (C 65728 0 1 1)]), 1028, B502, [], []⟩
def B504 : List (Nat × List Value) := [(64000, [(.int .u64 (.ofNat 0))]), (64064, [(.int .u64 (.ofNat 1))]), (64128, [(.int .u64 (.ofNat 1))]), (64192, [(.int .u64 (.ofNat 1))]), (64256, [(.int .u64 (.ofNat 1))]), (64320, [(.int .u64 (.ofNat 1))]), (64384, [(C 64000 0 0 0), (.bool false), (C 64064 0 1 1), (C 64128 0 1 1), (.bool false), (C 64192 0 1 1), (C 64256 0 1 1), (.bool false), (C 64320 0 1 1)]), (64448, [(C 64384 0 3 3)]), (64512, [(.int .u64 (.ofNat 1)), (.int .u64 (.ofNat 0))]), (64576, [(.int .u64 (.ofNat 1)), (.int .u64 (.ofNat 0))]), (64640, [(.int .u64 (.ofNat 1)), (.int .u64 (.ofNat 0))]), (64704, [(.int .u64 (.ofNat 1)), (.int .u64 (.ofNat 0))]), (64768, [(C 64512 0 1 1), (.bool false), (C 64576 0 1 1), (.slice none 0 0), (.bool false), (C 64640 0 1 1), (.slice none 0 0), (.bool false), (C 64704 0 1 1)]), (64832, [(.int .u64 (.ofNat 1)), (.int .u64 (.ofNat 0))]), (64896, [(.int .u64 (.ofNat 1)), (.int .u64 (.ofNat 0))]), (64960, [(.int .u64 (.ofNat 1)), (.int .u64 (.ofNat 0))]), (65024, [(.int .u64 (.ofNat 1)), (.int .u64 (.ofNat 0))]), (65088, [(.int .u64 (.ofNat 60)), (.int .u64 (.ofNat 0))]), (65152, [(.int .u64 (.ofNat 1)), (.int .u64 (.ofNat 0))]), (65216, [(C 64832 0 1 1), (.bool false), (C 64896 0 1 1), (C 64960 0 1 1), (.bool false), (C 65024 0 1 1), (C 65088 0 1 1), (.bool false), (C 65152 0 1 1)]), (65280, [(.int .u64 (.ofNat 1)), (.int .u64 (.ofNat 0))]), (65344, [(.int .u64 (.ofNat 1)), (.int .u64 (.ofNat 0))]), (65408, [(.int .u64 (.ofNat 2)), (.int .u64 (.ofNat 0))]), (65472, [(.int .u64 (.ofNat 1)), (.int .u64 (.ofNat 0))]), (65536, [(.int .u64 (.ofNat 100)), (.int .u64 (.ofNat 0))]), (65600, [(.int .u64 (.ofNat 1)), (.int .u64 (.ofNat 0))]), (65664, [(C 65280 0 1 1), (.bool false), (C 65344 0 1 1), (C 65408 0 1 1), (.bool false), (C 65472 0 1 1), (C 65536 0 1 1), (.bool false), (C 65600 0 1 1)]), (65729, [(C 64768 0 3 3), (C 65216 0 3 3), (C 65664 0 3 3)]), (65792, [(C 65729 0 3 3)]), (65856, [(I 0)]), (65920, [(I 0)])]
def B505 : List (Nat × List Value) := [(72512, [(.int .u64 (.ofNat 1)), (.int .u64 (.ofNat 0))]), (72320, [(.int .u64 (.ofNat 2)), (.int .u64 (.ofNat 0))]), (64320, [(.int .u64 (.ofNat 1))]), (64256, [(.int .u64 (.ofNat 1))]), (65344, [(.int .u64 (.ofNat 1)), (.int .u64 (.ofNat 0))]), (65280, [(.int .u64 (.ofNat 1)), (.int .u64 (.ofNat 0))]), (64000, [(.int .u64 (.ofNat 0))]), (64064, [(.int .u64 (.ofNat 1))]), (64128, [(.int .u64 (.ofNat 1))]), (64192, [(.int .u64 (.ofNat 1))]), (64384, [(C 64000 0 0 0), (.bool false), (C 64064 0 1 1), (C 64128 0 1 1), (.bool false), (C 64192 0 1 1), (C 64256 0 1 1), (.bool false), (C 64320 0 1 1)]), (64448, [(C 64384 0 3 3)]), (64512, [(.int .u64 (.ofNat 1)), (.int .u64 (.ofNat 0))]), (64576, [(.int .u64 (.ofNat 1)), (.int .u64 (.ofNat 0))]), (64640, [(.int .u64 (.ofNat 1)), (.int .u64 (.ofNat 0))]), (64704, [(.int .u64 (.ofNat 1)), (.int .u64 (.ofNat 0))]), (64768, [(C 64512 0 1 1), (.bool false), (C 64576 0 1 1), (.slice none 0 0), (.bool false), (C 64640 0 1 1), (.slice none 0 0), (.bool false), (C 64704 0 1 1)]), (64832, [(.int .u64 (.ofNat 1)), (.int .u64 (.ofNat 0))]), (64896, [(.int .u64 (.ofNat 1)), (.int .u64 (.ofNat 0))]), (64960, [(.int .u64 (.ofNat 1)), (.int .u64 (.ofNat 0))]), (65024, [(.int .u64 (.ofNat 1)), (.int .u64 (.ofNat 0))]), (65088, [(.int .u64 (.ofNat 60)), (.int .u64 (.ofNat 0))]), (65152, [(.int .u64 (.ofNat 1)), (.int .u64 (.ofNat 0))]), (65216, [(C 64832 0 1 1), (.bool false), (C 64896 0 1 1), (C 64960 0 1 1), (.bool false), (C 65024 0 1 1), (C 65088 0 1 1), (.bool false), (C 65152 0 1 1)]), (65408, [(.int .u64 (.ofNat 2)), (.int .u64 (.ofNat 0))]), (65472, [(.int .u64 (.ofNat 1)), (.int .u64 (.ofNat 0))]), (65536, [(.int .u64 (.ofNat 100)), (.int .u64 (.ofNat 0))]), (65600, [(.int .u64 (.ofNat 1)), (.int .u64 (.ofNat 0))]), (65664, [(C 65280 0 1 1), (.bool false), (C 65344 0 1 1), (C 65408 0 1 1), (.bool false), (C 65472 0 1 1), (C 65536 0 1 1), (.bool false), (C 65600 0 1 1)]), (65729, [(C 64768 0 3 3), (C 65216 0 3 3), (C 65664 0 3 3)]), (65792, [(C 65729 0 3 3)]), (65856, [(I 0)]), (65920, [(I 0)])]
def Q506 : KC := ⟨190, [(I 3), (.func (.func 191) ⟨[]⟩ ⟨[(Z 64448 0), (Z 65792 0), (Z 65856 0), (Z 65920 0)]⟩), (.func (.func 38) ⟨[]⟩ ⟨[]⟩)], 1031, 65984, B504, (A [(C 72320 0 1 1), (.bool false), (C 72512 0 1 1)]), 1134, B505, [], []⟩
def B507 : List (Nat × List Value) := [(64000, [(.int .u64 (.ofNat 1)), (.int .u64 (.ofNat 0))])]
def B508 : List (Nat × List Value) := [(64000, [(.int .u64 (.ofNat 1)), (.int .u64 (.ofNat 0))])]
def Q509 : KC := ⟨102, [(.slice none 0 0), (C 64000 0 1 1)], 1001, 64064, B507, (.tuple ⟨[(.slice none 0 0), (C 64000 0 1 1)]⟩), 1001, B508, [], []⟩
def B510 : List (Nat × List Value) := [(64000, [(.int .u64 (.ofNat 1)), (.int .u64 (.ofNat 0))]), (64064, [(.int .u64 (.ofNat 1)), (.int .u64 (.ofNat 0))]), (64128, [(.int .u64 (.ofNat 1)), (.int .u64 (.ofNat 0))])]
def B511 : List (Nat × List Value) := [(64512, [(.int .u64 (.ofNat 1)), (.int .u64 (.ofNat 0))]), (64064, [(.int .u64 (.ofNat 1)), (.int .u64 (.ofNat 0))]), (64128, [(.int .u64 (.ofNat 1)), (.int .u64 (.ofNat 0))]), (64000, [(.int .u64 (.ofNat 1)), (.int .u64 (.ofNat 0))]), (64448, [(.int .u64 (.ofNat 1)), (.int .u64 (.ofNat 0))]), (64384, [(.int .u64 (.ofNat 1))]), (64320, [(.slice none 0 0), (.bool false), (C 64512 0 1 1)]), (64256, [(.slice none 0 0), (.bool false), (C 64128 0 1 1)]), (64192, [(C 64000 0 1 1), (.bool false), (C 64064 0 1 1)])]
def Q512 : KC := ⟨67, [(A [(C 64000 0 1 1), (.bool false), (C 64064 0 1 1)]), (A [(.slice none 0 0), (.bool false), (C 64128 0 1 1)])], 1003, 64192, B510, (A [(.slice none 0 0), (.bool false), (C 64512 0 1 1)]), 1009, B511, [], []⟩
def B513 : List (Nat × List Value) := [(64000, [(.int .u64 (.ofNat 1))])]
def B514 : List (Nat × List Value) := [(64000, [(.int .u64 (.ofNat 1))])]
def Q515 : KC := ⟨102, [(.slice none 0 0), (C 64000 0 1 1)], 1001, 64064, B513, (.tuple ⟨[(.slice none 0 0), (C 64000 0 1 1)]⟩), 1001, B514, [], []⟩
def B516 : List (Nat × List Value) := [(64000, [(.int .u64 (.ofNat 0))]), (64064, [(.int .u64 (.ofNat 1))]), (64128, [(.int .u64 (.ofNat 1)), (.int .u64 (.ofNat 0))])]
def B517 : List (Nat × List Value) := [(64384, [(.int .u64 (.ofNat 1)), (.int .u64 (.ofNat 0))]), (64064, [(.int .u64 (.ofNat 1))]), (64128, [(.int .u64 (.ofNat 1)), (.int .u64 (.ofNat 0))]), (64000, [(.int .u64 (.ofNat 0))]), (64320, [(.slice none 0 0), (.bool false), (C 64384 0 1 1)]), (64256, [(.slice none 0 0), (.bool false), (C 64128 0 1 1)]), (64192, [(C 64000 0 0 0), (.bool false), (C 64064 0 1 1)])]
def Q518 : KC := ⟨67, [(A [(C 64000 0 0 0), (.bool false), (C 64064 0 1 1)]), (A [(.slice none 0 0), (.bool false), (C 64128 0 1 1)])], 1003, 64192, B516, (A [(.slice none 0 0), (.bool false), (C 64384 0 1 1)]), 1007, B517, [], []⟩
def B519 : List (Nat × List Value) := [(64768, [(.int .u64 (.ofNat 1)), (.int .u64 (.ofNat 0))]), (64064, [(.int .u64 (.ofNat 1)), (.int .u64 (.ofNat 0))]), (64192, [(.int .u64 (.ofNat 1)), (.int .u64 (.ofNat 0))]), (64704, [(.int .u64 (.ofNat 1)), (.int .u64 (.ofNat 0))]), (64000, [(.int .u64 (.ofNat 1)), (.int .u64 (.ofNat 0))]), (64128, [(.int .u64 (.ofNat 1)), (.int .u64 (.ofNat 0))])]
def Q520 : KC := ⟨67, [(A [(C 64000 0 1 1), (.bool false), (C 64064 0 1 1)]), (A [(C 64128 0 1 1), (.bool false), (C 64192 0 1 1)])], 1004, 64256, B501, (A [(C 64704 0 1 1), (.bool false), (C 64768 0 1 1)]), 1013, B519, [], []⟩
def B521 : List (Nat × List Value) := [(64000, [(.int .u64 (.ofNat 2)), (.int .u64 (.ofNat 0))]), (64064, [(.int .u64 (.ofNat 1)), (.int .u64 (.ofNat 0))])]
def B522 : List (Nat × List Value) := [(64192, [(.int .u64 (.ofNat 1)), (.int .u64 (.ofNat 0))]), (64128, [(.int .u64 (.ofNat 2))]), (64000, [(.int .u64 (.ofNat 2)), (.int .u64 (.ofNat 0))]), (64064, [(.int .u64 (.ofNat 1)), (.int .u64 (.ofNat 0))])]
def Q523 : KC := ⟨59, [(C 64000 0 1 1), (C 64064 0 1 1)], 1002, 64128, B521, (C 64192 0 1 1), 1004, B522, [], []⟩
def B524 : List (Nat × List Value) := [(64000, [(.int .u64 (.ofNat 1)), (.int .u64 (.ofNat 0))]), (64064, [(.int .u64 (.ofNat 1)), (.int .u64 (.ofNat 0))]), (64128, [(.int .u64 (.ofNat 2)), (.int .u64 (.ofNat 0))]), (64192, [(.int .u64 (.ofNat 1)), (.int .u64 (.ofNat 0))])]
def B525 : List (Nat × List Value) := [(64768, [(.int .u64 (.ofNat 1)), (.int .u64 (.ofNat 0))]), (64064, [(.int .u64 (.ofNat 1)), (.int .u64 (.ofNat 0))]), (64192, [(.int .u64 (.ofNat 1)), (.int .u64 (.ofNat 0))]), (64704, [(.int .u64 (.ofNat 2)), (.int .u64 (.ofNat 0))]), (64000, [(.int .u64 (.ofNat 1)), (.int .u64 (.ofNat 0))]), (64128, [(.int .u64 (.ofNat 2)), (.int .u64 (.ofNat 0))])]
def Q526 : KC := ⟨67, [(A [(C 64000 0 1 1), (.bool false), (C 64064 0 1 1)]), (A [(C 64128 0 1 1), (.bool false), (C 64192 0 1 1)])], 1004, 64256, B524, (A [(C 64704 0 1 1), (.bool false), (C 64768 0 1 1)]), 1013, B525, [], []⟩
def B527 : List (Nat × List Value) := [(64000, [(.int .u64 (.ofNat 2)), (.int .u64 (.ofNat 0))]), (64064, [(.int .u64 (.ofNat 1)), (.int .u64 (.ofNat 0))])]
def B528 : List (Nat × List Value) := [(64128, [(.int .u64 (.ofNat 2)), (.int .u64 (.ofNat 0))]), (64000, [(.int .u64 (.ofNat 2)), (.int .u64 (.ofNat 0))]), (64064, [(.int .u64 (.ofNat 1)), (.int .u64 (.ofNat 0))])]
def Q529 : KC := ⟨66, [(C 64000 0 1 1), (C 64064 0 1 1)], 1002, 64128, B527, (C 64128 0 1 1), 1003, B528, [], []⟩
def B530 : List (Nat × List Value) := [(65728, [(.int .u64 (.ofNat 1)), (.int .u64 (.ofNat 0))]), (64064, [(.int .u64 (.ofNat 1)), (.int .u64 (.ofNat 0))]), (64192, [(.int .u64 (.ofNat 1)), (.int .u64 (.ofNat 0))]), (65536, [(.int .u64 (.ofNat 3)), (.int .u64 (.ofNat 0))]), (64128, [(.int .u64 (.ofNat 2)), (.int .u64 (.ofNat 0))]), (64000, [(.int .u64 (.ofNat 1)), (.int .u64 (.ofNat 0))])]
def Q531 : KC := ⟨38, [(A [(C 64000 0 1 1), (.bool false), (C 64064 0 1 1)]), (A [(C 64128 0 1 1), (.bool false), (C 64192 0 1 1)])], 1004, 64256, B524, (A [(C 65536 0 1 1), (.bool false), (C 65728 0 1 1)]), 1028, B530, [], []⟩
def L17 : List (Sum (FuncId × List Value × Value) KC) := [.inr Q497,
  .inr Q500,
  .inr Q503,
  .inr Q506,
  .inr Q509,
  .inr Q512,
  .inr Q515,
  .inr Q518,
  .inr Q520,
  .inr Q523,
  .inr Q526,
  .inr Q529,
  .inr Q531]
def T17 : Tab := pushT T16 L17
def B532 : List (Nat × List Value) := [(64000, [(.int .u64 (.ofNat 0))]), (64064, [(.int .u64 (.ofNat 1))]), (64128, [(.int .u64 (.ofNat 1))]), (64192, [(.int .u64 (.ofNat 1))]), (64256, [(.int .u64 (.ofNat 1))]), (64320, [(.int .u64 (.ofNat 1))]), (64384, [(C 64000 0 0 0), (.bool false), (C 64064 0 1 1), (C 64128 0 1 1), (.bool false), (C 64192 0 1 1), (C 64256 0 1 1), (.bool false), (C 64320 0 1 1)]), (64448, [(C 64384 0 3 3)]), (64512, [(.int .u64 (.ofNat 1)), (.int .u64 (.ofNat 0))]), (64576, [(.int .u64 (.ofNat 1)), (.int .u64 (.ofNat 0))]), (64640, [(.int .u64 (.ofNat 1)), (.int .u64 (.ofNat 0))]), (64704, [(.int .u64 (.ofNat 1)), (.int .u64 (.ofNat 0))]), (64768, [(C 64512 0 1 1), (.bool false), (C 64576 0 1 1), (.slice none 0 0), (.bool false), (C 64640 0 1 1), (.slice none 0 0), (.bool false), (C 64704 0 1 1)]), (64832, [(.int .u64 (.ofNat 1)), (.int .u64 (.ofNat 0))]), (64896, [(.int .u64 (.ofNat 1)), (.int .u64 (.ofNat 0))]), (64960, [(.int .u64 (.ofNat 1)), (.int .u64 (.ofNat 0))]), (65024, [(.int .u64 (.ofNat 1)), (.int .u64 (.ofNat 0))]), (65088, [(.int .u64 (.ofNat 60)), (.int .u64 (.ofNat 0))]), (65152, [(.int .u64 (.ofNat 1)), (.int .u64 (.ofNat 0))]), (65216, [(C 64832 0 1 1), (.bool false), (C 64896 0 1 1), (C 64960 0 1 1), (.bool false), (C 65024 0 1 1), (C 65088 0 1 1), (.bool false), (C 65152 0 1 1)]), (65280, [(.int .u64 (.ofNat 1)), (.int .u64 (.ofNat 0))]), (65344, [(.int .u64 (.ofNat 1)), (.int .u64 (.ofNat 0))]), (65408, [(.int .u64 (.ofNat 2)), (.int .u64 (.ofNat 0))]), (65472, [(.int .u64 (.ofNat 1)), (.int .u64 (.ofNat 0))]), (65536, [(.int .u64 (.ofNat 100)), (.int .u64 (.ofNat 0))]), (65600, [(.int .u64 (.ofNat 1)), (.int .u64 (.ofNat 0))]), (65664, [(C 65280 0 1 1), (.bool false), (C 65344 0 1 1), (C 65408 0 1 1), (.bool false), (C 65472 0 1 1), (C 65536 0 1 1), (.bool false), (C 65600 0 1 1)]), (65729, [(C 64768 0 3 3), (C 65216 0 3 3), (C 65664 0 3 3)]), (65792, [(C 65729 0 3 3)]), (65856, [(I 0)]), (65920, [(I 1)])]
def B533 : List (Nat × List Value) := [(72192, [(.int .u64 (.ofNat 1)), (.int .u64 (.ofNat 0))]), (72000, [(.int .u64 (.ofNat 3)), (.int .u64 (.ofNat 0))]), (64320, [(.int .u64 (.ofNat 1))]), (64256, [(.int .u64 (.ofNat 1))]), (65344, [(.int .u64 (.ofNat 1)), (.int .u64 (.ofNat 0))]), (65472, [(.int .u64 (.ofNat 1)), (.int .u64 (.ofNat 0))]), (65280, [(.int .u64 (.ofNat 1)), (.int .u64 (.ofNat 0))]), (65408, [(.int .u64 (.ofNat 2)), (.int .u64 (.ofNat 0))]), (64000, [(.int .u64 (.ofNat 0))]), (64064, [(.int .u64 (.ofNat 1))]), (64128, [(.int .u64 (.ofNat 1))]), (64192, [(.int .u64 (.ofNat 1))]), (64384, [(C 64000 0 0 0), (.bool false), (C 64064 0 1 1), (C 64128 0 1 1), (.bool false), (C 64192 0 1 1), (C 64256 0 1 1), (.bool false), (C 64320 0 1 1)]), (64448, [(C 64384 0 3 3)]), (64512, [(.int .u64 (.ofNat 1)), (.int .u64 (.ofNat 0))]), (64576, [(.int .u64 (.ofNat 1)), (.int .u64 (.ofNat 0))]), (64640, [(.int .u64 (.ofNat 1)), (.int .u64 (.ofNat 0))]), (64704, [(.int .u64 (.ofNat 1)), (.int .u64 (.ofNat 0))]), (64768, [(C 64512 0 1 1), (.bool false), (C 64576 0 1 1), (.slice none 0 0), (.bool false), (C 64640 0 1 1), (.slice none 0 0), (.bool false), (C 64704 0 1 1)]), (64832, [(.int .u64 (.ofNat 1)), (.int .u64 (.ofNat 0))]), (64896, [(.int .u64 (.ofNat 1)), (.int .u64 (.ofNat 0))]), (64960, [(.int .u64 (.ofNat 1)), (.int .u64 (.ofNat 0))]), (65024, [(.int .u64 (.ofNat 1)), (.int .u64 (.ofNat 0))]), (65088, [(.int .u64 (.ofNat 60)), (.int .u64 (.ofNat 0))]), (65152, [(.int .u64 (.ofNat 1)), (.int .u64 (.ofNat 0))]), (65216, [(C 64832 0 1 1), (.bool false), (C 64896 0 1 1), (C 64960 0 1 1), (.bool false), (C 65024 0 1 1), (C 65088 0 1 1), (.bool false), (C 65152 0 1 1)]), (65536, [(.int .u64 (.ofNat 100)), (.int .u64 (.ofNat 0))]), (65600, [(.int .u64 (.ofNat 1)), (.int .u64 (.ofNat 0))]), (65664, [(C 65280 0 1 1), (.bool false), (C 65344 0 1 1), (C 65408 0 1 1), (.bool false), (C 65472 0 1 1), (C 65536 0 1 1), (.bool false), (C 65600 0 1 1)]), (65729, [(C 64768 0 3 3), (C 65216 0 3 3), (C 65664 0 3 3)]), (65792, [(C 65729 0 3 3)]), (65856, [(I 0)]), (65920, [(I 1)])]
def Q534 : KC := ⟨190, [(I 3), (.func (.func 191) ⟨[]⟩ ⟨[(Z 64448 0), (Z 65792 0), (Z 65856 0), (Z 65920 0)]⟩), (.func (.func 38) ⟨[]⟩ ⟨[]⟩)], 1031, 65984, B532, (A [(C 72000 0 1 1), (.bool false), (C 72192 0 1 1)]), 1129, B533, [], []⟩
def B535 : List (Nat × List Value) := [(64000, [(.int .u64 (.ofNat 60)), (.int .u64 (.ofNat 0))])]
def B536 : List (Nat × List Value) := [(64064, [(.int .u64 (.ofNat 60))]), (64000, [(.int .u64 (.ofNat 60)), (.int .u64 (.ofNat 0))])]
def Q537 : KC := ⟨92, [(C 64000 0 1 1), (.int .u64 (.ofNat 1))], 1001, 64064, B535, (.tuple ⟨[(C 64064 0 1 1), (.int .u64 (.ofNat 0))]⟩), 1002, B536, [], []⟩
def B538 : List (Nat × List Value) := [(64000, [(.int .u64 (.ofNat 60)), (.int .u64 (.ofNat 0))]), (64064, [(.int .u64 (.ofNat 1)), (.int .u64 (.ofNat 0))])]
def B539 : List (Nat × List Value) := [(64192, [(.int .u64 (.ofNat 1)), (.int .u64 (.ofNat 0))]), (64128, [(.int .u64 (.ofNat 60))]), (64000, [(.int .u64 (.ofNat 60)), (.int .u64 (.ofNat 0))]), (64064, [(.int .u64 (.ofNat 1)), (.int .u64 (.ofNat 0))])]
def Q540 : KC := ⟨59, [(C 64000 0 1 1), (C 64064 0 1 1)], 1002, 64128, B538, (C 64192 0 1 1), 1004, B539, [], []⟩
def B541 : List (Nat × List Value) := [(64000, [(.int .u64 (.ofNat 1)), (.int .u64 (.ofNat 0))]), (64064, [(.int .u64 (.ofNat 60)), (.int .u64 (.ofNat 0))])]
def B542 : List (Nat × List Value) := [(64128, [(.int .u64 (.ofNat 60)), (.int .u64 (.ofNat 0))]), (64000, [(.int .u64 (.ofNat 1)), (.int .u64 (.ofNat 0))]), (64064, [(.int .u64 (.ofNat 60)), (.int .u64 (.ofNat 0))])]
def Q543 : KC := ⟨66, [(C 64000 0 1 1), (C 64064 0 1 1)], 1002, 64128, B541, (C 64128 0 1 1), 1003, B542, [], []⟩
def B544 : List (Nat × List Value) := [(64000, [(.int .u64 (.ofNat 1)), (.int .u64 (.ofNat 0))]), (64064, [(.int .u64 (.ofNat 1)), (.int .u64 (.ofNat 0))]), (64128, [(.int .u64 (.ofNat 60)), (.int .u64 (.ofNat 0))]), (64192, [(.int .u64 (.ofNat 1)), (.int .u64 (.ofNat 0))])]
def B545 : List (Nat × List Value) := [(64768, [(.int .u64 (.ofNat 1)), (.int .u64 (.ofNat 0))]), (64064, [(.int .u64 (.ofNat 1)), (.int .u64 (.ofNat 0))]), (64192, [(.int .u64 (.ofNat 1)), (.int .u64 (.ofNat 0))]), (64704, [(.int .u64 (.ofNat 60)), (.int .u64 (.ofNat 0))]), (64000, [(.int .u64 (.ofNat 1)), (.int .u64 (.ofNat 0))]), (64128, [(.int .u64 (.ofNat 60)), (.int .u64 (.ofNat 0))])]
def Q546 : KC := ⟨67, [(A [(C 64000 0 1 1), (.bool false), (C 64064 0 1 1)]), (A [(C 64128 0 1 1), (.bool false), (C 64192 0 1 1)])], 1004, 64256, B544, (A [(C 64704 0 1 1), (.bool false), (C 64768 0 1 1)]), 1013, B545, [], []⟩
def B547 : List (Nat × List Value) := [(64000, [(.int .u64 (.ofNat 60)), (.int .u64 (.ofNat 0))]), (64064, [(.int .u64 (.ofNat 1))])]
def B548 : List (Nat × List Value) := [(64192, [(.int .u64 (.ofNat 1)), (.int .u64 (.ofNat 0))]), (64128, [(.int .u64 (.ofNat 60))]), (64000, [(.int .u64 (.ofNat 60)), (.int .u64 (.ofNat 0))]), (64064, [(.int .u64 (.ofNat 1))])]
def Q549 : KC := ⟨59, [(C 64000 0 1 1), (C 64064 0 1 1)], 1002, 64128, B547, (C 64192 0 1 1), 1004, B548, [], []⟩
def B550 : List (Nat × List Value) := [(64000, [(.int .u64 (.ofNat 1))]), (64064, [(.int .u64 (.ofNat 60)), (.int .u64 (.ofNat 0))])]
def B551 : List (Nat × List Value) := [(64128, [(.int .u64 (.ofNat 60)), (.int .u64 (.ofNat 0))]), (64000, [(.int .u64 (.ofNat 1))]), (64064, [(.int .u64 (.ofNat 60)), (.int .u64 (.ofNat 0))])]
def Q552 : KC := ⟨66, [(C 64000 0 1 1), (C 64064 0 1 1)], 1002, 64128, B550, (C 64128 0 1 1), 1003, B551, [], []⟩
def B553 : List (Nat × List Value) := [(64000, [(.int .u64 (.ofNat 1))]), (64064, [(.int .u64 (.ofNat 1))]), (64128, [(.int .u64 (.ofNat 60)), (.int .u64 (.ofNat 0))]), (64192, [(.int .u64 (.ofNat 1)), (.int .u64 (.ofNat 0))])]
def B554 : List (Nat × List Value) := [(64768, [(.int .u64 (.ofNat 1)), (.int .u64 (.ofNat 0))]), (64064, [(.int .u64 (.ofNat 1))]), (64192, [(.int .u64 (.ofNat 1)), (.int .u64 (.ofNat 0))]), (64704, [(.int .u64 (.ofNat 60)), (.int .u64 (.ofNat 0))]), (64000, [(.int .u64 (.ofNat 1))]), (64128, [(.int .u64 (.ofNat 60)), (.int .u64 (.ofNat 0))])]
def Q555 : KC := ⟨67, [(A [(C 64000 0 1 1), (.bool false), (C 64064 0 1 1)]), (A [(C 64128 0 1 1), (.bool false), (C 64192 0 1 1)])], 1004, 64256, B553, (A [(C 64704 0 1 1), (.bool false), (C 64768 0 1 1)]), 1013, B554, [], []⟩
def B556 : List (Nat × List Value) := [(64000, [(.int .u64 (.ofNat 60)), (.int .u64 (.ofNat 0))]), (64064, [(.int .u64 (.ofNat 1)), (.int .u64 (.ofNat 0))])]
def B557 : List (Nat × List Value) := [(64128, [(.int .u64 (.ofNat 60)), (.int .u64 (.ofNat 0))]), (64000, [(.int .u64 (.ofNat 60)), (.int .u64 (.ofNat 0))]), (64064, [(.int .u64 (.ofNat 1)), (.int .u64 (.ofNat 0))])]
def Q558 : KC := ⟨66, [(C 64000 0 1 1), (C 64064 0 1 1)], 1002, 64128, B556, (C 64128 0 1 1), 1003, B557, [], []⟩
def B559 : List (Nat × List Value) := [(64000, [(.int .u64 (.ofNat 60)), (.int .u64 (.ofNat 0))])]
def B560 : List (Nat × List Value) := [(64064, [(.int .u64 (.ofNat 60)), (.int .u64 (.ofNat 0))]), (64000, [(.int .u64 (.ofNat 60)), (.int .u64 (.ofNat 0))])]
def Q561 : KC := ⟨96, [(.slice none 0 0), (C 64000 0 1 1)], 1001, 64064, B559, (C 64064 0 1 1), 1002, B560, [], []⟩
def B562 : List (Nat × List Value) := [(64000, [(.int .u64 (.ofNat 1)), (.int .u64 (.ofNat 0))]), (64064, [(.int .u64 (.ofNat 60)), (.int .u64 (.ofNat 0))]), (64128, [(.int .u64 (.ofNat 1)), (.int .u64 (.ofNat 0))])]
def B563 : List (Nat × List Value) := [(65600, [(.int .u64 (.ofNat 1)), (.int .u64 (.ofNat 0))]), (64000, [(.int .u64 (.ofNat 1)), (.int .u64 (.ofNat 0))]), (64128, [(.int .u64 (.ofNat 1)), (.int .u64 (.ofNat 0))]), (65408, [(.int .u64 (.ofNat 60)), (.int .u64 (.ofNat 0))]), (64064, [(.int .u64 (.ofNat 60)), (.int .u64 (.ofNat 0))])]
def Q564 : KC := ⟨38, [(A [(.slice none 0 0), (.bool false), (C 64000 0 1 1)]), (A [(C 64064 0 1 1), (.bool false), (C 64128 0 1 1)])], 1003, 64192, B562, (A [(C 65408 0 1 1), (.bool false), (C 65600 0 1 1)]), 1026, B563, [], []⟩
def B565 : List (Nat × List Value) := [(64000, [(.int .u64 (.ofNat 100)), (.int .u64 (.ofNat 0))])]
def B566 : List (Nat × List Value) := [(64064, [(.int .u64 (.ofNat 100))]), (64000, [(.int .u64 (.ofNat 100)), (.int .u64 (.ofNat 0))])]
def Q567 : KC := ⟨92, [(C 64000 0 1 1), (.int .u64 (.ofNat 1))], 1001, 64064, B565, (.tuple ⟨[(C 64064 0 1 1), (.int .u64 (.ofNat 0))]⟩), 1002, B566, [], []⟩
def L18 : List (Sum (FuncId × List Value × Value) KC) := [.inr Q534,
  .inr Q537,
  .inr Q540,
  .inl (98, [(.int .u64 (.ofNat 1)), (.int .u64 (.ofNat 60))], (.tuple ⟨[(.int .u64 (.ofNat 0)), (.int .u64 (.ofNat 60))]⟩)),
  .inr Q543,
  .inr Q546,
  .inr Q549,
  .inr Q552,
  .inr Q555,
  .inr Q558,
  .inr Q561,
  .inr Q564,
  .inr Q567]
def T18 : Tab := pushT T17 L18
def B568 : List (Nat × List Value) := [(64000, [(.int .u64 (.ofNat 100)), (.int .u64 (.ofNat 0))]), (64064, [(.int .u64 (.ofNat 1)), (.int .u64 (.ofNat 0))])]
def B569 : List (Nat × List Value) := [(64192, [(.int .u64 (.ofNat 1)), (.int .u64 (.ofNat 0))]), (64128, [(.int .u64 (.ofNat 100))]), (64000, [(.int .u64 (.ofNat 100)), (.int .u64 (.ofNat 0))]), (64064, [(.int .u64 (.ofNat 1)), (.int .u64 (.ofNat 0))])]
def Q570 : KC := ⟨59, [(C 64000 0 1 1), (C 64064 0 1 1)], 1002, 64128, B568, (C 64192 0 1 1), 1004, B569, [], []⟩
def B571 : List (Nat × List Value) := [(64000, [(.int .u64 (.ofNat 1)), (.int .u64 (.ofNat 0))]), (64064, [(.int .u64 (.ofNat 100)), (.int .u64 (.ofNat 0))])]
def B572 : List (Nat × List Value) := [(64128, [(.int .u64 (.ofNat 100)), (.int .u64 (.ofNat 0))]), (64000, [(.int .u64 (.ofNat 1)), (.int .u64 (.ofNat 0))]), (64064, [(.int .u64 (.ofNat 100)), (.int .u64 (.ofNat 0))])]
def Q573 : KC := ⟨66, [(C 64000 0 1 1), (C 64064 0 1 1)], 1002, 64128, B571, (C 64128 0 1 1), 1003, B572, [], []⟩
def B574 : List (Nat × List Value) := [(64000, [(.int .u64 (.ofNat 1)), (.int .u64 (.ofNat 0))]), (64064, [(.int .u64 (.ofNat 1)), (.int .u64 (.ofNat 0))]), (64128, [(.int .u64 (.ofNat 100)), (.int .u64 (.ofNat 0))]), (64192, [(.int .u64 (.ofNat 1)), (.int .u64 (.ofNat 0))])]
def B575 : List (Nat × List Value) := [(64768, [(.int .u64 (.ofNat 1)), (.int .u64 (.ofNat 0))]), (64064, [(.int .u64 (.ofNat 1)), (.int .u64 (.ofNat 0))]), (64192, [(.int .u64 (.ofNat 1)), (.int .u64 (.ofNat 0))]), (64704, [(.int .u64 (.ofNat 100)), (.int .u64 (.ofNat 0))]), (64000, [(.int .u64 (.ofNat 1)), (.int .u64 (.ofNat 0))]), (64128, [(.int .u64 (.ofNat 100)), (.int .u64 (.ofNat 0))])]
def Q576 : KC := ⟨67, [(A [(C 64000 0 1 1), (.bool false), (C 64064 0 1 1)]), (A [(C 64128 0 1 1), (.bool false), (C 64192 0 1 1)])], 1004, 64256, B574, (A [(C 64704 0 1 1), (.bool false), (C 64768 0 1 1)]), 1013, B575, [], []⟩
def B577 : List (Nat × List Value) := [(64000, [(.int .u64 (.ofNat 100)), (.int .u64 (.ofNat 0))]), (64064, [(.int .u64 (.ofNat 1))])]
def B578 : List (Nat × List Value) := [(64192, [(.int .u64 (.ofNat 1)), (.int .u64 (.ofNat 0))]), (64128, [(.int .u64 (.ofNat 100))]), (64000, [(.int .u64 (.ofNat 100)), (.int .u64 (.ofNat 0))]), (64064, [(.int .u64 (.ofNat 1))])]
def Q579 : KC := ⟨59, [(C 64000 0 1 1), (C 64064 0 1 1)], 1002, 64128, B577, (C 64192 0 1 1), 1004, B578, [], []⟩
def B580 : List (Nat × List Value) := [(64000, [(.int .u64 (.ofNat 1))]), (64064, [(.int .u64 (.ofNat 100)), (.int .u64 (.ofNat 0))])]
def B581 : List (Nat × List Value) := [(64128, [(.int .u64 (.ofNat 100)), (.int .u64 (.ofNat 0))]), (64000, [(.int .u64 (.ofNat 1))]), (64064, [(.int .u64 (.ofNat 100)), (.int .u64 (.ofNat 0))])]
def Q582 : KC := ⟨66, [(C 64000 0 1 1), (C 64064 0 1 1)], 1002, 64128, B580, (C 64128 0 1 1), 1003, B581, [], []⟩
def B583 : List (Nat × List Value) := [(64000, [(.int .u64 (.ofNat 1))]), (64064, [(.int .u64 (.ofNat 1))]), (64128, [(.int .u64 (.ofNat 100)), (.int .u64 (.ofNat 0))]), (64192, [(.int .u64 (.ofNat 1)), (.int .u64 (.ofNat 0))])]
def B584 : List (Nat × List Value) := [(64768, [(.int .u64 (.ofNat 1)), (.int .u64 (.ofNat 0))]), (64064, [(.int .u64 (.ofNat 1))]), (64192, [(.int .u64 (.ofNat 1)), (.int .u64 (.ofNat 0))]), (64704, [(.int .u64 (.ofNat 100)), (.int .u64 (.ofNat 0))]), (64000, [(.int .u64 (.ofNat 1))]), (64128, [(.int .u64 (.ofNat 100)), (.int .u64 (.ofNat 0))])]
def Q585 : KC := ⟨67, [(A [(C 64000 0 1 1), (.bool false), (C 64064 0 1 1)]), (A [(C 64128 0 1 1), (.bool false), (C 64192 0 1 1)])], 1004, 64256, B583, (A [(C 64704 0 1 1), (.bool false), (C 64768 0 1 1)]), 1013, B584, [], []⟩
def B586 : List (Nat × List Value) := [(64000, [(.int .u64 (.ofNat 100)), (.int .u64 (.ofNat 0))]), (64064, [(.int .u64 (.ofNat 1)), (.int .u64 (.ofNat 0))])]
def B587 : List (Nat × List Value) := [(64128, [(.int .u64 (.ofNat 100)), (.int .u64 (.ofNat 0))]), (64000, [(.int .u64 (.ofNat 100)), (.int .u64 (.ofNat 0))]), (64064, [(.int .u64 (.ofNat 1)), (.int .u64 (.ofNat 0))])]
def Q588 : KC := ⟨66, [(C 64000 0 1 1), (C 64064 0 1 1)], 1002, 64128, B586, (C 64128 0 1 1), 1003, B587, [], []⟩
def B589 : List (Nat × List Value) := [(64000, [(.int .u64 (.ofNat 60)), (.int .u64 (.ofNat 0))]), (64064, [(.int .u64 (.ofNat 100)), (.int .u64 (.ofNat 0))])]
def B590 : List (Nat × List Value) := [(64128, [(.int .u64 (.ofNat 160)), (.int .u64 (.ofNat 0))]), (64000, [(.int .u64 (.ofNat 60)), (.int .u64 (.ofNat 0))]), (64064, [(.int .u64 (.ofNat 100)), (.int .u64 (.ofNat 0))])]
def Q591 : KC := ⟨96, [(C 64000 0 1 1), (C 64064 0 1 1)], 1002, 64128, B589, (C 64128 0 1 1), 1003, B590, [], []⟩
def B592 : List (Nat × List Value) := [(64000, [(.int .u64 (.ofNat 60)), (.int .u64 (.ofNat 0))]), (64064, [(.int .u64 (.ofNat 1)), (.int .u64 (.ofNat 0))]), (64128, [(.int .u64 (.ofNat 100)), (.int .u64 (.ofNat 0))]), (64192, [(.int .u64 (.ofNat 1)), (.int .u64 (.ofNat 0))])]
def B593 : List (Nat × List Value) := [(65728, [(.int .u64 (.ofNat 1)), (.int .u64 (.ofNat 0))]), (64064, [(.int .u64 (.ofNat 1)), (.int .u64 (.ofNat 0))]), (64192, [(.int .u64 (.ofNat 1)), (.int .u64 (.ofNat 0))]), (65536, [(.int .u64 (.ofNat 160)), (.int .u64 (.ofNat 0))]), (64128, [(.int .u64 (.ofNat 100)), (.int .u64 (.ofNat 0))]), (64000, [(.int .u64 (.ofNat 60)), (.int .u64 (.ofNat 0))])]
def Q594 : KC := ⟨38, [(A [(C 64000 0 1 1), (.bool false), (C 64064 0 1 1)]), (A [(C 64128 0 1 1), (.bool false), (C 64192 0 1 1)])], 1004, 64256, B592, (A [(C 65536 0 1 1), (.bool false), (C 65728 0 1 1)]), 1028, B593, [], []⟩
def B595 : List (Nat × List Value) := [(64000, [(.int .u64 (.ofNat 0))]), (64064, [(.int .u64 (.ofNat 1))]), (64128, [(.int .u64 (.ofNat 1))]), (64192, [(.int .u64 (.ofNat 1))]), (64256, [(.int .u64 (.ofNat 1))]), (64320, [(.int .u64 (.ofNat 1))]), (64384, [(C 64000 0 0 0), (.bool false), (C 64064 0 1 1), (C 64128 0 1 1), (.bool false), (C 64192 0 1 1), (C 64256 0 1 1), (.bool false), (C 64320 0 1 1)]), (64448, [(C 64384 0 3 3)]), (64512, [(.int .u64 (.ofNat 1)), (.int .u64 (.ofNat 0))]), (64576, [(.int .u64 (.ofNat 1)), (.int .u64 (.ofNat 0))]), (64640, [(.int .u64 (.ofNat 1)), (.int .u64 (.ofNat 0))]), (64704, [(.int .u64 (.ofNat 1)), (.int .u64 (.ofNat 0))]), (64768, [(C 64512 0 1 1), (.bool false), (C 64576 0 1 1), (.slice none 0 0), (.bool false), (C 64640 0 1 1), (.slice none 0 0), (.bool false), (C 64704 0 1 1)]), (64832, [(.int .u64 (.ofNat 1)), (.int .u64 (.ofNat 0))]), (64896, [(.int .u64 (.ofNat 1)), (.int .u64 (.ofNat 0))]), (64960, [(.int .u64 (.ofNat 1)), (.int .u64 (.ofNat 0))]), (65024, [(.int .u64 (.ofNat 1)), (.int .u64 (.ofNat 0))]), (65088, [(.int .u64 (.ofNat 60)), (.int .u64 (.ofNat 0))]), (65152, [(.int .u64 (.ofNat 1)), (.int .u64 (.ofNat 0))]), (65216, [(C 64832 0 1 1), (.bool false), (C 64896 0 1 1), (C 64960 0 1 1), (.bool false), (C 65024 0 1 1), (C 65088 0 1 1), (.bool false), (C 65152 0 1 1)]), (65280, [(.int .u64 (.ofNat 1)), (.int .u64 (.ofNat 0))]), (65344, [(.int .u64 (.ofNat 1)), (.int .u64 (.ofNat 0))]), (65408, [(.int .u64 (.ofNat 2)), (.int .u64 (.ofNat 0))]), (65472, [(.int .u64 (.ofNat 1)), (.int .u64 (.ofNat 0))]), (65536, [(.int .u64 (.ofNat 100)), (.int .u64 (.ofNat 0))]), (65600, [(.int .u64 (.ofNat 1)), (.int .u64 (.ofNat 0))]), (65664, [(C 65280 0 1 1), (.bool false), (C 65344 0 1 1), (C 65408 0 1 1), (.bool false), (C 65472 0 1 1), (C 65536 0 1 1), (.bool false), (C 65600 0 1 1)]), (65729, [(C 64768 0 3 3), (C 65216 0 3 3), (C 65664 0 3 3)]), (65792, [(C 65729 0 3 3)]), (65856, [(I 0)]), (65920, [(I 2)])]
def B596 : List (Nat × List Value) := [(72192, [(.int .u64 (.ofNat 1)), (.int .u64 (.ofNat 0))]), (72000, [(.int .u64 (.ofNat 160)), (.int .u64 (.ofNat 0))]), (64320, [(.int .u64 (.ofNat 1))]), (64256, [(.int .u64 (.ofNat 1))]), (65344, [(.int .u64 (.ofNat 1)), (.int .u64 (.ofNat 0))]), (65600, [(.int .u64 (.ofNat 1)), (.int .u64 (.ofNat 0))]), (65280, [(.int .u64 (.ofNat 1)), (.int .u64 (.ofNat 0))]), (65536, [(.int .u64 (.ofNat 100)), (.int .u64 (.ofNat 0))]), (64000, [(.int .u64 (.ofNat 0))]), (64064, [(.int .u64 (.ofNat 1))]), (64128, [(.int .u64 (.ofNat 1))]), (64192, [(.int .u64 (.ofNat 1))]), (64384, [(C 64000 0 0 0), (.bool false), (C 64064 0 1 1), (C 64128 0 1 1), (.bool false), (C 64192 0 1 1), (C 64256 0 1 1), (.bool false), (C 64320 0 1 1)]), (64448, [(C 64384 0 3 3)]), (64512, [(.int .u64 (.ofNat 1)), (.int .u64 (.ofNat 0))]), (64576, [(.int .u64 (.ofNat 1)), (.int .u64 (.ofNat 0))]), (64640, [(.int .u64 (.ofNat 1)), (.int .u64 (.ofNat 0))]), (64704, [(.int .u64 (.ofNat 1)), (.int .u64 (.ofNat 0))]), (64768, [(C 64512 0 1 1), (.bool false), (C 64576 0 1 1), (.slice none 0 0), (.bool false), (C 64640 0 1 1), (.slice none 0 0), (.bool false), (C 64704 0 1 1)]), (64832, [(.int .u64 (.ofNat 1)), (.int .u64 (.ofNat 0))]), (64896, [(.int .u64 (.ofNat 1)), (.int .u64 (.ofNat 0))]), (64960, [(.int .u64 (.ofNat 1)), (.int .u64 (.ofNat 0))]), (65024, [(.int .u64 (.ofNat 1)), (.int .u64 (.ofNat 0))]), (65088, [(.int .u64 (.ofNat 60)), (.int .u64 (.ofNat 0))]), (65152, [(.int .u64 (.ofNat 1)), (.int .u64 (.ofNat 0))]), (65216, [(C 64832 0 1 1), (.bool false), (C 64896 0 1 1), (C 64960 0 1 1), (.bool false), (C 65024 0 1 1), (C 65088 0 1 1), (.bool false), (C 65152 0 1 1)]), (65408, [(.int .u64 (.ofNat 2)), (.int .u64 (.ofNat 0))]), (65472, [(.int .u64 (.ofNat 1)), (.int .u64 (.ofNat 0))]), (65664, [(C 65280 0 1 1), (.bool false), (C 65344 0 1 1), (C 65408 0 1 1), (.bool false), (C 65472 0 1 1), (C 65536 0 1 1), (.bool false), (C 65600 0 1 1)]), (65729, [(C 64768 0 3 3), (C 65216 0 3 3), (C 65664 0 3 3)]), (65792, [(C 65729 0 3 3)]), (65856, [(I 0)]), (65920, [(I 2)])]
def Q597 : KC := ⟨190, [(I 3), (.func (.func 191) ⟨[]⟩ ⟨[(Z 64448 0), (Z 65792 0), (Z 65856 0), (Z 65920 0)]⟩), (.func (.func 38) ⟨[]⟩ ⟨[]⟩)], 1031, 65984, B595, (A [(C 72000 0 1 1), (.bool false), (C 72192 0 1 1)]), 1129, B596, [], []⟩
def B598 : List (Nat × List Value) := [(64000, [(.int .u64 (.ofNat 1)), (.int .u64 (.ofNat 0))])]
def B599 : List (Nat × List Value) := [(64256, [(.int .u64 (.ofNat 1)), (.int .u64 (.ofNat 0))]), (64000, [(.int .u64 (.ofNat 1)), (.int .u64 (.ofNat 0))]), (64192, [(.slice none 0 0), (.bool false), (C 64256 0 1 1)]), (64128, [(.slice none 0 0), (.bool false), (C 64000 0 1 1)]), (64064, [(.slice none 0 0), (.bool false), (C 64000 0 1 1)])]
def Q600 : KC := ⟨67, [(A [(.slice none 0 0), (.bool false), (C 64000 0 1 1)]), (A [(.slice none 0 0), (.bool false), (C 64000 0 1 1)])], 1001, 64064, B598, (A [(.slice none 0 0), (.bool false), (C 64256 0 1 1)]), 1005, B599, [], []⟩
def L19 : List (Sum (FuncId × List Value × Value) KC) := [.inr Q570,
  .inl (98, [(.int .u64 (.ofNat 1)), (.int .u64 (.ofNat 100))], (.tuple ⟨[(.int .u64 (.ofNat 0)), (.int .u64 (.ofNat 100))]⟩)),
  .inr Q573,
  .inr Q576,
  .inr Q579,
  .inr Q582,
  .inr Q585,
  .inr Q588,
  .inr Q591,
  .inr Q594,
  .inr Q597,
  .inr Q600,
  .inl (98, [(.int .u64 (.ofNat 2)), (.int .u64 (.ofNat 2))], (.tuple ⟨[(.int .u64 (.ofNat 0)), (.int .u64 (.ofNat 4))]⟩))]
def T19 : Tab := pushT T18 L19
def B601 : List (Nat × List Value) := [(64000, [(.int .u64 (.ofNat 2)), (.int .u64 (.ofNat 0))])]
def B602 : List (Nat × List Value) := [(64064, [(.int .u64 (.ofNat 4)), (.int .u64 (.ofNat 0))]), (64000, [(.int .u64 (.ofNat 2)), (.int .u64 (.ofNat 0))])]
def Q603 : KC := ⟨66, [(C 64000 0 1 1), (C 64000 0 1 1)], 1001, 64064, B601, (C 64064 0 1 1), 1002, B602, [], []⟩
def B604 : List (Nat × List Value) := [(64000, [(.int .u64 (.ofNat 2)), (.int .u64 (.ofNat 0))]), (64064, [(.int .u64 (.ofNat 1)), (.int .u64 (.ofNat 0))])]
def B605 : List (Nat × List Value) := [(64640, [(.int .u64 (.ofNat 1)), (.int .u64 (.ofNat 0))]), (64064, [(.int .u64 (.ofNat 1)), (.int .u64 (.ofNat 0))]), (64576, [(.int .u64 (.ofNat 4)), (.int .u64 (.ofNat 0))]), (64000, [(.int .u64 (.ofNat 2)), (.int .u64 (.ofNat 0))])]
def Q606 : KC := ⟨67, [(A [(C 64000 0 1 1), (.bool false), (C 64064 0 1 1)]), (A [(C 64000 0 1 1), (.bool false), (C 64064 0 1 1)])], 1002, 64128, B604, (A [(C 64576 0 1 1), (.bool false), (C 64640 0 1 1)]), 1011, B605, [], []⟩
def B607 : List (Nat × List Value) := [(64000, [(.int .u64 (.ofNat 4)), (.int .u64 (.ofNat 0))])]
def B608 : List (Nat × List Value) := [(64064, [(.int .u64 (.ofNat 4))]), (64000, [(.int .u64 (.ofNat 4)), (.int .u64 (.ofNat 0))])]
def Q609 : KC := ⟨92, [(C 64000 0 1 1), (.int .u64 (.ofNat 1))], 1001, 64064, B607, (.tuple ⟨[(C 64064 0 1 1), (.int .u64 (.ofNat 0))]⟩), 1002, B608, [], []⟩
def B610 : List (Nat × List Value) := [(64000, [(.int .u64 (.ofNat 4)), (.int .u64 (.ofNat 0))]), (64064, [(.int .u64 (.ofNat 1))])]
def B611 : List (Nat × List Value) := [(64192, [(.int .u64 (.ofNat 1)), (.int .u64 (.ofNat 0))]), (64128, [(.int .u64 (.ofNat 4))]), (64000, [(.int .u64 (.ofNat 4)), (.int .u64 (.ofNat 0))]), (64064, [(.int .u64 (.ofNat 1))])]
def Q612 : KC := ⟨59, [(C 64000 0 1 1), (C 64064 0 1 1)], 1002, 64128, B610, (C 64192 0 1 1), 1004, B611, [], []⟩
def B613 : List (Nat × List Value) := [(64000, [(.int .u64 (.ofNat 1))]), (64064, [(.int .u64 (.ofNat 4)), (.int .u64 (.ofNat 0))])]
def B614 : List (Nat × List Value) := [(64128, [(.int .u64 (.ofNat 4)), (.int .u64 (.ofNat 0))]), (64000, [(.int .u64 (.ofNat 1))]), (64064, [(.int .u64 (.ofNat 4)), (.int .u64 (.ofNat 0))])]
def Q615 : KC := ⟨66, [(C 64000 0 1 1), (C 64064 0 1 1)], 1002, 64128, B613, (C 64128 0 1 1), 1003, B614, [], []⟩
def B616 : List (Nat × List Value) := [(64000, [(.int .u64 (.ofNat 1))]), (64064, [(.int .u64 (.ofNat 1))]), (64128, [(.int .u64 (.ofNat 4)), (.int .u64 (.ofNat 0))]), (64192, [(.int .u64 (.ofNat 1)), (.int .u64 (.ofNat 0))])]
def B617 : List (Nat × List Value) := [(64768, [(.int .u64 (.ofNat 1)), (.int .u64 (.ofNat 0))]), (64064, [(.int .u64 (.ofNat 1))]), (64192, [(.int .u64 (.ofNat 1)), (.int .u64 (.ofNat 0))]), (64704, [(.int .u64 (.ofNat 4)), (.int .u64 (.ofNat 0))]), (64000, [(.int .u64 (.ofNat 1))]), (64128, [(.int .u64 (.ofNat 4)), (.int .u64 (.ofNat 0))])]
def Q618 : KC := ⟨67, [(A [(C 64000 0 1 1), (.bool false), (C 64064 0 1 1)]), (A [(C 64128 0 1 1), (.bool false), (C 64192 0 1 1)])], 1004, 64256, B616, (A [(C 64704 0 1 1), (.bool false), (C 64768 0 1 1)]), 1013, B617, [], []⟩
def B619 : List (Nat × List Value) := [(64000, [(.int .u64 (.ofNat 4)), (.int .u64 (.ofNat 0))]), (64064, [(.int .u64 (.ofNat 1)), (.int .u64 (.ofNat 0))])]
def B620 : List (Nat × List Value) := [(64128, [(.int .u64 (.ofNat 4)), (.int .u64 (.ofNat 0))]), (64000, [(.int .u64 (.ofNat 4)), (.int .u64 (.ofNat 0))]), (64064, [(.int .u64 (.ofNat 1)), (.int .u64 (.ofNat 0))])]
def Q621 : KC := ⟨66, [(C 64000 0 1 1), (C 64064 0 1 1)], 1002, 64128, B619, (C 64128 0 1 1), 1003, B620, [], []⟩
def B622 : List (Nat × List Value) := [(64000, [(.int .u64 (.ofNat 1)), (.int .u64 (.ofNat 0))]), (64064, [(.int .u64 (.ofNat 4)), (.int .u64 (.ofNat 0))])]
def B623 : List (Nat × List Value) := [(64128, [(.int .u64 (.ofNat 5)), (.int .u64 (.ofNat 0))]), (64000, [(.int .u64 (.ofNat 1)), (.int .u64 (.ofNat 0))]), (64064, [(.int .u64 (.ofNat 4)), (.int .u64 (.ofNat 0))])]
def Q624 : KC := ⟨96, [(C 64000 0 1 1), (C 64064 0 1 1)], 1002, 64128, B622, (C 64128 0 1 1), 1003, B623, [], []⟩
def B625 : List (Nat × List Value) := [(64000, [(.int .u64 (.ofNat 1)), (.int .u64 (.ofNat 0))]), (64064, [(.int .u64 (.ofNat 1)), (.int .u64 (.ofNat 0))]), (64128, [(.int .u64 (.ofNat 4)), (.int .u64 (.ofNat 0))]), (64192, [(.int .u64 (.ofNat 1)), (.int .u64 (.ofNat 0))])]
def B626 : List (Nat × List Value) := [(65728, [(.int .u64 (.ofNat 1)), (.int .u64 (.ofNat 0))]), (64064, [(.int .u64 (.ofNat 1)), (.int .u64 (.ofNat 0))]), (64192, [(.int .u64 (.ofNat 1)), (.int .u64 (.ofNat 0))]), (65536, [(.int .u64 (.ofNat 5)), (.int .u64 (.ofNat 0))]), (64128, [(.int .u64 (.ofNat 4)), (.int .u64 (.ofNat 0))]), (64000, [(.int .u64 (.ofNat 1)), (.int .u64 (.ofNat 0))])]
def Q627 : KC := ⟨38, [(A [(C 64000 0 1 1), (.bool false), (C 64064 0 1 1)]), (A [(C 64128 0 1 1), (.bool false), (C 64192 0 1 1)])], 1004, 64256, B625, (A [(C 65536 0 1 1), (.bool false), (C 65728 0 1 1)]), 1028, B626, [], []⟩
def B628 : List (Nat × List Value) := [(64000, [(.int .u64 (.ofNat 0))]), (64064, [(.int .u64 (.ofNat 1))]), (64128, [(.int .u64 (.ofNat 1))]), (64192, [(.int .u64 (.ofNat 1))]), (64256, [(.int .u64 (.ofNat 1))]), (64320, [(.int .u64 (.ofNat 1))]), (64384, [(C 64000 0 0 0), (.bool false), (C 64064 0 1 1), (C 64128 0 1 1), (.bool false), (C 64192 0 1 1), (C 64256 0 1 1), (.bool false), (C 64320 0 1 1)]), (64448, [(C 64384 0 3 3)]), (64512, [(.int .u64 (.ofNat 1)), (.int .u64 (.ofNat 0))]), (64576, [(.int .u64 (.ofNat 1)), (.int .u64 (.ofNat 0))]), (64640, [(.int .u64 (.ofNat 1)), (.int .u64 (.ofNat 0))]), (64704, [(.int .u64 (.ofNat 1)), (.int .u64 (.ofNat 0))]), (64768, [(C 64512 0 1 1), (.bool false), (C 64576 0 1 1), (.slice none 0 0), (.bool false), (C 64640 0 1 1), (.slice none 0 0), (.bool false), (C 64704 0 1 1)]), (64832, [(.int .u64 (.ofNat 1)), (.int .u64 (.ofNat 0))]), (64896, [(.int .u64 (.ofNat 1)), (.int .u64 (.ofNat 0))]), (64960, [(.int .u64 (.ofNat 1)), (.int .u64 (.ofNat 0))]), (65024, [(.int .u64 (.ofNat 1)), (.int .u64 (.ofNat 0))]), (65088, [(.int .u64 (.ofNat 60)), (.int .u64 (.ofNat 0))]), (65152, [(.int .u64 (.ofNat 1)), (.int .u64 (.ofNat 0))]), (65216, [(C 64832 0 1 1), (.bool false), (C 64896 0 1 1), (C 64960 0 1 1), (.bool false), (C 65024 0 1 1), (C 65088 0 1 1), (.bool false), (C 65152 0 1 1)]), (65280, [(.int .u64 (.ofNat 1)), (.int .u64 (.ofNat 0))]), (65344, [(.int .u64 (.ofNat 1)), (.int .u64 (.ofNat 0))]), (65408, [(.int .u64 (.ofNat 2)), (.int .u64 (.ofNat 0))]), (65472, [(.int .u64 (.ofNat 1)), (.int .u64 (.ofNat 0))]), (65536, [(.int .u64 (.ofNat 100)), (.int .u64 (.ofNat 0))]), (65600, [(.int .u64 (.ofNat 1)), (.int .u64 (.ofNat 0))]), (65664, [(C 65280 0 1 1), (.bool false), (C 65344 0 1 1), (C 65408 0 1 1), (.bool false), (C 65472 0 1 1), (C 65536 0 1 1), (.bool false), (C 65600 0 1 1)]), (65729, [(C 64768 0 3 3), (C 65216 0 3 3), (C 65664 0 3 3)]), (65792, [(C 65729 0 3 3)]), (65856, [(I 1)]), (65920, [(I 1)])]
def B629 : List (Nat × List Value) := [(72064, [(.int .u64 (.ofNat 1)), (.int .u64 (.ofNat 0))]), (71872, [(.int .u64 (.ofNat 5)), (.int .u64 (.ofNat 0))]), (64320, [(.int .u64 (.ofNat 1))]), (64256, [(.int .u64 (.ofNat 1))]), (65472, [(.int .u64 (.ofNat 1)), (.int .u64 (.ofNat 0))]), (65408, [(.int .u64 (.ofNat 2)), (.int .u64 (.ofNat 0))]), (64000, [(.int .u64 (.ofNat 0))]), (64064, [(.int .u64 (.ofNat 1))]), (64128, [(.int .u64 (.ofNat 1))]), (64192, [(.int .u64 (.ofNat 1))]), (64384, [(C 64000 0 0 0), (.bool false), (C 64064 0 1 1), (C 64128 0 1 1), (.bool false), (C 64192 0 1 1), (C 64256 0 1 1), (.bool false), (C 64320 0 1 1)]), (64448, [(C 64384 0 3 3)]), (64512, [(.int .u64 (.ofNat 1)), (.int .u64 (.ofNat 0))]), (64576, [(.int .u64 (.ofNat 1)), (.int .u64 (.ofNat 0))]), (64640, [(.int .u64 (.ofNat 1)), (.int .u64 (.ofNat 0))]), (64704, [(.int .u64 (.ofNat 1)), (.int .u64 (.ofNat 0))]), (64768, [(C 64512 0 1 1), (.bool false), (C 64576 0 1 1), (.slice none 0 0), (.bool false), (C 64640 0 1 1), (.slice none 0 0), (.bool false), (C 64704 0 1 1)]), (64832, [(.int .u64 (.ofNat 1)), (.int .u64 (.ofNat 0))]), (64896, [(.int .u64 (.ofNat 1)), (.int .u64 (.ofNat 0))]), (64960, [(.int .u64 (.ofNat 1)), (.int .u64 (.ofNat 0))]), (65024, [(.int .u64 (.ofNat 1)), (.int .u64 (.ofNat 0))]), (65088, [(.int .u64 (.ofNat 60)), (.int .u64 (.ofNat 0))]), (65152, [(.int .u64 (.ofNat 1)), (.int .u64 (.ofNat 0))]), (65216, [(C 64832 0 1 1), (.bool false), (C 64896 0 1 1), (C 64960 0 1 1), (.bool false), (C 65024 0 1 1), (C 65088 0 1 1), (.bool false), (C 65152 0 1 1)]), (65280, [(.int .u64 (.ofNat 1)), (.int .u64 (.ofNat 0))]), (65344, [(.int .u64 (.ofNat 1)), (.int .u64 (.ofNat 0))]), (65536, [(.int .u64 (.ofNat 100)), (.int .u64 (.ofNat 0))]), (65600, [(.int .u64 (.ofNat 1)), (.int .u64 (.ofNat 0))]), (65664, [(C 65280 0 1 1), (.bool false), (C 65344 0 1 1), (C 65408 0 1 1), (.bool false), (C 65472 0 1 1), (C 65536 0 1 1), (.bool false), (C 65600 0 1 1)]), (65729, [(C 64768 0 3 3), (C 65216 0 3 3), (C 65664 0 3 3)]), (65792, [(C 65729 0 3 3)]), (65856, [(I 1)]), (65920, [(I 1)])]
def Q630 : KC := ⟨190, [(I 3), (.func (.func 191) ⟨[]⟩ ⟨[(Z 64448 0), (Z 65792 0), (Z 65856 0), (Z 65920 0)]⟩), (.func (.func 38) ⟨[]⟩ ⟨[]⟩)], 1031, 65984, B628, (A [(C 71872 0 1 1), (.bool false), (C 72064 0 1 1)]), 1127, B629, [], []⟩
def B631 : List (Nat × List Value) := [(64000, [(.int .u64 (.ofNat 1)), (.int .u64 (.ofNat 0))]), (64064, [(.int .u64 (.ofNat 1)), (.int .u64 (.ofNat 0))])]
def B632 : List (Nat × List Value) := [(64320, [(.int .u64 (.ofNat 1)), (.int .u64 (.ofNat 0))]), (64000, [(.int .u64 (.ofNat 1)), (.int .u64 (.ofNat 0))]), (64064, [(.int .u64 (.ofNat 1)), (.int .u64 (.ofNat 0))]), (64256, [(.slice none 0 0), (.bool false), (C 64320 0 1 1)]), (64192, [(.slice none 0 0), (.bool false), (C 64064 0 1 1)]), (64128, [(.slice none 0 0), (.bool false), (C 64000 0 1 1)])]
def Q633 : KC := ⟨67, [(A [(.slice none 0 0), (.bool false), (C 64000 0 1 1)]), (A [(.slice none 0 0), (.bool false), (C 64064 0 1 1)])], 1002, 64128, B631, (A [(.slice none 0 0), (.bool false), (C 64320 0 1 1)]), 1006, B632, [], []⟩
def L20 : List (Sum (FuncId × List Value × Value) KC) := [.inr Q603,
  .inr Q606,
  .inr Q609,
  .inr Q612,
  .inl (98, [(.int .u64 (.ofNat 1)), (.int .u64 (.ofNat 4))], (.tuple ⟨[(.int .u64 (.ofNat 0)), (.int .u64 (.ofNat 4))]⟩)),
  .inr Q615,
  .inr Q618,
  .inl (98, [(.int .u64 (.ofNat 4)), (.int .u64 (.ofNat 1))], (.tuple ⟨[(.int .u64 (.ofNat 0)), (.int .u64 (.ofNat 4))]⟩)),
  .inr Q621,
  .inr Q624,
  .inr Q627,
  .inr Q630,
  .inr Q633,
  .inl (98, [(.int .u64 (.ofNat 2)), (.int .u64 (.ofNat 100))], (.tuple ⟨[(.int .u64 (.ofNat 0)), (.int .u64 (.ofNat 200))]⟩))]
def T20 : Tab := pushT T19 L20
def B634 : List (Nat × List Value) := [(64000, [(.int .u64 (.ofNat 2)), (.int .u64 (.ofNat 0))]), (64064, [(.int .u64 (.ofNat 100)), (.int .u64 (.ofNat 0))])]
def B635 : List (Nat × List Value) := [(64128, [(.int .u64 (.ofNat 200)), (.int .u64 (.ofNat 0))]), (64000, [(.int .u64 (.ofNat 2)), (.int .u64 (.ofNat 0))]), (64064, [(.int .u64 (.ofNat 100)), (.int .u64 (.ofNat 0))])]
def Q636 : KC := ⟨66, [(C 64000 0 1 1), (C 64064 0 1 1)], 1002, 64128, B634, (C 64128 0 1 1), 1003, B635, [], []⟩
def B637 : List (Nat × List Value) := [(64000, [(.int .u64 (.ofNat 2)), (.int .u64 (.ofNat 0))]), (64064, [(.int .u64 (.ofNat 1)), (.int .u64 (.ofNat 0))]), (64128, [(.int .u64 (.ofNat 100)), (.int .u64 (.ofNat 0))]), (64192, [(.int .u64 (.ofNat 1)), (.int .u64 (.ofNat 0))])]
def B638 : List (Nat × List Value) := [(64768, [(.int .u64 (.ofNat 1)), (.int .u64 (.ofNat 0))]), (64064, [(.int .u64 (.ofNat 1)), (.int .u64 (.ofNat 0))]), (64192, [(.int .u64 (.ofNat 1)), (.int .u64 (.ofNat 0))]), (64704, [(.int .u64 (.ofNat 200)), (.int .u64 (.ofNat 0))]), (64000, [(.int .u64 (.ofNat 2)), (.int .u64 (.ofNat 0))]), (64128, [(.int .u64 (.ofNat 100)), (.int .u64 (.ofNat 0))])]
def Q639 : KC := ⟨67, [(A [(C 64000 0 1 1), (.bool false), (C 64064 0 1 1)]), (A [(C 64128 0 1 1), (.bool false), (C 64192 0 1 1)])], 1004, 64256, B637, (A [(C 64704 0 1 1), (.bool false), (C 64768 0 1 1)]), 1013, B638, [], []⟩
def B640 : List (Nat × List Value) := [(64000, [(.int .u64 (.ofNat 200)), (.int .u64 (.ofNat 0))])]
def B641 : List (Nat × List Value) := [(64064, [(.int .u64 (.ofNat 200))]), (64000, [(.int .u64 (.ofNat 200)), (.int .u64 (.ofNat 0))])]
def Q642 : KC := ⟨92, [(C 64000 0 1 1), (.int .u64 (.ofNat 1))], 1001, 64064, B640, (.tuple ⟨[(C 64064 0 1 1), (.int .u64 (.ofNat 0))]⟩), 1002, B641, [], []⟩
def B643 : List (Nat × List Value) := [(64000, [(.int .u64 (.ofNat 200)), (.int .u64 (.ofNat 0))]), (64064, [(.int .u64 (.ofNat 1))])]
def B644 : List (Nat × List Value) := [(64192, [(.int .u64 (.ofNat 1)), (.int .u64 (.ofNat 0))]), (64128, [(.int .u64 (.ofNat 200))]), (64000, [(.int .u64 (.ofNat 200)), (.int .u64 (.ofNat 0))]), (64064, [(.int .u64 (.ofNat 1))])]
def Q645 : KC := ⟨59, [(C 64000 0 1 1), (C 64064 0 1 1)], 1002, 64128, B643, (C 64192 0 1 1), 1004, B644, [], []⟩
def B646 : List (Nat × List Value) := [(64000, [(.int .u64 (.ofNat 1))]), (64064, [(.int .u64 (.ofNat 200)), (.int .u64 (.ofNat 0))])]
def B647 : List (Nat × List Value) := [(64128, [(.int .u64 (.ofNat 200)), (.int .u64 (.ofNat 0))]), (64000, [(.int .u64 (.ofNat 1))]), (64064, [(.int .u64 (.ofNat 200)), (.int .u64 (.ofNat 0))])]
def Q648 : KC := ⟨66, [(C 64000 0 1 1), (C 64064 0 1 1)], 1002, 64128, B646, (C 64128 0 1 1), 1003, B647, [], []⟩
def B649 : List (Nat × List Value) := [(64000, [(.int .u64 (.ofNat 1))]), (64064, [(.int .u64 (.ofNat 1))]), (64128, [(.int .u64 (.ofNat 200)), (.int .u64 (.ofNat 0))]), (64192, [(.int .u64 (.ofNat 1)), (.int .u64 (.ofNat 0))])]
def B650 : List (Nat × List Value) := [(64768, [(.int .u64 (.ofNat 1)), (.int .u64 (.ofNat 0))]), (64064, [(.int .u64 (.ofNat 1))]), (64192, [(.int .u64 (.ofNat 1)), (.int .u64 (.ofNat 0))]), (64704, [(.int .u64 (.ofNat 200)), (.int .u64 (.ofNat 0))]), (64000, [(.int .u64 (.ofNat 1))]), (64128, [(.int .u64 (.ofNat 200)), (.int .u64 (.ofNat 0))])]
def Q651 : KC := ⟨67, [(A [(C 64000 0 1 1), (.bool false), (C 64064 0 1 1)]), (A [(C 64128 0 1 1), (.bool false), (C 64192 0 1 1)])], 1004, 64256, B649, (A [(C 64704 0 1 1), (.bool false), (C 64768 0 1 1)]), 1013, B650, [], []⟩
def B652 : List (Nat × List Value) := [(64000, [(.int .u64 (.ofNat 200)), (.int .u64 (.ofNat 0))]), (64064, [(.int .u64 (.ofNat 1)), (.int .u64 (.ofNat 0))])]
def B653 : List (Nat × List Value) := [(64128, [(.int .u64 (.ofNat 200)), (.int .u64 (.ofNat 0))]), (64000, [(.int .u64 (.ofNat 200)), (.int .u64 (.ofNat 0))]), (64064, [(.int .u64 (.ofNat 1)), (.int .u64 (.ofNat 0))])]
def Q654 : KC := ⟨66, [(C 64000 0 1 1), (C 64064 0 1 1)], 1002, 64128, B652, (C 64128 0 1 1), 1003, B653, [], []⟩
def B655 : List (Nat × List Value) := [(64000, [(.int .u64 (.ofNat 60)), (.int .u64 (.ofNat 0))]), (64064, [(.int .u64 (.ofNat 200)), (.int .u64 (.ofNat 0))])]
def B656 : List (Nat × List Value) := [(64128, [(.int .u64 (.ofNat 260)), (.int .u64 (.ofNat 0))]), (64000, [(.int .u64 (.ofNat 60)), (.int .u64 (.ofNat 0))]), (64064, [(.int .u64 (.ofNat 200)), (.int .u64 (.ofNat 0))])]
def Q657 : KC := ⟨96, [(C 64000 0 1 1), (C 64064 0 1 1)], 1002, 64128, B655, (C 64128 0 1 1), 1003, B656, [], []⟩
def B658 : List (Nat × List Value) := [(64000, [(.int .u64 (.ofNat 60)), (.int .u64 (.ofNat 0))]), (64064, [(.int .u64 (.ofNat 1)), (.int .u64 (.ofNat 0))]), (64128, [(.int .u64 (.ofNat 200)), (.int .u64 (.ofNat 0))]), (64192, [(.int .u64 (.ofNat 1)), (.int .u64 (.ofNat 0))])]
def B659 : List (Nat × List Value) := [(65728, [(.int .u64 (.ofNat 1)), (.int .u64 (.ofNat 0))]), (64064, [(.int .u64 (.ofNat 1)), (.int .u64 (.ofNat 0))]), (64192, [(.int .u64 (.ofNat 1)), (.int .u64 (.ofNat 0))]), (65536, [(.int .u64 (.ofNat 260)), (.int .u64 (.ofNat 0))]), (64128, [(.int .u64 (.ofNat 200)), (.int .u64 (.ofNat 0))]), (64000, [(.int .u64 (.ofNat 60)), (.int .u64 (.ofNat 0))])]
def Q660 : KC := ⟨38, [(A [(C 64000 0 1 1), (.bool false), (C 64064 0 1 1)]), (A [(C 64128 0 1 1), (.bool false), (C 64192 0 1 1)])], 1004, 64256, B658, (A [(C 65536 0 1 1), (.bool false), (C 65728 0 1 1)]), 1028, B659, [], []⟩
def B661 : List (Nat × List Value) := [(64000, [(.int .u64 (.ofNat 0))]), (64064, [(.int .u64 (.ofNat 1))]), (64128, [(.int .u64 (.ofNat 1))]), (64192, [(.int .u64 (.ofNat 1))]), (64256, [(.int .u64 (.ofNat 1))]), (64320, [(.int .u64 (.ofNat 1))]), (64384, [(C 64000 0 0 0), (.bool false), (C 64064 0 1 1), (C 64128 0 1 1), (.bool false), (C 64192 0 1 1), (C 64256 0 1 1), (.bool false), (C 64320 0 1 1)]), (64448, [(C 64384 0 3 3)]), (64512, [(.int .u64 (.ofNat 1)), (.int .u64 (.ofNat 0))]), (64576, [(.int .u64 (.ofNat 1)), (.int .u64 (.ofNat 0))]), (64640, [(.int .u64 (.ofNat 1)), (.int .u64 (.ofNat 0))]), (64704, [(.int .u64 (.ofNat 1)), (.int .u64 (.ofNat 0))]), (64768, [(C 64512 0 1 1), (.bool false), (C 64576 0 1 1), (.slice none 0 0), (.bool false), (C 64640 0 1 1), (.slice none 0 0), (.bool false), (C 64704 0 1 1)]), (64832, [(.int .u64 (.ofNat 1)), (.int .u64 (.ofNat 0))]), (64896, [(.int .u64 (.ofNat 1)), (.int .u64 (.ofNat 0))]), (64960, [(.int .u64 (.ofNat 1)), (.int .u64 (.ofNat 0))]), (65024, [(.int .u64 (.ofNat 1)), (.int .u64 (.ofNat 0))]), (65088, [(.int .u64 (.ofNat 60)), (.int .u64 (.ofNat 0))]), (65152, [(.int .u64 (.ofNat 1)), (.int .u64 (.ofNat 0))]), (65216, [(C 64832 0 1 1), (.bool false), (C 64896 0 1 1), (C 64960 0 1 1), (.bool false), (C 65024 0 1 1), (C 65088 0 1 1), (.bool false), (C 65152 0 1 1)]), (65280, [(.int .u64 (.ofNat 1)), (.int .u64 (.ofNat 0))]), (65344, [(.int .u64 (.ofNat 1)), (.int .u64 (.ofNat 0))]), (65408, [(.int .u64 (.ofNat 2)), (.int .u64 (.ofNat 0))]), (65472, [(.int .u64 (.ofNat 1)), (.int .u64 (.ofNat 0))]), (65536, [(.int .u64 (.ofNat 100)), (.int .u64 (.ofNat 0))]), (65600, [(.int .u64 (.ofNat 1)), (.int .u64 (.ofNat 0))]), (65664, [(C 65280 0 1 1), (.bool false), (C 65344 0 1 1), (C 65408 0 1 1), (.bool false), (C 65472 0 1 1), (C 65536 0 1 1), (.bool false), (C 65600 0 1 1)]), (65729, [(C 64768 0 3 3), (C 65216 0 3 3), (C 65664 0 3 3)]), (65792, [(C 65729 0 3 3)]), (65856, [(I 1)]), (65920, [(I 2)])]
def B662 : List (Nat × List Value) := [(72064, [(.int .u64 (.ofNat 1)), (.int .u64 (.ofNat 0))]), (71872, [(.int .u64 (.ofNat 260)), (.int .u64 (.ofNat 0))]), (64320, [(.int .u64 (.ofNat 1))]), (64256, [(.int .u64 (.ofNat 1))]), (65472, [(.int .u64 (.ofNat 1)), (.int .u64 (.ofNat 0))]), (65600, [(.int .u64 (.ofNat 1)), (.int .u64 (.ofNat 0))]), (65408, [(.int .u64 (.ofNat 2)), (.int .u64 (.ofNat 0))]), (65536, [(.int .u64 (.ofNat 100)), (.int .u64 (.ofNat 0))]), (64000, [(.int .u64 (.ofNat 0))]), (64064, [(.int .u64 (.ofNat 1))]), (64128, [(.int .u64 (.ofNat 1))]), (64192, [(.int .u64 (.ofNat 1))]), (64384, [(C 64000 0 0 0), (.bool false), (C 64064 0 1 1), (C 64128 0 1 1), (.bool false), (C 64192 0 1 1), (C 64256 0 1 1), (.bool false), (C 64320 0 1 1)]), (64448, [(C 64384 0 3 3)]), (64512, [(.int .u64 (.ofNat 1)), (.int .u64 (.ofNat 0))]), (64576, [(.int .u64 (.ofNat 1)), (.int .u64 (.ofNat 0))]), (64640, [(.int .u64 (.ofNat 1)), (.int .u64 (.ofNat 0))]), (64704, [(.int .u64 (.ofNat 1)), (.int .u64 (.ofNat 0))]), (64768, [(C 64512 0 1 1), (.bool false), (C 64576 0 1 1), (.slice none 0 0), (.bool false), (C 64640 0 1 1), (.slice none 0 0), (.bool false), (C 64704 0 1 1)]), (64832, [(.int .u64 (.ofNat 1)), (.int .u64 (.ofNat 0))]), (64896, [(.int .u64 (.ofNat 1)), (.int .u64 (.ofNat 0))]), (64960, [(.int .u64 (.ofNat 1)), (.int .u64 (.ofNat 0))]), (65024, [(.int .u64 (.ofNat 1)), (.int .u64 (.ofNat 0))]), (65088, [(.int .u64 (.ofNat 60)), (.int .u64 (.ofNat 0))]), (65152, [(.int .u64 (.ofNat 1)), (.int .u64 (.ofNat 0))]), (65216, [(C 64832 0 1 1), (.bool false), (C 64896 0 1 1), (C 64960 0 1 1), (.bool false), (C 65024 0 1 1), (C 65088 0 1 1), (.bool false), (C 65152 0 1 1)]), (65280, [(.int .u64 (.ofNat 1)), (.int .u64 (.ofNat 0))]), (65344, [(.int .u64 (.ofNat 1)), (.int .u64 (.ofNat 0))]), (65664, [(C 65280 0 1 1), (.bool false), (C 65344 0 1 1), (C 65408 0 1 1), (.bool false), (C 65472 0 1 1), (C 65536 0 1 1), (.bool false), (C 65600 0 1 1)]), (65729, [(C 64768 0 3 3), (C 65216 0 3 3), (C 65664 0 3 3)]), (65792, [(C 65729 0 3 3)]), (65856, [(I 1)]), (65920, [(I 2)])]
def Q663 : KC := ⟨190, [(I 3), (.func (.func 191) ⟨[]⟩ ⟨[(Z 64448 0), (Z 65792 0), (Z 65856 0), (Z 65920 0)]⟩), (.func (.func 38) ⟨[]⟩ ⟨[]⟩)], 1031, 65984, B661, (A [(C 71872 0 1 1), (.bool false), (C 72064 0 1 1)]), 1127, B662, [], []⟩
def L21 : List (Sum (FuncId × List Value × Value) KC) := [.inr Q636,
  .inr Q639,
  .inr Q642,
  .inr Q645,
  .inl (98, [(.int .u64 (.ofNat 1)), (.int .u64 (.ofNat 200))], (.tuple ⟨[(.int .u64 (.ofNat 0)), (.int .u64 (.ofNat 200))]⟩)),
  .inr Q648,
  .inr Q651,
  .inl (98, [(.int .u64 (.ofNat 200)), (.int .u64 (.ofNat 1))], (.tuple ⟨[(.int .u64 (.ofNat 0)), (.int .u64 (.ofNat 200))]⟩)),
  .inr Q654,
  .inr Q657,
  .inr Q660,
  .inr Q663]
def T21 : Tab := pushT T20 L21
def B664 : List (Nat × List Value) := [(64000, [(.int .u64 (.ofNat 1)), (.int .u64 (.ofNat 0))]), (64064, [(.int .u64 (.ofNat 1)), (.int .u64 (.ofNat 0))]), (64128, [(.int .u64 (.ofNat 1)), (.int .u64 (.ofNat 0))]), (64192, [(.int .u64 (.ofNat 1)), (.int .u64 (.ofNat 0))]), (64256, [(C 64000 0 1 1), (.bool false), (C 64064 0 1 1), (.slice none 0 0), (.bool false), (C 64128 0 1 1), (.slice none 0 0), (.bool false), (C 64192 0 1 1)]), (64320, [(.int .u64 (.ofNat 1)), (.int .u64 (.ofNat 0))]), (64384, [(.int .u64 (.ofNat 1)), (.int .u64 (.ofNat 0))]), (64448, [(.int .u64 (.ofNat 1)), (.int .u64 (.ofNat 0))]), (64512, [(.int .u64 (.ofNat 1)), (.int .u64 (.ofNat 0))]), (64576, [(.int .u64 (.ofNat 60)), (.int .u64 (.ofNat 0))]), (64640, [(.int .u64 (.ofNat 1)), (.int .u64 (.ofNat 0))]), (64704, [(C 64320 0 1 1), (.bool false), (C 64384 0 1 1), (C 64448 0 1 1), (.bool false), (C 64512 0 1 1), (C 64576 0 1 1), (.bool false), (C 64640 0 1 1)]), (64768, [(.int .u64 (.ofNat 1)), (.int .u64 (.ofNat 0))]), (64832, [(.int .u64 (.ofNat 1)), (.int .u64 (.ofNat 0))]), (64896, [(.int .u64 (.ofNat 2)), (.int .u64 (.ofNat 0))]), (64960, [(.int .u64 (.ofNat 1)), (.int .u64 (.ofNat 0))]), (65024, [(.int .u64 (.ofNat 100)), (.int .u64 (.ofNat 0))]), (65088, [(.int .u64 (.ofNat 1)), (.int .u64 (.ofNat 0))]), (65152, [(C 64768 0 1 1), (.bool false), (C 64832 0 1 1), (C 64896 0 1 1), (.bool false), (C 64960 0 1 1), (C 65024 0 1 1), (.bool false), (C 65088 0 1 1)]), (65217, [(C 64256 0 3 3), (C 64704 0 3 3), (C 65152 0 3 3)]), (65280, [(.int .u64 (.ofNat 0))]), (65344, [(.int .u64 (.ofNat 1))]), (65408, [(.int .u64 (.ofNat 1))]), (65472, [(.int .u64 (.ofNat 1))]), (65536, [(.int .u64 (.ofNat 1))]), (65600, [(.int .u64 (.ofNat 1))]), (65664, [(C 65280 0 0 0), (.bool false), (C 65344 0 1 1), (C 65408 0 1 1), (.bool false), (C 65472 0 1 1), (C 65536 0 1 1), (.bool false), (C 65600 0 1 1)])]
def B665 : List (Nat × List Value) := [(97920, [(.int .u64 (.ofNat 1)), (.int .u64 (.ofNat 0))]), (97728, [(.int .u64 (.ofNat 260)), (.int .u64 (.ofNat 0))]), (65600, [(.int .u64 (.ofNat 1))]), (65536, [(.int .u64 (.ofNat 1))]), (64960, [(.int .u64 (.ofNat 1)), (.int .u64 (.ofNat 0))]), (65088, [(.int .u64 (.ofNat 1)), (.int .u64 (.ofNat 0))]), (64896, [(.int .u64 (.ofNat 2)), (.int .u64 (.ofNat 0))]), (65024, [(.int .u64 (.ofNat 100)), (.int .u64 (.ofNat 0))]), (65280, [(.int .u64 (.ofNat 0))]), (65344, [(.int .u64 (.ofNat 1))]), (65408, [(.int .u64 (.ofNat 1))]), (65472, [(.int .u64 (.ofNat 1))]), (65664, [(C 65280 0 0 0), (.bool false), (C 65344 0 1 1), (C 65408 0 1 1), (.bool false), (C 65472 0 1 1), (C 65536 0 1 1), (.bool false), (C 65600 0 1 1)]), (64000, [(.int .u64 (.ofNat 1)), (.int .u64 (.ofNat 0))]), (64064, [(.int .u64 (.ofNat 1)), (.int .u64 (.ofNat 0))]), (64128, [(.int .u64 (.ofNat 1)), (.int .u64 (.ofNat 0))]), (64192, [(.int .u64 (.ofNat 1)), (.int .u64 (.ofNat 0))]), (64256, [(C 64000 0 1 1), (.bool false), (C 64064 0 1 1), (.slice none 0 0), (.bool false), (C 64128 0 1 1), (.slice none 0 0), (.bool false), (C 64192 0 1 1)]), (64320, [(.int .u64 (.ofNat 1)), (.int .u64 (.ofNat 0))]), (64384, [(.int .u64 (.ofNat 1)), (.int .u64 (.ofNat 0))]), (64448, [(.int .u64 (.ofNat 1)), (.int .u64 (.ofNat 0))]), (64512, [(.int .u64 (.ofNat 1)), (.int .u64 (.ofNat 0))]), (64576, [(.int .u64 (.ofNat 60)), (.int .u64 (.ofNat 0))]), (64640, [(.int .u64 (.ofNat 1)), (.int .u64 (.ofNat 0))]), (64704, [(C 64320 0 1 1), (.bool false), (C 64384 0 1 1), (C 64448 0 1 1), (.bool false), (C 64512 0 1 1), (C 64576 0 1 1), (.bool false), (C 64640 0 1 1)]), (64768, [(.int .u64 (.ofNat 1)), (.int .u64 (.ofNat 0))]), (64832, [(.int .u64 (.ofNat 1)), (.int .u64 (.ofNat 0))]), (65152, [(C 64768 0 1 1), (.bool false), (C 64832 0 1 1), (C 64896 0 1 1), (.bool false), (C 64960 0 1 1), (C 65024 0 1 1), (.bool false), (C 65088 0 1 1)]), (65217, [(C 64256 0 3 3), (C 64704 0 3 3), (C 65152 0 3 3)]), (91712, [(.int .u64 (.ofNat 1)), (.int .u64 (.ofNat 0))]), (91520, [(.int .u64 (.ofNat 5)), (.int .u64 (.ofNat 0))]), (85440, [(C 78784 0 1 1), (.bool false), (C 78976 0 1 1), (C 91520 0 1 1), (.bool false), (C 91712 0 1 1), (C 97728 0 1 1), (.bool false), (C 97920 0 1 1)]), (85312, [(.int .u64 (.ofNat 1)), (.int .u64 (.ofNat 0))]), (85120, [(.int .u64 (.ofNat 160)), (.int .u64 (.ofNat 0))]), (78976, [(.int .u64 (.ofNat 1)), (.int .u64 (.ofNat 0))]), (78784, [(.int .u64 (.ofNat 3)), (.int .u64 (.ofNat 0))]), (72640, [(.int .u64 (.ofNat 1)), (.int .u64 (.ofNat 0))]), (72448, [(.int .u64 (.ofNat 2)), (.int .u64 (.ofNat 0))]), (65984, [(C 72448 0 1 1), (.bool false), (C 72640 0 1 1), (C 78784 0 1 1), (.bool false), (C 78976 0 1 1), (C 85120 0 1 1), (.bool false), (C 85312 0 1 1)]), (65856, [(C 65984 0 3 3), (C 85440 0 3 3)])]
def Q666 : KC := ⟨173, [(C 65217 0 3 3), (C 65664 0 3 3)], 1027, 65728, B664, (C 65856 0 2 2), 1531, B665, [], []⟩
def B667 : List (Nat × List Value) := [(64000, [(.int .u64 (.ofNat 1)), (.int .u64 (.ofNat 0))]), (64064, [(.int .u64 (.ofNat 1)), (.int .u64 (.ofNat 0))])]
def B668 : List (Nat × List Value) := [(64192, [(.int .u64 (.ofNat 0)), (.int .u64 (.ofNat 0))]), (64128, [(.int .u64 (.ofNat 1))]), (64000, [(.int .u64 (.ofNat 1)), (.int .u64 (.ofNat 0))]), (64064, [(.int .u64 (.ofNat 1)), (.int .u64 (.ofNat 0))])]
def Q669 : KC := ⟨61, [(C 64000 0 1 1), (C 64064 0 1 1)], 1002, 64128, B667, (.tuple ⟨[(C 64128 0 1 1), (C 64192 0 0 0)]⟩), 1004, B668, [], []⟩
def B670 : List (Nat × List Value) := [(64000, [(.int .u64 (.ofNat 1)), (.int .u64 (.ofNat 0))]), (64064, [(.int .u64 (.ofNat 1)), (.int .u64 (.ofNat 0))]), (64128, [(.int .u64 (.ofNat 1)), (.int .u64 (.ofNat 0))]), (64193, [(C 64000 0 1 1), (C 64064 0 1 1), (C 64128 0 1 1)])]
def B671 : List (Nat × List Value) := [(65216, [(.int .u64 (.ofNat 1)), (.int .u64 (.ofNat 0))]), (64128, [(.int .u64 (.ofNat 1)), (.int .u64 (.ofNat 0))]), (64064, [(.int .u64 (.ofNat 1)), (.int .u64 (.ofNat 0))]), (64000, [(.int .u64 (.ofNat 1)), (.int .u64 (.ofNat 0))]), (64193, [(C 64000 0 1 1), (C 64064 0 1 1), (C 64128 0 1 1)])]
def Q672 : KC := ⟨188, [(C 64193 0 3 3)], 1004, 64256, B670, (C 65216 0 1 1), 1020, B671, [], []⟩
def B673 : List (Nat × List Value) := [(64000, [(.int .u64 (.ofNat 2)), (.int .u64 (.ofNat 0))]), (64064, [(.int .u64 (.ofNat 1)), (.int .u64 (.ofNat 0))]), (64128, [(.int .u64 (.ofNat 1)), (.int .u64 (.ofNat 0))]), (64192, [(C 64128 0 1 1)])]
def Q674 : KC := ⟨189, [(A [(C 64000 0 1 1), (.bool false), (C 64064 0 1 1)]), (Z 64192 0)], 1004, 64256, B673, (A [(C 64768 0 1 1), (.bool false)]), 1014, ([(64768, [(.int .u64 (.ofNat 2)), (.int .u64 (.ofNat 0))])] ++ B673), [], []⟩
def B675 : List (Nat × List Value) := [(64000, [(.int .u64 (.ofNat 3)), (.int .u64 (.ofNat 0))]), (64064, [(.int .u64 (.ofNat 1)), (.int .u64 (.ofNat 0))]), (64128, [(.int .u64 (.ofNat 1)), (.int .u64 (.ofNat 0))]), (64192, [(C 64128 0 1 1)])]
def Q676 : KC := ⟨189, [(A [(C 64000 0 1 1), (.bool false), (C 64064 0 1 1)]), (Z 64192 0)], 1004, 64256, B675, (A [(C 64768 0 1 1), (.bool false)]), 1014, ([(64768, [(.int .u64 (.ofNat 3)), (.int .u64 (.ofNat 0))])] ++ B675), [], []⟩
def B677 : List (Nat × List Value) := [(64000, [(.int .u64 (.ofNat 160)), (.int .u64 (.ofNat 0))]), (64064, [(.int .u64 (.ofNat 1))])]
def B678 : List (Nat × List Value) := [(64128, [(.int .u64 (.ofNat 160)), (.int .u64 (.ofNat 0))]), (64000, [(.int .u64 (.ofNat 160)), (.int .u64 (.ofNat 0))]), (64064, [(.int .u64 (.ofNat 1))])]
def Q679 : KC := ⟨66, [(C 64000 0 1 1), (C 64064 0 1 1)], 1002, 64128, B677, (C 64128 0 1 1), 1003, B678, [], []⟩
def B680 : List (Nat × List Value) := [(64000, [(.int .u64 (.ofNat 160)), (.int .u64 (.ofNat 0))]), (64064, [(.int .u64 (.ofNat 1)), (.int .u64 (.ofNat 0))]), (64128, [(.int .u64 (.ofNat 1)), (.int .u64 (.ofNat 0))]), (64192, [(C 64128 0 1 1)])]
def Q681 : KC := ⟨189, [(A [(C 64000 0 1 1), (.bool false), (C 64064 0 1 1)]), (Z 64192 0)], 1004, 64256, B680, (A [(C 64768 0 1 1), (.bool false)]), 1014, ([(64768, [(.int .u64 (.ofNat 160)), (.int .u64 (.ofNat 0))])] ++ B680), [], []⟩
def B682 : List (Nat × List Value) := [(64000, [(.int .u64 (.ofNat 5)), (.int .u64 (.ofNat 0))]), (64064, [(.int .u64 (.ofNat 1))])]
def B683 : List (Nat × List Value) := [(64128, [(.int .u64 (.ofNat 5)), (.int .u64 (.ofNat 0))]), (64000, [(.int .u64 (.ofNat 5)), (.int .u64 (.ofNat 0))]), (64064, [(.int .u64 (.ofNat 1))])]
def Q684 : KC := ⟨66, [(C 64000 0 1 1), (C 64064 0 1 1)], 1002, 64128, B682, (C 64128 0 1 1), 1003, B683, [], []⟩
def B685 : List (Nat × List Value) := [(64000, [(.int .u64 (.ofNat 5)), (.int .u64 (.ofNat 0))]), (64064, [(.int .u64 (.ofNat 1)), (.int .u64 (.ofNat 0))]), (64128, [(.int .u64 (.ofNat 1)), (.int .u64 (.ofNat 0))]), (64192, [(C 64128 0 1 1)])]
def Q686 : KC := ⟨189, [(A [(C 64000 0 1 1), (.bool false), (C 64064 0 1 1)]), (Z 64192 0)], 1004, 64256, B685, (A [(C 64768 0 1 1), (.bool false)]), 1014, ([(64768, [(.int .u64 (.ofNat 5)), (.int .u64 (.ofNat 0))])] ++ B685), [], []⟩
def B687 : List (Nat × List Value) := [(64000, [(.int .u64 (.ofNat 260)), (.int .u64 (.ofNat 0))]), (64064, [(.int .u64 (.ofNat 1))])]
def B688 : List (Nat × List Value) := [(64128, [(.int .u64 (.ofNat 260)), (.int .u64 (.ofNat 0))]), (64000, [(.int .u64 (.ofNat 260)), (.int .u64 (.ofNat 0))]), (64064, [(.int .u64 (.ofNat 1))])]
def Q689 : KC := ⟨66, [(C 64000 0 1 1), (C 64064 0 1 1)], 1002, 64128, B687, (C 64128 0 1 1), 1003, B688, [], []⟩
def B690 : List (Nat × List Value) := [(64000, [(.int .u64 (.ofNat 260)), (.int .u64 (.ofNat 0))]), (64064, [(.int .u64 (.ofNat 1)), (.int .u64 (.ofNat 0))]), (64128, [(.int .u64 (.ofNat 1)), (.int .u64 (.ofNat 0))]), (64192, [(C 64128 0 1 1)])]
def Q691 : KC := ⟨189, [(A [(C 64000 0 1 1), (.bool false), (C 64064 0 1 1)]), (Z 64192 0)], 1004, 64256, B690, (A [(C 64768 0 1 1), (.bool false)]), 1014, ([(64768, [(.int .u64 (.ofNat 260)), (.int .u64 (.ofNat 0))])] ++ B690), [], []⟩
def B692 : List (Nat × List Value) := [(64000, [(.int .u64 (.ofNat 2)), (.int .u64 (.ofNat 0))]), (64064, [(.int .u64 (.ofNat 1)), (.int .u64 (.ofNat 0))]), (64128, [(.int .u64 (.ofNat 160)), (.int .u64 (.ofNat 0))]), (64192, [(.int .u64 (.ofNat 1)), (.int .u64 (.ofNat 0))]), (64256, [(C 64000 0 1 1), (.bool false), (C 64064 0 1 1), (C 64320 0 1 1), (.bool false), (C 64384 0 1 1), (C 64128 0 1 1), (.bool false), (C 64192 0 1 1)]), (64320, [(.int .u64 (.ofNat 3)), (.int .u64 (.ofNat 0))]), (64384, [(.int .u64 (.ofNat 1)), (.int .u64 (.ofNat 0))]), (64448, [(.int .u64 (.ofNat 5)), (.int .u64 (.ofNat 0))]), (64512, [(.int .u64 (.ofNat 1)), (.int .u64 (.ofNat 0))]), (64576, [(.int .u64 (.ofNat 260)), (.int .u64 (.ofNat 0))]), (64640, [(.int .u64 (.ofNat 1)), (.int .u64 (.ofNat 0))]), (64704, [(C 64320 0 1 1), (.bool false), (C 64384 0 1 1), (C 64448 0 1 1), (.bool false), (C 64512 0 1 1), (C 64576 0 1 1), (.bool false), (C 64640 0 1 1)]), (64768, [(C 64256 0 3 3), (C 64704 0 3 3)])]
def B693 : List (Nat × List Value) := [(72833, [(C 66624 0 3 3), (C 70592 0 3 3)]), (72640, [(.int .u64 (.ofNat 260)), (.int .u64 (.ofNat 0))]), (64576, [(.int .u64 (.ofNat 260)), (.int .u64 (.ofNat 0))]), (64640, [(.int .u64 (.ofNat 1)), (.int .u64 (.ofNat 0))]), (71936, [(.int .u64 (.ofNat 5)), (.int .u64 (.ofNat 0))]), (64448, [(.int .u64 (.ofNat 5)), (.int .u64 (.ofNat 0))]), (64512, [(.int .u64 (.ofNat 1)), (.int .u64 (.ofNat 0))]), (71232, [(.int .u64 (.ofNat 3)), (.int .u64 (.ofNat 0))]), (64320, [(.int .u64 (.ofNat 3)), (.int .u64 (.ofNat 0))]), (64384, [(.int .u64 (.ofNat 1)), (.int .u64 (.ofNat 0))]), (70592, [(C 71232 0 1 1), (.bool false), (C 71936 0 1 1), (.bool false), (C 72640 0 1 1), (.bool false)]), (68672, [(.int .u64 (.ofNat 160)), (.int .u64 (.ofNat 0))]), (64128, [(.int .u64 (.ofNat 160)), (.int .u64 (.ofNat 0))]), (64192, [(.int .u64 (.ofNat 1)), (.int .u64 (.ofNat 0))]), (67968, [(.int .u64 (.ofNat 3)), (.int .u64 (.ofNat 0))]), (67264, [(.int .u64 (.ofNat 2)), (.int .u64 (.ofNat 0))]), (64000, [(.int .u64 (.ofNat 2)), (.int .u64 (.ofNat 0))]), (64064, [(.int .u64 (.ofNat 1)), (.int .u64 (.ofNat 0))]), (66624, [(C 67264 0 1 1), (.bool false), (C 67968 0 1 1), (.bool false), (C 68672 0 1 1), (.bool false)]), (64256, [(C 64000 0 1 1), (.bool false), (C 64064 0 1 1), (C 64320 0 1 1), (.bool false), (C 64384 0 1 1), (C 64128 0 1 1), (.bool false), (C 64192 0 1 1)]), (64704, [(C 64320 0 1 1), (.bool false), (C 64384 0 1 1), (C 64448 0 1 1), (.bool false), (C 64512 0 1 1), (C 64576 0 1 1), (.bool false), (C 64640 0 1 1)]), (64768, [(C 64256 0 3 3), (C 64704 0 3 3)])]
def Q694 : KC := ⟨172, [(C 64768 0 2 2)], 1013, 64832, B692, (A [(C 72833 0 2 2)]), 1139, B693, [], []⟩
def L22 : List (Sum (FuncId × List Value × Value) KC) := [.inr Q666,
  .inr Q669,
  .inr Q672,
  .inr Q674,
  .inr Q676,
  .inl (98, [(.int .u64 (.ofNat 160)), (.int .u64 (.ofNat 1))], (.tuple ⟨[(.int .u64 (.ofNat 0)), (.int .u64 (.ofNat 160))]⟩)),
  .inr Q679,
  .inr Q681,
  .inl (98, [(.int .u64 (.ofNat 5)), (.int .u64 (.ofNat 1))], (.tuple ⟨[(.int .u64 (.ofNat 0)), (.int .u64 (.ofNat 5))]⟩)),
  .inr Q684,
  .inr Q686,
  .inl (98, [(.int .u64 (.ofNat 260)), (.int .u64 (.ofNat 1))], (.tuple ⟨[(.int .u64 (.ofNat 0)), (.int .u64 (.ofNat 260))]⟩)),
  .inr Q689,
  .inr Q691,
  .inr Q694,
  .inl (98, [(.int .u64 (.ofNat 2)), (.int .u64 (.ofNat 3))], (.tuple ⟨[(.int .u64 (.ofNat 0)), (.int .u64 (.ofNat 6))]⟩))]
def T22 : Tab := pushT T21 L22
def B695 : List (Nat × List Value) := [(64000, [(.int .u64 (.ofNat 2)), (.int .u64 (.ofNat 0))]), (64064, [(.int .u64 (.ofNat 3)), (.int .u64 (.ofNat 0))])]
def B696 : List (Nat × List Value) := [(64128, [(.int .u64 (.ofNat 6)), (.int .u64 (.ofNat 0))]), (64000, [(.int .u64 (.ofNat 2)), (.int .u64 (.ofNat 0))]), (64064, [(.int .u64 (.ofNat 3)), (.int .u64 (.ofNat 0))])]
def Q697 : KC := ⟨66, [(C 64000 0 1 1), (C 64064 0 1 1)], 1002, 64128, B695, (C 64128 0 1 1), 1003, B696, [], []⟩
def B698 : List (Nat × List Value) := [(64000, [(.int .u64 (.ofNat 3)), (.int .u64 (.ofNat 0))]), (64064, [(.int .u64 (.ofNat 2)), (.int .u64 (.ofNat 0))])]
def B699 : List (Nat × List Value) := [(64128, [(.int .u64 (.ofNat 6)), (.int .u64 (.ofNat 0))]), (64000, [(.int .u64 (.ofNat 3)), (.int .u64 (.ofNat 0))]), (64064, [(.int .u64 (.ofNat 2)), (.int .u64 (.ofNat 0))])]
def Q700 : KC := ⟨66, [(C 64000 0 1 1), (C 64064 0 1 1)], 1002, 64128, B698, (C 64128 0 1 1), 1003, B699, [], []⟩
def B701 : List (Nat × List Value) := [(64000, [(.int .u64 (.ofNat 6)), (.int .u64 (.ofNat 0))]), (64064, [(.int .u64 (.ofNat 6)), (.int .u64 (.ofNat 0))])]
def B702 : List (Nat × List Value) := [(64128, [(.int .u64 (.ofNat 0))]), (64000, [(.int .u64 (.ofNat 6)), (.int .u64 (.ofNat 0))]), (64064, [(.int .u64 (.ofNat 6)), (.int .u64 (.ofNat 0))])]
def Q703 : KC := ⟨97, [(C 64000 0 1 1), (C 64064 0 1 1)], 1002, 64128, B701, (C 64128 0 0 0), 1003, B702, [], []⟩
def B704 : List (Nat × List Value) := [(64000, [(.int .u64 (.ofNat 6)), (.int .u64 (.ofNat 0))]), (64064, [(.int .u64 (.ofNat 6)), (.int .u64 (.ofNat 0))])]
def B705 : List (Nat × List Value) := [(64384, [(C 64320 0 0 0), (.bool false)]), (64320, [(.int .u64 (.ofNat 0))]), (64000, [(.int .u64 (.ofNat 6)), (.int .u64 (.ofNat 0))]), (64064, [(.int .u64 (.ofNat 6)), (.int .u64 (.ofNat 0))]), (64256, [(C 64320 0 0 0), (.bool false)]), (64192, [(C 64064 0 1 1), (.bool true)]), (64128, [(C 64000 0 1 1), (.bool false)])]
def Q706 : KC := ⟨64, [(A [(C 64000 0 1 1), (.bool false)]), (A [(C 64064 0 1 1), (.bool true)])], 1002, 64128, B704, (A [(C 64320 0 0 0), (.bool false)]), 1007, B705, [], []⟩
def B707 : List (Nat × List Value) := [(64000, [(.int .u64 (.ofNat 0))]), (64064, [(.int .u64 (.ofNat 1)), (.int .u64 (.ofNat 0))])]
def B708 : List (Nat × List Value) := [(64448, [(C 64000 0 0 0), (.bool false)]), (64000, [(.int .u64 (.ofNat 0))]), (64064, [(.int .u64 (.ofNat 1)), (.int .u64 (.ofNat 0))]), (64320, [(C 64000 0 0 0), (.bool false)]), (64256, [(.slice none 0 0), (.bool false)]), (64192, [(C 64064 0 1 1), (.bool false)]), (64128, [(C 64000 0 0 0), (.bool false)])]
def Q709 : KC := ⟨210, [(A [(C 64000 0 0 0), (.bool false)]), (A [(C 64064 0 1 1), (.bool false)])], 1002, 64128, B707, (.tuple ⟨[(A [(.slice none 0 0), (.bool false)]), (A [(C 64000 0 0 0), (.bool false)])]⟩), 1008, B708, [], []⟩
def B710 : List (Nat × List Value) := [(64000, [(.int .u64 (.ofNat 2)), (.int .u64 (.ofNat 0))]), (64064, [(.int .u64 (.ofNat 5)), (.int .u64 (.ofNat 0))])]
def B711 : List (Nat × List Value) := [(64128, [(.int .u64 (.ofNat 10)), (.int .u64 (.ofNat 0))]), (64000, [(.int .u64 (.ofNat 2)), (.int .u64 (.ofNat 0))]), (64064, [(.int .u64 (.ofNat 5)), (.int .u64 (.ofNat 0))])]
def Q712 : KC := ⟨66, [(C 64000 0 1 1), (C 64064 0 1 1)], 1002, 64128, B710, (C 64128 0 1 1), 1003, B711, [], []⟩
def B713 : List (Nat × List Value) := [(64000, [(.int .u64 (.ofNat 3)), (.int .u64 (.ofNat 0))]), (64064, [(.int .u64 (.ofNat 3)), (.int .u64 (.ofNat 0))])]
def B714 : List (Nat × List Value) := [(64128, [(.int .u64 (.ofNat 9)), (.int .u64 (.ofNat 0))]), (64000, [(.int .u64 (.ofNat 3)), (.int .u64 (.ofNat 0))]), (64064, [(.int .u64 (.ofNat 3)), (.int .u64 (.ofNat 0))])]
def Q715 : KC := ⟨66, [(C 64000 0 1 1), (C 64064 0 1 1)], 1002, 64128, B713, (C 64128 0 1 1), 1003, B714, [], []⟩
def B716 : List (Nat × List Value) := [(64000, [(.int .u64 (.ofNat 10)), (.int .u64 (.ofNat 0))]), (64064, [(.int .u64 (.ofNat 9)), (.int .u64 (.ofNat 0))])]
def B717 : List (Nat × List Value) := [(64128, [(.int .u64 (.ofNat 1))]), (64000, [(.int .u64 (.ofNat 10)), (.int .u64 (.ofNat 0))]), (64064, [(.int .u64 (.ofNat 9)), (.int .u64 (.ofNat 0))])]
def Q718 : KC := ⟨97, [(C 64000 0 1 1), (C 64064 0 1 1)], 1002, 64128, B716, (C 64128 0 1 1), 1003, B717, [], []⟩
def B719 : List (Nat × List Value) := [(64000, [(.int .u64 (.ofNat 10)), (.int .u64 (.ofNat 0))]), (64064, [(.int .u64 (.ofNat 9)), (.int .u64 (.ofNat 0))])]
def B720 : List (Nat × List Value) := [(64384, [(C 64320 0 1 1), (.bool false)]), (64320, [(.int .u64 (.ofNat 1))]), (64000, [(.int .u64 (.ofNat 10)), (.int .u64 (.ofNat 0))]), (64064, [(.int .u64 (.ofNat 9)), (.int .u64 (.ofNat 0))]), (64256, [(C 64320 0 1 1), (.bool false)]), (64192, [(C 64064 0 1 1), (.bool true)]), (64128, [(C 64000 0 1 1), (.bool false)])]
def Q721 : KC := ⟨64, [(A [(C 64000 0 1 1), (.bool false)]), (A [(C 64064 0 1 1), (.bool true)])], 1002, 64128, B719, (A [(C 64320 0 1 1), (.bool false)]), 1007, B720, [], []⟩
def B722 : List (Nat × List Value) := [(64000, [(.int .u64 (.ofNat 1))]), (64064, [(.int .u64 (.ofNat 1)), (.int .u64 (.ofNat 0))])]
def B723 : List (Nat × List Value) := [(64448, [(.int .u64 (.ofNat 0)), (.int .u64 (.ofNat 0))]), (64384, [(.int .u64 (.ofNat 1))]), (64000, [(.int .u64 (.ofNat 1))]), (64064, [(.int .u64 (.ofNat 1)), (.int .u64 (.ofNat 0))])]
def Q724 : KC := ⟨210, [(A [(C 64000 0 1 1), (.bool false)]), (A [(C 64064 0 1 1), (.bool false)])], 1002, 64128, B722, (.tuple ⟨[(A [(C 64384 0 1 1), (.bool false)]), (A [(C 64448 0 0 0), (.bool false)])]⟩), 1010, B723, [], []⟩
def B725 : List (Nat × List Value) := [(64000, [(.int .u64 (.ofNat 2)), (.int .u64 (.ofNat 0))]), (64064, [(.int .u64 (.ofNat 260)), (.int .u64 (.ofNat 0))])]
def B726 : List (Nat × List Value) := [(64128, [(.int .u64 (.ofNat 520)), (.int .u64 (.ofNat 0))]), (64000, [(.int .u64 (.ofNat 2)), (.int .u64 (.ofNat 0))]), (64064, [(.int .u64 (.ofNat 260)), (.int .u64 (.ofNat 0))])]
def Q727 : KC := ⟨66, [(C 64000 0 1 1), (C 64064 0 1 1)], 1002, 64128, B725, (C 64128 0 1 1), 1003, B726, [], []⟩
def L23 : List (Sum (FuncId × List Value × Value) KC) := [.inr Q697,
  .inl (98, [(.int .u64 (.ofNat 3)), (.int .u64 (.ofNat 2))], (.tuple ⟨[(.int .u64 (.ofNat 0)), (.int .u64 (.ofNat 6))]⟩)),
  .inr Q700,
  .inr Q703,
  .inr Q706,
  .inr Q709,
  .inl (98, [(.int .u64 (.ofNat 2)), (.int .u64 (.ofNat 5))], (.tuple ⟨[(.int .u64 (.ofNat 0)), (.int .u64 (.ofNat 10))]⟩)),
  .inr Q712,
  .inl (98, [(.int .u64 (.ofNat 3)), (.int .u64 (.ofNat 3))], (.tuple ⟨[(.int .u64 (.ofNat 0)), (.int .u64 (.ofNat 9))]⟩)),
  .inr Q715,
  .inr Q718,
  .inr Q721,
  .inr Q724,
  .inl (98, [(.int .u64 (.ofNat 2)), (.int .u64 (.ofNat 260))], (.tuple ⟨[(.int .u64 (.ofNat 0)), (.int .u64 (.ofNat 520))]⟩)),
  .inr Q727,
  .inl (98, [(.int .u64 (.ofNat 3)), (.int .u64 (.ofNat 160))], (.tuple ⟨[(.int .u64 (.ofNat 0)), (.int .u64 (.ofNat 480))]⟩))]
def T23 : Tab := pushT T22 L23
def B728 : List (Nat × List Value) := [(64000, [(.int .u64 (.ofNat 3)), (.int .u64 (.ofNat 0))]), (64064, [(.int .u64 (.ofNat 160)), (.int .u64 (.ofNat 0))])]
def B729 : List (Nat × List Value) := [(64128, [(.int .u64 (.ofNat 480)), (.int .u64 (.ofNat 0))]), (64000, [(.int .u64 (.ofNat 3)), (.int .u64 (.ofNat 0))]), (64064, [(.int .u64 (.ofNat 160)), (.int .u64 (.ofNat 0))])]
def Q730 : KC := ⟨66, [(C 64000 0 1 1), (C 64064 0 1 1)], 1002, 64128, B728, (C 64128 0 1 1), 1003, B729, [], []⟩
def B731 : List (Nat × List Value) := [(64000, [(.int .u64 (.ofNat 520)), (.int .u64 (.ofNat 0))]), (64064, [(.int .u64 (.ofNat 480)), (.int .u64 (.ofNat 0))])]
def B732 : List (Nat × List Value) := [(64128, [(.int .u64 (.ofNat 40))]), (64000, [(.int .u64 (.ofNat 520)), (.int .u64 (.ofNat 0))]), (64064, [(.int .u64 (.ofNat 480)), (.int .u64 (.ofNat 0))])]
def Q733 : KC := ⟨97, [(C 64000 0 1 1), (C 64064 0 1 1)], 1002, 64128, B731, (C 64128 0 1 1), 1003, B732, [], []⟩
def B734 : List (Nat × List Value) := [(64000, [(.int .u64 (.ofNat 520)), (.int .u64 (.ofNat 0))]), (64064, [(.int .u64 (.ofNat 480)), (.int .u64 (.ofNat 0))])]
def B735 : List (Nat × List Value) := [(64384, [(C 64320 0 1 1), (.bool false)]), (64320, [(.int .u64 (.ofNat 40))]), (64000, [(.int .u64 (.ofNat 520)), (.int .u64 (.ofNat 0))]), (64064, [(.int .u64 (.ofNat 480)), (.int .u64 (.ofNat 0))]), (64256, [(C 64320 0 1 1), (.bool false)]), (64192, [(C 64064 0 1 1), (.bool true)]), (64128, [(C 64000 0 1 1), (.bool false)])]
def Q736 : KC := ⟨64, [(A [(C 64000 0 1 1), (.bool false)]), (A [(C 64064 0 1 1), (.bool true)])], 1002, 64128, B734, (A [(C 64320 0 1 1), (.bool false)]), 1007, B735, [], []⟩
def B737 : List (Nat × List Value) := [(64000, [(.int .u64 (.ofNat 40))])]
def B738 : List (Nat × List Value) := [(64064, [(.int .u64 (.ofNat 40))]), (64000, [(.int .u64 (.ofNat 40))])]
def Q739 : KC := ⟨92, [(C 64000 0 1 1), (.int .u64 (.ofNat 1))], 1001, 64064, B737, (.tuple ⟨[(C 64064 0 1 1), (.int .u64 (.ofNat 0))]⟩), 1002, B738, [], []⟩
def B740 : List (Nat × List Value) := [(64000, [(.int .u64 (.ofNat 40))]), (64064, [(.int .u64 (.ofNat 1)), (.int .u64 (.ofNat 0))])]
def B741 : List (Nat × List Value) := [(64192, [(.int .u64 (.ofNat 0)), (.int .u64 (.ofNat 0))]), (64128, [(.int .u64 (.ofNat 40))]), (64000, [(.int .u64 (.ofNat 40))]), (64064, [(.int .u64 (.ofNat 1)), (.int .u64 (.ofNat 0))])]
def Q742 : KC := ⟨61, [(C 64000 0 1 1), (C 64064 0 1 1)], 1002, 64128, B740, (.tuple ⟨[(C 64128 0 1 1), (C 64192 0 0 0)]⟩), 1004, B741, [], []⟩
def B743 : List (Nat × List Value) := [(64000, [(.int .u64 (.ofNat 40))]), (64064, [(.int .u64 (.ofNat 1)), (.int .u64 (.ofNat 0))])]
def B744 : List (Nat × List Value) := [(64448, [(.int .u64 (.ofNat 0)), (.int .u64 (.ofNat 0))]), (64384, [(.int .u64 (.ofNat 40))]), (64000, [(.int .u64 (.ofNat 40))]), (64064, [(.int .u64 (.ofNat 1)), (.int .u64 (.ofNat 0))])]
def Q745 : KC := ⟨210, [(A [(C 64000 0 1 1), (.bool false)]), (A [(C 64064 0 1 1), (.bool false)])], 1002, 64128, B743, (.tuple ⟨[(A [(C 64384 0 1 1), (.bool false)]), (A [(C 64448 0 0 0), (.bool false)])]⟩), 1010, B744, [], []⟩
def B746 : List (Nat × List Value) := [(64000, [(.int .u64 (.ofNat 2)), (.int .u64 (.ofNat 0))]), (64064, [(.int .u64 (.ofNat 3)), (.int .u64 (.ofNat 0))]), (64128, [(.int .u64 (.ofNat 160)), (.int .u64 (.ofNat 0))]), (64192, [(C 64000 0 1 1), (.bool false), (C 64064 0 1 1), (.bool false), (C 64128 0 1 1), (.bool false)]), (64256, [(.int .u64 (.ofNat 3)), (.int .u64 (.ofNat 0))]), (64320, [(.int .u64 (.ofNat 5)), (.int .u64 (.ofNat 0))]), (64384, [(.int .u64 (.ofNat 260)), (.int .u64 (.ofNat 0))]), (64448, [(C 64256 0 1 1), (.bool false), (C 64320 0 1 1), (.bool false), (C 64384 0 1 1), (.bool false)]), (64513, [(C 64192 0 3 3), (C 64448 0 3 3)]), (64576, [(.int .u64 (.ofNat 1)), (.int .u64 (.ofNat 0))])]
def B747 : List (Nat × List Value) := [(70272, [(.int .u64 (.ofNat 40))]), (64576, [(.int .u64 (.ofNat 1)), (.int .u64 (.ofNat 0))]), (64128, [(.int .u64 (.ofNat 160)), (.int .u64 (.ofNat 0))]), (64000, [(.int .u64 (.ofNat 2)), (.int .u64 (.ofNat 0))]), (64384, [(.int .u64 (.ofNat 260)), (.int .u64 (.ofNat 0))]), (68352, [(.int .u64 (.ofNat 1))]), (64064, [(.int .u64 (.ofNat 3)), (.int .u64 (.ofNat 0))]), (64192, [(C 64000 0 1 1), (.bool false), (C 64064 0 1 1), (.bool false), (C 64128 0 1 1), (.bool false)]), (64448, [(.slice none 0 0), (.bool false), (C 68352 0 1 1), (.bool false), (C 70272 0 1 1), (.bool false)]), (64513, [(C 64192 0 3 3), (C 64448 0 3 3)]), (64256, [(.int .u64 (.ofNat 3)), (.int .u64 (.ofNat 0))]), (64320, [(.int .u64 (.ofNat 5)), (.int .u64 (.ofNat 0))])]
def Q748 : KC := ⟨203, [(A [(C 64513 0 2 2)]), (I 1), (I 0), (I 0), (A [(C 64576 0 1 1), (.bool false)])], 1010, 64000, B746, (.tuple ⟨[]⟩), 1102, B747, [], []⟩
def B749 : List (Nat × List Value) := [(64000, [(.int .u64 (.ofNat 2)), (.int .u64 (.ofNat 0))])]
def B750 : List (Nat × List Value) := [(64064, [(.int .u64 (.ofNat 2)), (.int .u64 (.ofNat 0))]), (64000, [(.int .u64 (.ofNat 2)), (.int .u64 (.ofNat 0))])]
def Q751 : KC := ⟨96, [(C 64000 0 1 1), (.slice none 0 0)], 1001, 64064, B749, (C 64064 0 1 1), 1002, B750, [], []⟩
def B752 : List (Nat × List Value) := [(64000, [(.int .u64 (.ofNat 2)), (.int .u64 (.ofNat 0))])]
def B753 : List (Nat × List Value) := [(64640, [(.int .u64 (.ofNat 2)), (.int .u64 (.ofNat 0))]), (64000, [(.int .u64 (.ofNat 2)), (.int .u64 (.ofNat 0))])]
def Q754 : KC := ⟨209, [(A [(C 64000 0 1 1), (.bool false)]), (A [(.slice none 0 0), (.bool false)])], 1001, 64064, B752, (A [(C 64640 0 1 1), (.bool false)]), 1012, B753, [], []⟩
def B755 : List (Nat × List Value) := [(64000, [(.int .u64 (.ofNat 2)), (.int .u64 (.ofNat 0))]), (64064, [(.int .u64 (.ofNat 2)), (.int .u64 (.ofNat 0))])]
def B756 : List (Nat × List Value) := [(64448, [(.int .u64 (.ofNat 0)), (.int .u64 (.ofNat 0))]), (64384, [(.int .u64 (.ofNat 1))]), (64000, [(.int .u64 (.ofNat 2)), (.int .u64 (.ofNat 0))]), (64064, [(.int .u64 (.ofNat 2)), (.int .u64 (.ofNat 0))])]
def Q757 : KC := ⟨210, [(A [(C 64000 0 1 1), (.bool false)]), (A [(C 64064 0 1 1), (.bool false)])], 1002, 64128, B755, (.tuple ⟨[(A [(C 64384 0 1 1), (.bool false)]), (A [(C 64448 0 0 0), (.bool false)])]⟩), 1010, B756, [], []⟩
def B758 : List (Nat × List Value) := [(64000, [(.int .u64 (.ofNat 1))]), (64064, [(.int .u64 (.ofNat 3)), (.int .u64 (.ofNat 0))])]
def B759 : List (Nat × List Value) := [(64128, [(.int .u64 (.ofNat 3)), (.int .u64 (.ofNat 0))]), (64000, [(.int .u64 (.ofNat 1))]), (64064, [(.int .u64 (.ofNat 3)), (.int .u64 (.ofNat 0))])]
def Q760 : KC := ⟨66, [(C 64000 0 1 1), (C 64064 0 1 1)], 1002, 64128, B758, (C 64128 0 1 1), 1003, B759, [], []⟩
def B761 : List (Nat × List Value) := [(64000, [(.int .u64 (.ofNat 3)), (.int .u64 (.ofNat 0))]), (64064, [(.int .u64 (.ofNat 3)), (.int .u64 (.ofNat 0))])]
def B762 : List (Nat × List Value) := [(64128, [(.int .u64 (.ofNat 0))]), (64000, [(.int .u64 (.ofNat 3)), (.int .u64 (.ofNat 0))]), (64064, [(.int .u64 (.ofNat 3)), (.int .u64 (.ofNat 0))])]
def Q763 : KC := ⟨97, [(C 64000 0 1 1), (C 64064 0 1 1)], 1002, 64128, B761, (C 64128 0 0 0), 1003, B762, [], []⟩
def B764 : List (Nat × List Value) := [(64000, [(.int .u64 (.ofNat 3)), (.int .u64 (.ofNat 0))]), (64064, [(.int .u64 (.ofNat 3)), (.int .u64 (.ofNat 0))])]
def B765 : List (Nat × List Value) := [(64384, [(C 64320 0 0 0), (.bool false)]), (64320, [(.int .u64 (.ofNat 0))]), (64000, [(.int .u64 (.ofNat 3)), (.int .u64 (.ofNat 0))]), (64064, [(.int .u64 (.ofNat 3)), (.int .u64 (.ofNat 0))]), (64256, [(C 64320 0 0 0), (.bool false)]), (64192, [(C 64064 0 1 1), (.bool true)]), (64128, [(C 64000 0 1 1), (.bool false)])]
def Q766 : KC := ⟨64, [(A [(C 64000 0 1 1), (.bool false)]), (A [(C 64064 0 1 1), (.bool true)])], 1002, 64128, B764, (A [(C 64320 0 0 0), (.bool false)]), 1007, B765, [], []⟩
def L24 : List (Sum (FuncId × List Value × Value) KC) := [.inr Q730,
  .inr Q733,
  .inr Q736,
  .inr Q739,
  .inr Q742,
  .inr Q745,
  .inr Q748,
  .inr Q751,
  .inr Q754,
  .inr Q757,
  .inl (98, [(.int .u64 (.ofNat 1)), (.int .u64 (.ofNat 3))], (.tuple ⟨[(.int .u64 (.ofNat 0)), (.int .u64 (.ofNat 3))]⟩)),
  .inr Q760,
  .inr Q763,
  .inr Q766]
def T24 : Tab := pushT T23 L24
def B767 : List (Nat × List Value) := [(64000, [(.int .u64 (.ofNat 0))]), (64064, [(.int .u64 (.ofNat 2)), (.int .u64 (.ofNat 0))])]
def B768 : List (Nat × List Value) := [(64448, [(C 64000 0 0 0), (.bool false)]), (64000, [(.int .u64 (.ofNat 0))]), (64064, [(.int .u64 (.ofNat 2)), (.int .u64 (.ofNat 0))]), (64320, [(C 64000 0 0 0), (.bool false)]), (64256, [(.slice none 0 0), (.bool false)]), (64192, [(C 64064 0 1 1), (.bool false)]), (64128, [(C 64000 0 0 0), (.bool false)])]
def Q769 : KC := ⟨210, [(A [(C 64000 0 0 0), (.bool false)]), (A [(C 64064 0 1 1), (.bool false)])], 1002, 64128, B767, (.tuple ⟨[(A [(.slice none 0 0), (.bool false)]), (A [(C 64000 0 0 0), (.bool false)])]⟩), 1008, B768, [], []⟩
def B770 : List (Nat × List Value) := [(64000, [(.int .u64 (.ofNat 1))]), (64064, [(.int .u64 (.ofNat 160)), (.int .u64 (.ofNat 0))])]
def B771 : List (Nat × List Value) := [(64128, [(.int .u64 (.ofNat 160)), (.int .u64 (.ofNat 0))]), (64000, [(.int .u64 (.ofNat 1))]), (64064, [(.int .u64 (.ofNat 160)), (.int .u64 (.ofNat 0))])]
def Q772 : KC := ⟨66, [(C 64000 0 1 1), (C 64064 0 1 1)], 1002, 64128, B770, (C 64128 0 1 1), 1003, B771, [], []⟩
def B773 : List (Nat × List Value) := [(64000, [(.int .u64 (.ofNat 3)), (.int .u64 (.ofNat 0))]), (64064, [(.int .u64 (.ofNat 40))])]
def B774 : List (Nat × List Value) := [(64128, [(.int .u64 (.ofNat 120)), (.int .u64 (.ofNat 0))]), (64000, [(.int .u64 (.ofNat 3)), (.int .u64 (.ofNat 0))]), (64064, [(.int .u64 (.ofNat 40))])]
def Q775 : KC := ⟨66, [(C 64000 0 1 1), (C 64064 0 1 1)], 1002, 64128, B773, (C 64128 0 1 1), 1003, B774, [], []⟩
def B776 : List (Nat × List Value) := [(64000, [(.int .u64 (.ofNat 160)), (.int .u64 (.ofNat 0))]), (64064, [(.int .u64 (.ofNat 120)), (.int .u64 (.ofNat 0))])]
def B777 : List (Nat × List Value) := [(64128, [(.int .u64 (.ofNat 40))]), (64000, [(.int .u64 (.ofNat 160)), (.int .u64 (.ofNat 0))]), (64064, [(.int .u64 (.ofNat 120)), (.int .u64 (.ofNat 0))])]
def Q778 : KC := ⟨97, [(C 64000 0 1 1), (C 64064 0 1 1)], 1002, 64128, B776, (C 64128 0 1 1), 1003, B777, [], []⟩
def B779 : List (Nat × List Value) := [(64000, [(.int .u64 (.ofNat 160)), (.int .u64 (.ofNat 0))]), (64064, [(.int .u64 (.ofNat 120)), (.int .u64 (.ofNat 0))])]
def B780 : List (Nat × List Value) := [(64384, [(C 64320 0 1 1), (.bool false)]), (64320, [(.int .u64 (.ofNat 40))]), (64000, [(.int .u64 (.ofNat 160)), (.int .u64 (.ofNat 0))]), (64064, [(.int .u64 (.ofNat 120)), (.int .u64 (.ofNat 0))]), (64256, [(C 64320 0 1 1), (.bool false)]), (64192, [(C 64064 0 1 1), (.bool true)]), (64128, [(C 64000 0 1 1), (.bool false)])]
def Q781 : KC := ⟨64, [(A [(C 64000 0 1 1), (.bool false)]), (A [(C 64064 0 1 1), (.bool true)])], 1002, 64128, B779, (A [(C 64320 0 1 1), (.bool false)]), 1007, B780, [], []⟩
def B782 : List (Nat × List Value) := [(64000, [(.int .u64 (.ofNat 40))])]
def B783 : List (Nat × List Value) := [(64064, [(.int .u64 (.ofNat 20))]), (64000, [(.int .u64 (.ofNat 40))])]
def Q784 : KC := ⟨92, [(C 64000 0 1 1), (.int .u64 (.ofNat 2))], 1001, 64064, B782, (.tuple ⟨[(C 64064 0 1 1), (.int .u64 (.ofNat 0))]⟩), 1002, B783, [], []⟩
def B785 : List (Nat × List Value) := [(64000, [(.int .u64 (.ofNat 40))]), (64064, [(.int .u64 (.ofNat 2)), (.int .u64 (.ofNat 0))])]
def B786 : List (Nat × List Value) := [(64192, [(.int .u64 (.ofNat 0)), (.int .u64 (.ofNat 0))]), (64128, [(.int .u64 (.ofNat 20))]), (64000, [(.int .u64 (.ofNat 40))]), (64064, [(.int .u64 (.ofNat 2)), (.int .u64 (.ofNat 0))])]
def Q787 : KC := ⟨61, [(C 64000 0 1 1), (C 64064 0 1 1)], 1002, 64128, B785, (.tuple ⟨[(C 64128 0 1 1), (C 64192 0 0 0)]⟩), 1004, B786, [], []⟩
def B788 : List (Nat × List Value) := [(64000, [(.int .u64 (.ofNat 40))]), (64064, [(.int .u64 (.ofNat 2)), (.int .u64 (.ofNat 0))])]
def B789 : List (Nat × List Value) := [(64448, [(.int .u64 (.ofNat 0)), (.int .u64 (.ofNat 0))]), (64384, [(.int .u64 (.ofNat 20))]), (64000, [(.int .u64 (.ofNat 40))]), (64064, [(.int .u64 (.ofNat 2)), (.int .u64 (.ofNat 0))])]
def Q790 : KC := ⟨210, [(A [(C 64000 0 1 1), (.bool false)]), (A [(C 64064 0 1 1), (.bool false)])], 1002, 64128, B788, (.tuple ⟨[(A [(C 64384 0 1 1), (.bool false)]), (A [(C 64448 0 0 0), (.bool false)])]⟩), 1010, B789, [], []⟩
def B791 : List (Nat × List Value) := [(64000, [(.int .u64 (.ofNat 3)), (.int .u64 (.ofNat 0))]), (64064, [(.int .u64 (.ofNat 160)), (.int .u64 (.ofNat 0))]), (64128, [(C 64448 0 1 1), (.bool false), (C 64000 0 1 1), (.bool false), (C 64064 0 1 1), (.bool false)]), (64192, [(.int .u64 (.ofNat 1))]), (64256, [(.int .u64 (.ofNat 40))]), (64320, [(.slice none 0 0), (.bool false), (C 64192 0 1 1), (.bool false), (C 64256 0 1 1), (.bool false)]), (64385, [(C 64128 0 3 3), (C 64320 0 3 3)]), (64448, [(.int .u64 (.ofNat 2)), (.int .u64 (.ofNat 0))])]
def B792 : List (Nat × List Value) := [(70080, [(.int .u64 (.ofNat 20))]), (64448, [(.int .u64 (.ofNat 2)), (.int .u64 (.ofNat 0))]), (64256, [(.int .u64 (.ofNat 40))]), (64192, [(.int .u64 (.ofNat 1))]), (64064, [(.int .u64 (.ofNat 160)), (.int .u64 (.ofNat 0))]), (66368, [(.int .u64 (.ofNat 1))]), (64128, [(C 66368 0 1 1), (.bool false), (.slice none 0 0), (.bool false), (C 70080 0 1 1), (.bool false)]), (64320, [(.slice none 0 0), (.bool false), (C 64192 0 1 1), (.bool false), (C 64256 0 1 1), (.bool false)]), (64385, [(C 64128 0 3 3), (C 64320 0 3 3)]), (64000, [(.int .u64 (.ofNat 3)), (.int .u64 (.ofNat 0))])]
def Q793 : KC := ⟨203, [(A [(C 64385 0 2 2)]), (I 0), (I 1), (I 1), (A [(C 64448 0 1 1), (.bool false)])], 1008, 64000, B791, (.tuple ⟨[]⟩), 1099, B792, [], []⟩
def B794 : List (Nat × List Value) := [(64000, [(.int .u64 (.ofNat 2)), (.int .u64 (.ofNat 0))]), (64064, [(.int .u64 (.ofNat 3)), (.int .u64 (.ofNat 0))]), (64128, [(.int .u64 (.ofNat 160)), (.int .u64 (.ofNat 0))]), (64192, [(C 64000 0 1 1), (.bool false), (C 64064 0 1 1), (.bool false), (C 64128 0 1 1), (.bool false)]), (64256, [(.int .u64 (.ofNat 3)), (.int .u64 (.ofNat 0))]), (64320, [(.int .u64 (.ofNat 5)), (.int .u64 (.ofNat 0))]), (64384, [(.int .u64 (.ofNat 260)), (.int .u64 (.ofNat 0))]), (64448, [(C 64256 0 1 1), (.bool false), (C 64320 0 1 1), (.bool false), (C 64384 0 1 1), (.bool false)]), (64513, [(C 64192 0 3 3), (C 64448 0 3 3)])]
def B795 : List (Nat × List Value) := [(76288, [(.int .u64 (.ofNat 20))]), (64000, [(.int .u64 (.ofNat 2)), (.int .u64 (.ofNat 0))]), (70464, [(.int .u64 (.ofNat 40))]), (68544, [(.int .u64 (.ofNat 1))]), (64128, [(.int .u64 (.ofNat 160)), (.int .u64 (.ofNat 0))]), (72576, [(.int .u64 (.ofNat 1))]), (64192, [(C 72576 0 1 1), (.bool false), (.slice none 0 0), (.bool false), (C 76288 0 1 1), (.bool false)]), (64448, [(.slice none 0 0), (.bool false), (C 68544 0 1 1), (.bool false), (C 70464 0 1 1), (.bool false)]), (64513, [(C 64192 0 3 3), (C 64448 0 3 3)]), (64064, [(.int .u64 (.ofNat 3)), (.int .u64 (.ofNat 0))]), (64384, [(.int .u64 (.ofNat 260)), (.int .u64 (.ofNat 0))]), (64256, [(.int .u64 (.ofNat 3)), (.int .u64 (.ofNat 0))]), (64320, [(.int .u64 (.ofNat 5)), (.int .u64 (.ofNat 0))])]
def Q796 : KC := ⟨192, [(A [(C 64513 0 2 2)]), (I 2)], 1009, 64000, B794, (I 2), 1196, B795, [], []⟩
def L25 : List (Sum (FuncId × List Value × Value) KC) := [.inr Q769,
  .inl (98, [(.int .u64 (.ofNat 1)), (.int .u64 (.ofNat 160))], (.tuple ⟨[(.int .u64 (.ofNat 0)), (.int .u64 (.ofNat 160))]⟩)),
  .inr Q772,
  .inl (98, [(.int .u64 (.ofNat 3)), (.int .u64 (.ofNat 40))], (.tuple ⟨[(.int .u64 (.ofNat 0)), (.int .u64 (.ofNat 120))]⟩)),
  .inr Q775,
  .inr Q778,
  .inr Q781,
  .inr Q784,
  .inr Q787,
  .inr Q790,
  .inr Q793,
  .inr Q796]
def T25 : Tab := pushT T24 L25
def B797 : List (Nat × List Value) := [(64000, [(.int .u64 (.ofNat 20))])]
def B798 : List (Nat × List Value) := [(64064, [(.int .u64 (.ofNat 20))]), (64000, [(.int .u64 (.ofNat 20))])]
def Q799 : KC := ⟨92, [(C 64000 0 1 1), (.int .u64 (.ofNat 1))], 1001, 64064, B797, (.tuple ⟨[(C 64064 0 1 1), (.int .u64 (.ofNat 0))]⟩), 1002, B798, [], []⟩
def B800 : List (Nat × List Value) := [(64000, [(.int .u64 (.ofNat 20))]), (64064, [(.int .u64 (.ofNat 1))])]
def B801 : List (Nat × List Value) := [(64192, [(.int .u64 (.ofNat 1)), (.int .u64 (.ofNat 0))]), (64128, [(.int .u64 (.ofNat 20))]), (64000, [(.int .u64 (.ofNat 20))]), (64064, [(.int .u64 (.ofNat 1))])]
def Q802 : KC := ⟨59, [(C 64000 0 1 1), (C 64064 0 1 1)], 1002, 64128, B800, (C 64192 0 1 1), 1004, B801, [], []⟩
def B803 : List (Nat × List Value) := [(64000, [(.int .u64 (.ofNat 40))]), (64064, [(.int .u64 (.ofNat 1))])]
def B804 : List (Nat × List Value) := [(64192, [(.int .u64 (.ofNat 1)), (.int .u64 (.ofNat 0))]), (64128, [(.int .u64 (.ofNat 40))]), (64000, [(.int .u64 (.ofNat 40))]), (64064, [(.int .u64 (.ofNat 1))])]
def Q805 : KC := ⟨59, [(C 64000 0 1 1), (C 64064 0 1 1)], 1002, 64128, B803, (C 64192 0 1 1), 1004, B804, [], []⟩
def B806 : List (Nat × List Value) := [(70528, [(.int .u64 (.ofNat 40))]), (68608, [(.int .u64 (.ofNat 1))]), (76352, [(.int .u64 (.ofNat 20))]), (72640, [(.int .u64 (.ofNat 1))]), (76608, [(C 76352 0 1 1), (.bool false), (C 72640 0 1 1), (C 70528 0 1 1), (.bool false), (C 68608 0 1 1)]), (64192, [(C 72640 0 1 1), (.bool false), (.slice none 0 0), (.bool false), (C 76352 0 1 1), (.bool false)]), (64448, [(.slice none 0 0), (.bool false), (C 68608 0 1 1), (.bool false), (C 70528 0 1 1), (.bool false)]), (64000, [(.int .u64 (.ofNat 2)), (.int .u64 (.ofNat 0))]), (64128, [(.int .u64 (.ofNat 160)), (.int .u64 (.ofNat 0))]), (64513, [(C 64192 0 3 3), (C 64448 0 3 3)]), (64064, [(.int .u64 (.ofNat 3)), (.int .u64 (.ofNat 0))]), (64384, [(.int .u64 (.ofNat 260)), (.int .u64 (.ofNat 0))]), (64256, [(.int .u64 (.ofNat 3)), (.int .u64 (.ofNat 0))]), (64320, [(.int .u64 (.ofNat 5)), (.int .u64 (.ofNat 0))])]
def Q807 : KC := ⟨174, [(A [(C 64513 0 2 2)])], 1009, 64000, B794, (.tuple ⟨[(C 76608 0 2 2), (I 0)]⟩), 1208, B806, [], []⟩
def B808 : List (Nat × List Value) := [(64000, [(.int .u64 (.ofNat 20))]), (64064, [(.int .u64 (.ofNat 1)), (.int .u64 (.ofNat 0))])]
def B809 : List (Nat × List Value) := [(64192, [(.int .u64 (.ofNat 1)), (.int .u64 (.ofNat 0))]), (64128, [(.int .u64 (.ofNat 20))]), (64000, [(.int .u64 (.ofNat 20))]), (64064, [(.int .u64 (.ofNat 1)), (.int .u64 (.ofNat 0))])]
def Q810 : KC := ⟨59, [(C 64000 0 1 1), (C 64064 0 1 1)], 1002, 64128, B808, (C 64192 0 1 1), 1004, B809, [], []⟩
def B811 : List (Nat × List Value) := [(64000, [(.int .u64 (.ofNat 20))]), (64064, [(.int .u64 (.ofNat 1)), (.int .u64 (.ofNat 0))])]
def B812 : List (Nat × List Value) := [(64128, [(.int .u64 (.ofNat 20)), (.int .u64 (.ofNat 0))]), (64000, [(.int .u64 (.ofNat 20))]), (64064, [(.int .u64 (.ofNat 1)), (.int .u64 (.ofNat 0))])]
def Q813 : KC := ⟨66, [(C 64000 0 1 1), (C 64064 0 1 1)], 1002, 64128, B811, (C 64128 0 1 1), 1003, B812, [], []⟩
def B814 : List (Nat × List Value) := [(64000, [(.int .u64 (.ofNat 20))]), (64064, [(.int .u64 (.ofNat 1))]), (64128, [(.int .u64 (.ofNat 1)), (.int .u64 (.ofNat 0))]), (64192, [(.int .u64 (.ofNat 1)), (.int .u64 (.ofNat 0))])]
def B815 : List (Nat × List Value) := [(64768, [(.int .u64 (.ofNat 1)), (.int .u64 (.ofNat 0))]), (64064, [(.int .u64 (.ofNat 1))]), (64192, [(.int .u64 (.ofNat 1)), (.int .u64 (.ofNat 0))]), (64704, [(.int .u64 (.ofNat 20)), (.int .u64 (.ofNat 0))]), (64000, [(.int .u64 (.ofNat 20))]), (64128, [(.int .u64 (.ofNat 1)), (.int .u64 (.ofNat 0))])]
def Q816 : KC := ⟨67, [(A [(C 64000 0 1 1), (.bool false), (C 64064 0 1 1)]), (A [(C 64128 0 1 1), (.bool false), (C 64192 0 1 1)])], 1004, 64256, B814, (A [(C 64704 0 1 1), (.bool false), (C 64768 0 1 1)]), 1013, B815, [], []⟩
def B817 : List (Nat × List Value) := [(64000, [(.int .u64 (.ofNat 20)), (.int .u64 (.ofNat 0))])]
def B818 : List (Nat × List Value) := [(64064, [(.int .u64 (.ofNat 20))]), (64000, [(.int .u64 (.ofNat 20)), (.int .u64 (.ofNat 0))])]
def Q819 : KC := ⟨92, [(C 64000 0 1 1), (.int .u64 (.ofNat 1))], 1001, 64064, B817, (.tuple ⟨[(C 64064 0 1 1), (.int .u64 (.ofNat 0))]⟩), 1002, B818, [], []⟩
def B820 : List (Nat × List Value) := [(64000, [(.int .u64 (.ofNat 20)), (.int .u64 (.ofNat 0))]), (64064, [(.int .u64 (.ofNat 1)), (.int .u64 (.ofNat 0))])]
def B821 : List (Nat × List Value) := [(64192, [(.int .u64 (.ofNat 1)), (.int .u64 (.ofNat 0))]), (64128, [(.int .u64 (.ofNat 20))]), (64000, [(.int .u64 (.ofNat 20)), (.int .u64 (.ofNat 0))]), (64064, [(.int .u64 (.ofNat 1)), (.int .u64 (.ofNat 0))])]
def Q822 : KC := ⟨59, [(C 64000 0 1 1), (C 64064 0 1 1)], 1002, 64128, B820, (C 64192 0 1 1), 1004, B821, [], []⟩
def B823 : List (Nat × List Value) := [(64000, [(.int .u64 (.ofNat 20)), (.int .u64 (.ofNat 0))]), (64064, [(.int .u64 (.ofNat 1)), (.int .u64 (.ofNat 0))])]
def B824 : List (Nat × List Value) := [(64128, [(.int .u64 (.ofNat 20)), (.int .u64 (.ofNat 0))]), (64000, [(.int .u64 (.ofNat 20)), (.int .u64 (.ofNat 0))]), (64064, [(.int .u64 (.ofNat 1)), (.int .u64 (.ofNat 0))])]
def Q825 : KC := ⟨66, [(C 64000 0 1 1), (C 64064 0 1 1)], 1002, 64128, B823, (C 64128 0 1 1), 1003, B824, [], []⟩
def B826 : List (Nat × List Value) := [(64000, [(.int .u64 (.ofNat 20)), (.int .u64 (.ofNat 0))]), (64064, [(.int .u64 (.ofNat 1)), (.int .u64 (.ofNat 0))]), (64128, [(.int .u64 (.ofNat 1)), (.int .u64 (.ofNat 0))]), (64192, [(.int .u64 (.ofNat 1)), (.int .u64 (.ofNat 0))])]
def B827 : List (Nat × List Value) := [(64768, [(.int .u64 (.ofNat 1)), (.int .u64 (.ofNat 0))]), (64064, [(.int .u64 (.ofNat 1)), (.int .u64 (.ofNat 0))]), (64192, [(.int .u64 (.ofNat 1)), (.int .u64 (.ofNat 0))]), (64704, [(.int .u64 (.ofNat 20)), (.int .u64 (.ofNat 0))]), (64000, [(.int .u64 (.ofNat 20)), (.int .u64 (.ofNat 0))]), (64128, [(.int .u64 (.ofNat 1)), (.int .u64 (.ofNat 0))])]
def Q828 : KC := ⟨67, [(A [(C 64000 0 1 1), (.bool false), (C 64064 0 1 1)]), (A [(C 64128 0 1 1), (.bool false), (C 64192 0 1 1)])], 1004, 64256, B826, (A [(C 64704 0 1 1), (.bool false), (C 64768 0 1 1)]), 1013, B827, [], []⟩
def B829 : List (Nat × List Value) := [(64000, [(.int .u64 (.ofNat 40))]), (64064, [(.int .u64 (.ofNat 1)), (.int .u64 (.ofNat 0))])]
def B830 : List (Nat × List Value) := [(64192, [(.int .u64 (.ofNat 1)), (.int .u64 (.ofNat 0))]), (64128, [(.int .u64 (.ofNat 40))]), (64000, [(.int .u64 (.ofNat 40))]), (64064, [(.int .u64 (.ofNat 1)), (.int .u64 (.ofNat 0))])]
def Q831 : KC := ⟨59, [(C 64000 0 1 1), (C 64064 0 1 1)], 1002, 64128, B829, (C 64192 0 1 1), 1004, B830, [], []⟩
def B832 : List (Nat × List Value) := [(64000, [(.int .u64 (.ofNat 40))]), (64064, [(.int .u64 (.ofNat 2)), (.int .u64 (.ofNat 0))])]
def B833 : List (Nat × List Value) := [(64128, [(.int .u64 (.ofNat 80)), (.int .u64 (.ofNat 0))]), (64000, [(.int .u64 (.ofNat 40))]), (64064, [(.int .u64 (.ofNat 2)), (.int .u64 (.ofNat 0))])]
def Q834 : KC := ⟨66, [(C 64000 0 1 1), (C 64064 0 1 1)], 1002, 64128, B832, (C 64128 0 1 1), 1003, B833, [], []⟩
def L26 : List (Sum (FuncId × List Value × Value) KC) := [.inr Q799,
  .inr Q802,
  .inr Q805,
  .inr Q807,
  .inr Q810,
  .inl (98, [(.int .u64 (.ofNat 20)), (.int .u64 (.ofNat 1))], (.tuple ⟨[(.int .u64 (.ofNat 0)), (.int .u64 (.ofNat 20))]⟩)),
  .inr Q813,
  .inr Q816,
  .inr Q819,
  .inr Q822,
  .inr Q825,
  .inr Q828,
  .inr Q831,
  .inl (98, [(.int .u64 (.ofNat 40)), (.int .u64 (.ofNat 2))], (.tuple ⟨[(.int .u64 (.ofNat 0)), (.int .u64 (.ofNat 80))]⟩)),
  .inr Q834]
def T26 : Tab := pushT T25 L26
def B835 : List (Nat × List Value) := [(64000, [(.int .u64 (.ofNat 40))]), (64064, [(.int .u64 (.ofNat 1))]), (64128, [(.int .u64 (.ofNat 2)), (.int .u64 (.ofNat 0))]), (64192, [(.int .u64 (.ofNat 1)), (.int .u64 (.ofNat 0))])]
def B836 : List (Nat × List Value) := [(64768, [(.int .u64 (.ofNat 1)), (.int .u64 (.ofNat 0))]), (64064, [(.int .u64 (.ofNat 1))]), (64192, [(.int .u64 (.ofNat 1)), (.int .u64 (.ofNat 0))]), (64704, [(.int .u64 (.ofNat 80)), (.int .u64 (.ofNat 0))]), (64000, [(.int .u64 (.ofNat 40))]), (64128, [(.int .u64 (.ofNat 2)), (.int .u64 (.ofNat 0))])]
def Q837 : KC := ⟨67, [(A [(C 64000 0 1 1), (.bool false), (C 64064 0 1 1)]), (A [(C 64128 0 1 1), (.bool false), (C 64192 0 1 1)])], 1004, 64256, B835, (A [(C 64704 0 1 1), (.bool false), (C 64768 0 1 1)]), 1013, B836, [], []⟩
def B838 : List (Nat × List Value) := [(64000, [(.int .u64 (.ofNat 80)), (.int .u64 (.ofNat 0))])]
def B839 : List (Nat × List Value) := [(64064, [(.int .u64 (.ofNat 80))]), (64000, [(.int .u64 (.ofNat 80)), (.int .u64 (.ofNat 0))])]
def Q840 : KC := ⟨92, [(C 64000 0 1 1), (.int .u64 (.ofNat 1))], 1001, 64064, B838, (.tuple ⟨[(C 64064 0 1 1), (.int .u64 (.ofNat 0))]⟩), 1002, B839, [], []⟩
def B841 : List (Nat × List Value) := [(64000, [(.int .u64 (.ofNat 80)), (.int .u64 (.ofNat 0))]), (64064, [(.int .u64 (.ofNat 1)), (.int .u64 (.ofNat 0))])]
def B842 : List (Nat × List Value) := [(64192, [(.int .u64 (.ofNat 1)), (.int .u64 (.ofNat 0))]), (64128, [(.int .u64 (.ofNat 80))]), (64000, [(.int .u64 (.ofNat 80)), (.int .u64 (.ofNat 0))]), (64064, [(.int .u64 (.ofNat 1)), (.int .u64 (.ofNat 0))])]
def Q843 : KC := ⟨59, [(C 64000 0 1 1), (C 64064 0 1 1)], 1002, 64128, B841, (C 64192 0 1 1), 1004, B842, [], []⟩
def B844 : List (Nat × List Value) := [(64000, [(.int .u64 (.ofNat 80)), (.int .u64 (.ofNat 0))]), (64064, [(.int .u64 (.ofNat 1)), (.int .u64 (.ofNat 0))])]
def B845 : List (Nat × List Value) := [(64128, [(.int .u64 (.ofNat 80)), (.int .u64 (.ofNat 0))]), (64000, [(.int .u64 (.ofNat 80)), (.int .u64 (.ofNat 0))]), (64064, [(.int .u64 (.ofNat 1)), (.int .u64 (.ofNat 0))])]
def Q846 : KC := ⟨66, [(C 64000 0 1 1), (C 64064 0 1 1)], 1002, 64128, B844, (C 64128 0 1 1), 1003, B845, [], []⟩
def B847 : List (Nat × List Value) := [(64000, [(.int .u64 (.ofNat 80)), (.int .u64 (.ofNat 0))]), (64064, [(.int .u64 (.ofNat 1)), (.int .u64 (.ofNat 0))]), (64128, [(.int .u64 (.ofNat 1)), (.int .u64 (.ofNat 0))]), (64192, [(.int .u64 (.ofNat 1)), (.int .u64 (.ofNat 0))])]
def B848 : List (Nat × List Value) := [(64768, [(.int .u64 (.ofNat 1)), (.int .u64 (.ofNat 0))]), (64064, [(.int .u64 (.ofNat 1)), (.int .u64 (.ofNat 0))]), (64192, [(.int .u64 (.ofNat 1)), (.int .u64 (.ofNat 0))]), (64704, [(.int .u64 (.ofNat 80)), (.int .u64 (.ofNat 0))]), (64000, [(.int .u64 (.ofNat 80)), (.int .u64 (.ofNat 0))]), (64128, [(.int .u64 (.ofNat 1)), (.int .u64 (.ofNat 0))])]
def Q849 : KC := ⟨67, [(A [(C 64000 0 1 1), (.bool false), (C 64064 0 1 1)]), (A [(C 64128 0 1 1), (.bool false), (C 64192 0 1 1)])], 1004, 64256, B847, (A [(C 64704 0 1 1), (.bool false), (C 64768 0 1 1)]), 1013, B848, [], []⟩
def B850 : List (Nat × List Value) := [(64000, [(.int .u64 (.ofNat 20)), (.int .u64 (.ofNat 0))])]
def B851 : List (Nat × List Value) := [(64256, [(I 1)]), (64128, [(U 0), (U 50), (U 48)]), (64192, [(C 64128 0 3 3)]), (64000, [(.int .u64 (.ofNat 20)), (.int .u64 (.ofNat 0))]), (64064, [(C 64000 0 1 1), (.bool false)])]
def Q852 : KC := ⟨69, [(A [(C 64000 0 1 1), (.bool false)])], 1001, 64064, B850, (S [50, 48]), 1005, B851, [], []⟩
def B853 : List (Nat × List Value) := [(64000, [(.int .u64 (.ofNat 20)), (.int .u64 (.ofNat 0))]), (64064, [(.int .u64 (.ofNat 1)), (.int .u64 (.ofNat 0))])]
def B854 : List (Nat × List Value) := [(64064, [(.int .u64 (.ofNat 1)), (.int .u64 (.ofNat 0))]), (64000, [(.int .u64 (.ofNat 20)), (.int .u64 (.ofNat 0))])]
def Q855 : KC := ⟨40, [(A [(C 64000 0 1 1), (.bool false), (C 64064 0 1 1)])], 1002, 64128, B853, (.tuple ⟨[(A [(S [50, 48]), (S [49])]), (I 0)]⟩), 1013, B854, [], []⟩
def B856 : List (Nat × List Value) := [(64000, [(.int .u64 (.ofNat 80)), (.int .u64 (.ofNat 0))])]
def B857 : List (Nat × List Value) := [(64256, [(I 1)]), (64128, [(U 0), (U 56), (U 48)]), (64192, [(C 64128 0 3 3)]), (64000, [(.int .u64 (.ofNat 80)), (.int .u64 (.ofNat 0))]), (64064, [(C 64000 0 1 1), (.bool false)])]
def Q858 : KC := ⟨69, [(A [(C 64000 0 1 1), (.bool false)])], 1001, 64064, B856, (S [56, 48]), 1005, B857, [], []⟩
def B859 : List (Nat × List Value) := [(64000, [(.int .u64 (.ofNat 80)), (.int .u64 (.ofNat 0))]), (64064, [(.int .u64 (.ofNat 1)), (.int .u64 (.ofNat 0))])]
def B860 : List (Nat × List Value) := [(64064, [(.int .u64 (.ofNat 1)), (.int .u64 (.ofNat 0))]), (64000, [(.int .u64 (.ofNat 80)), (.int .u64 (.ofNat 0))])]
def Q861 : KC := ⟨40, [(A [(C 64000 0 1 1), (.bool false), (C 64064 0 1 1)])], 1002, 64128, B859, (.tuple ⟨[(A [(S [56, 48]), (S [49])]), (I 0)]⟩), 1013, B860, [], []⟩
def B862 : List (Nat × List Value) := [(64000, [(.int .u64 (.ofNat 20)), (.int .u64 (.ofNat 0))]), (64064, [(.int .u64 (.ofNat 1)), (.int .u64 (.ofNat 0))]), (64128, [(.int .u64 (.ofNat 80)), (.int .u64 (.ofNat 0))]), (64192, [(.int .u64 (.ofNat 1)), (.int .u64 (.ofNat 0))]), (64256, [(C 64000 0 1 1), (.bool false), (C 64064 0 1 1), (C 64128 0 1 1), (.bool false), (C 64192 0 1 1)])]
def B863 : List (Nat × List Value) := [(64192, [(.int .u64 (.ofNat 1)), (.int .u64 (.ofNat 0))]), (64128, [(.int .u64 (.ofNat 80)), (.int .u64 (.ofNat 0))]), (64064, [(.int .u64 (.ofNat 1)), (.int .u64 (.ofNat 0))]), (64000, [(.int .u64 (.ofNat 20)), (.int .u64 (.ofNat 0))]), (64320, [(S [50, 48]), (S [49]), (S [56, 48]), (S [49])]), (64256, [(C 64000 0 1 1), (.bool false), (C 64064 0 1 1), (C 64128 0 1 1), (.bool false), (C 64192 0 1 1)])]
def Q864 : KC := ⟨175, [(C 64256 0 2 2)], 1005, 64320, B862, (.tuple ⟨[(C 64320 0 2 2), (I 0)]⟩), 1032, B863, [], []⟩
def B865 : List (Nat × List Value) := [(64000, [(S [49]), (S [49]), (S [48]), (S [49])]), (64064, [(S [49]), (S [49]), (S [49]), (S [50])]), (64128, [(S [49]), (S [49]), (S [49]), (S [49])]), (64193, [(C 64000 0 2 2), (C 64064 0 2 2), (C 64128 0 2 2)]), (64256, [(S [48]), (S [49]), (S [54, 48]), (S [49]), (S [49, 48, 48]), (S [49])]), (64322, [(S [48]), (S [49]), (S [49]), (S [49]), (S [49]), (S [49])])]
def Q866 : KC := ⟨145, [(C 64193 0 3 3), (C 64256 0 3 3), (C 64322 0 3 3)], 1006, 64384, B865, (.tuple ⟨[(C 148032 0 2 2), (I 0)]⟩), 2340, ([(148032, [(S [50, 48]), (S [49]), (S [56, 48]), (S [49])]), (64322, [(S [48]), (S [49]), (S [49]), (S [49]), (S [49]), (S [49])]), (64256, [(S [48]), (S [49]), (S [54, 48]), (S [49]), (S [49, 48, 48]), (S [49])])] ++ B356), [], []⟩
def B867 : List (Nat × List Value) := [(64000, [(.int .u64 (.ofNat 1))]), (64064, [(.int .u64 (.ofNat 1))]), (64128, [(.int .u64 (.ofNat 1))]), (64192, [(.slice none 0 0), (.bool false), (C 64000 0 1 1), (.slice none 0 0), (.bool false), (C 64064 0 1 1), (.slice none 0 0), (.bool false), (C 64128 0 1 1)])]
def B868 : List (Nat × List Value) := [(64128, [(.int .u64 (.ofNat 1))]), (64064, [(.int .u64 (.ofNat 1))]), (64000, [(.int .u64 (.ofNat 1))]), (64256, [(S [48]), (S [49]), (S [48]), (S [49]), (S [48]), (S [49])]), (64192, [(.slice none 0 0), (.bool false), (C 64000 0 1 1), (.slice none 0 0), (.bool false), (C 64064 0 1 1), (.slice none 0 0), (.bool false), (C 64128 0 1 1)])]
def Q869 : KC := ⟨120, [(C 64192 0 3 3)], 1004, 64256, B867, (C 64256 0 3 3), 1038, B868, [], []⟩
def Q870 : KC := ⟨146, [(C 64192 0 3 3), (I 1)], 1004, 64256, B216, (C 66048 0 3 3), 1066, ([(66048, [(S [48]), (S [49]), (S [48]), (S [49]), (S [48]), (S [49])])] ++ B216), [], []⟩
def L27 : List (Sum (FuncId × List Value × Value) KC) := [.inr Q837,
  .inr Q840,
  .inr Q843,
  .inl (98, [(.int .u64 (.ofNat 80)), (.int .u64 (.ofNat 1))], (.tuple ⟨[(.int .u64 (.ofNat 0)), (.int .u64 (.ofNat 80))]⟩)),
  .inr Q846,
  .inr Q849,
  .inr Q852,
  .inr Q855,
  .inr Q858,
  .inr Q861,
  .inr Q864,
  .inr Q866,
  .inr Q869,
  .inr Q870]
def T27 : Tab := pushT T26 L27
def B871 : List (Nat × List Value) := [(64000, [(S [48]), (S [49]), (S [48]), (S [49]), (S [48]), (S [49])]), (64066, [(S [48]), (S [49]), (S [49]), (S [49]), (S [49]), (S [49])]), (64128, [(C 64000 0 3 3), (C 64066 0 3 3)])]
def B872 : List (Nat × List Value) := [(64000, [(S [48]), (S [49]), (S [48]), (S [49]), (S [48]), (S [49])]), (64066, [(S [48]), (S [49]), (S [49]), (S [49]), (S [49]), (S [49])]), (64128, [(C 64000 0 3 3), (C 64066 0 3 3)])]
def Q873 : KC := ⟨186, [(C 64128 0 2 2)], 1003, 64192, B871, (I 0), 1021, B872, [], []⟩
def B874 : List (Nat × List Value) := [(64000, [(S [48]), (S [49]), (S [48]), (S [49]), (S [48]), (S [49])])]
def B875 : List (Nat × List Value) := [(66496, [(.int .u64 (.ofNat 1))]), (66176, [(.int .u64 (.ofNat 0))]), (65600, [(.int .u64 (.ofNat 1))]), (65280, [(.int .u64 (.ofNat 0))]), (64704, [(.int .u64 (.ofNat 1))]), (64384, [(.int .u64 (.ofNat 0))]), (64064, [(C 64384 0 0 0), (.bool false), (C 64704 0 1 1), (C 65280 0 0 0), (.bool false), (C 65600 0 1 1), (C 66176 0 0 0), (.bool false), (C 66496 0 1 1)]), (64000, [(S [48]), (S [49]), (S [48]), (S [49]), (S [48]), (S [49])])]
def Q876 : KC := ⟨170, [(C 64000 0 3 3)], 1001, 64064, B874, (C 64064 0 3 3), 1044, B875, [], []⟩
def B877 : List (Nat × List Value) := [(64000, [(.int .u64 (.ofNat 1))]), (64064, [(.int .u64 (.ofNat 1))]), (64128, [(.int .u64 (.ofNat 0))]), (64192, [(.int .u64 (.ofNat 1))]), (64256, [(.int .u64 (.ofNat 0))]), (64320, [(.int .u64 (.ofNat 1))]), (64387, [(C 64000 0 1 1), (.bool false), (C 64064 0 1 1), (C 64128 0 0 0), (.bool false), (C 64192 0 1 1), (C 64256 0 0 0), (.bool false), (C 64320 0 1 1)]), (64448, [(.int .u64 (.ofNat 1))]), (64512, [(.int .u64 (.ofNat 1))]), (64576, [(.int .u64 (.ofNat 1))]), (64640, [(.int .u64 (.ofNat 2))]), (64704, [(.int .u64 (.ofNat 0))]), (64768, [(.int .u64 (.ofNat 1))]), (64835, [(C 64448 0 1 1), (.bool false), (C 64512 0 1 1), (C 64576 0 1 1), (.bool false), (C 64640 0 1 1), (C 64704 0 0 0), (.bool false), (C 64768 0 1 1)]), (64896, [(.int .u64 (.ofNat 1))]), (64960, [(.int .u64 (.ofNat 1))]), (65024, [(.int .u64 (.ofNat 1))]), (65088, [(.int .u64 (.ofNat 1))]), (65152, [(.int .u64 (.ofNat 0))]), (65216, [(.int .u64 (.ofNat 1))]), (65283, [(C 64896 0 1 1), (.bool false), (C 64960 0 1 1), (C 65024 0 1 1), (.bool false), (C 65088 0 1 1), (C 65152 0 0 0), (.bool false), (C 65216 0 1 1)]), (65344, [(C 64387 0 3 3), (C 64835 0 3 3), (C 65283 0 3 3)])]
def B878 : List (Nat × List Value) := [(76545, [(C 70784 0 3 3), (C 72512 0 3 3), (C 74688 0 3 3)]), (76416, [(.int .u64 (.ofNat 1)), (.int .u64 (.ofNat 0))]), (65216, [(.int .u64 (.ofNat 1))]), (70592, [(.int .u64 (.ofNat 1)), (.int .u64 (.ofNat 0))]), (65152, [(.int .u64 (.ofNat 0))]), (70336, [(.int .u64 (.ofNat 1)), (.int .u64 (.ofNat 0))]), (75968, [(.int .u64 (.ofNat 1)), (.int .u64 (.ofNat 0))]), (65088, [(.int .u64 (.ofNat 1))]), (68800, [(.int .u64 (.ofNat 1)), (.int .u64 (.ofNat 0))]), (75904, [(.int .u64 (.ofNat 2)), (.int .u64 (.ofNat 0))]), (65024, [(.int .u64 (.ofNat 1))]), (68544, [(.int .u64 (.ofNat 2)), (.int .u64 (.ofNat 0))]), (75328, [(.int .u64 (.ofNat 1)), (.int .u64 (.ofNat 0))]), (67008, [(.int .u64 (.ofNat 1)), (.int .u64 (.ofNat 0))]), (75264, [(.int .u64 (.ofNat 1)), (.int .u64 (.ofNat 0))]), (66752, [(.int .u64 (.ofNat 1)), (.int .u64 (.ofNat 0))]), (74688, [(C 75264 0 1 1), (.bool false), (C 75328 0 1 1), (C 75904 0 1 1), (.bool false), (C 75968 0 1 1), (.slice none 0 0), (.bool false), (C 76416 0 1 1)]), (70723, [(C 66752 0 1 1), (.bool false), (C 67008 0 1 1), (C 68544 0 1 1), (.bool false), (C 68800 0 1 1), (C 70336 0 1 1), (.bool false), (C 70592 0 1 1)]), (64960, [(.int .u64 (.ofNat 1))]), (64896, [(.int .u64 (.ofNat 1))]), (74496, [(.int .u64 (.ofNat 1)), (.int .u64 (.ofNat 0))]), (64768, [(.int .u64 (.ofNat 1))]), (64704, [(.int .u64 (.ofNat 0))]), (74048, [(.int .u64 (.ofNat 1)), (.int .u64 (.ofNat 0))]), (73984, [(.int .u64 (.ofNat 1)), (.int .u64 (.ofNat 0))]), (73152, [(.int .u64 (.ofNat 1)), (.int .u64 (.ofNat 0))]), (73088, [(.int .u64 (.ofNat 1)), (.int .u64 (.ofNat 0))]), (72512, [(C 73088 0 1 1), (.bool false), (C 73152 0 1 1), (C 73984 0 1 1), (.bool false), (C 74048 0 1 1), (.slice none 0 0), (.bool false), (C 74496 0 1 1)]), (64576, [(.int .u64 (.ofNat 1))]), (64640, [(.int .u64 (.ofNat 2))]), (64512, [(.int .u64 (.ofNat 1))]), (64448, [(.int .u64 (.ofNat 1))]), (72320, [(.int .u64 (.ofNat 1)), (.int .u64 (.ofNat 0))]), (64320, [(.int .u64 (.ofNat 1))]), (64256, [(.int .u64 (.ofNat 0))]), (71872, [(.int .u64 (.ofNat 1)), (.int .u64 (.ofNat 0))]), (71424, [(.int .u64 (.ofNat 1)), (.int .u64 (.ofNat 0))]), (71360, [(.int .u64 (.ofNat 1)), (.int .u64 (.ofNat 0))]), (70784, [(C 71360 0 1 1), (.bool false), (C 71424 0 1 1), (.slice none 0 0), (.bool false), (C 71872 0 1 1), (.slice none 0 0), (.bool false), (C 72320 0 1 1)]), (64192, [(.int .u64 (.ofNat 1))]), (64128, [(.int .u64 (.ofNat 0))]), (64064, [(.int .u64 (.ofNat 1))]), (64000, [(.int .u64 (.ofNat 1))]), (64387, [(C 64000 0 1 1), (.bool false), (C 64064 0 1 1), (C 64128 0 0 0), (.bool false), (C 64192 0 1 1), (C 64256 0 0 0), (.bool false), (C 64320 0 1 1)]), (64835, [(C 64448 0 1 1), (.bool false), (C 64512 0 1 1), (C 64576 0 1 1), (.bool false), (C 64640 0 1 1), (C 64704 0 0 0), (.bool false), (C 64768 0 1 1)]), (65283, [(C 64896 0 1 1), (.bool false), (C 64960 0 1 1), (C 65024 0 1 1), (.bool false), (C 65088 0 1 1), (C 65152 0 0 0), (.bool false), (C 65216 0 1 1)]), (65344, [(C 64387 0 3 3), (C 64835 0 3 3), (C 65283 0 3 3)])]
def Q879 : KC := ⟨171, [(C 65344 0 3 3)], 1022, 65408, B877, (.tuple ⟨[(C 76545 0 3 3), (C 70723 0 3 3)]⟩), 1197, B878, [], []⟩
def L28 : List (Sum (FuncId × List Value × Value) KC) := [.inr Q873,
  .inr Q876,
  .inr Q879]
def T28 : Tab := pushT T27 L28
def B880 : List (Nat × List Value) := [(64000, [(.int .u64 (.ofNat 0))]), (64064, [(.int .u64 (.ofNat 1))]), (64128, [(.int .u64 (.ofNat 1))]), (64192, [(.int .u64 (.ofNat 1))]), (64256, [(.int .u64 (.ofNat 1))]), (64320, [(.int .u64 (.ofNat 1))]), (64384, [(C 64000 0 0 0), (.bool false), (C 64064 0 1 1), (C 64128 0 1 1), (.bool false), (C 64192 0 1 1), (C 64256 0 1 1), (.bool false), (C 64320 0 1 1)]), (64448, [(C 64384 0 3 3)]), (64512, [(.int .u64 (.ofNat 1)), (.int .u64 (.ofNat 0))]), (64576, [(.int .u64 (.ofNat 1)), (.int .u64 (.ofNat 0))]), (64640, [(.int .u64 (.ofNat 1)), (.int .u64 (.ofNat 0))]), (64704, [(.int .u64 (.ofNat 1)), (.int .u64 (.ofNat 0))]), (64768, [(C 64512 0 1 1), (.bool false), (C 64576 0 1 1), (.slice none 0 0), (.bool false), (C 64640 0 1 1), (.slice none 0 0), (.bool false), (C 64704 0 1 1)]), (64832, [(.int .u64 (.ofNat 1)), (.int .u64 (.ofNat 0))]), (64896, [(.int .u64 (.ofNat 1)), (.int .u64 (.ofNat 0))]), (64960, [(.int .u64 (.ofNat 1)), (.int .u64 (.ofNat 0))]), (65024, [(.int .u64 (.ofNat 1)), (.int .u64 (.ofNat 0))]), (65088, [(.int .u64 (.ofNat 1)), (.int .u64 (.ofNat 0))]), (65152, [(C 64832 0 1 1), (.bool false), (C 64896 0 1 1), (C 64960 0 1 1), (.bool false), (C 65024 0 1 1), (.slice none 0 0), (.bool false), (C 65088 0 1 1)]), (65216, [(.int .u64 (.ofNat 1)), (.int .u64 (.ofNat 0))]), (65280, [(.int .u64 (.ofNat 1)), (.int .u64 (.ofNat 0))]), (65344, [(.int .u64 (.ofNat 2)), (.int .u64 (.ofNat 0))]), (65408, [(.int .u64 (.ofNat 1)), (.int .u64 (.ofNat 0))]), (65472, [(.int .u64 (.ofNat 1)), (.int .u64 (.ofNat 0))]), (65536, [(C 65216 0 1 1), (.bool false), (C 65280 0 1 1), (C 65344 0 1 1), (.bool false), (C 65408 0 1 1), (.slice none 0 0), (.bool false), (C 65472 0 1 1)]), (65601, [(C 64768 0 3 3), (C 65152 0 3 3), (C 65536 0 3 3)]), (65664, [(C 65601 0 3 3)]), (65728, [(I 0)]), (65792, [(I 0)])]
def B881 : List (Nat × List Value) := [(72384, [(.int .u64 (.ofNat 1)), (.int .u64 (.ofNat 0))]), (72192, [(.int .u64 (.ofNat 2)), (.int .u64 (.ofNat 0))]), (64320, [(.int .u64 (.ofNat 1))]), (64256, [(.int .u64 (.ofNat 1))]), (65280, [(.int .u64 (.ofNat 1)), (.int .u64 (.ofNat 0))]), (65216, [(.int .u64 (.ofNat 1)), (.int .u64 (.ofNat 0))]), (64000, [(.int .u64 (.ofNat 0))]), (64064, [(.int .u64 (.ofNat 1))]), (64128, [(.int .u64 (.ofNat 1))]), (64192, [(.int .u64 (.ofNat 1))]), (64384, [(C 64000 0 0 0), (.bool false), (C 64064 0 1 1), (C 64128 0 1 1), (.bool false), (C 64192 0 1 1), (C 64256 0 1 1), (.bool false), (C 64320 0 1 1)]), (64448, [(C 64384 0 3 3)]), (64512, [(.int .u64 (.ofNat 1)), (.int .u64 (.ofNat 0))]), (64576, [(.int .u64 (.ofNat 1)), (.int .u64 (.ofNat 0))]), (64640, [(.int .u64 (.ofNat 1)), (.int .u64 (.ofNat 0))]), (64704, [(.int .u64 (.ofNat 1)), (.int .u64 (.ofNat 0))]), (64768, [(C 64512 0 1 1), (.bool false), (C 64576 0 1 1), (.slice none 0 0), (.bool false), (C 64640 0 1 1), (.slice none 0 0), (.bool false), (C 64704 0 1 1)]), (64832, [(.int .u64 (.ofNat 1)), (.int .u64 (.ofNat 0))]), (64896, [(.int .u64 (.ofNat 1)), (.int .u64 (.ofNat 0))]), (64960, [(.int .u64 (.ofNat 1)), (.int .u64 (.ofNat 0))]), (65024, [(.int .u64 (.ofNat 1)), (.int .u64 (.ofNat 0))]), (65088, [(.int .u64 (.ofNat 1)), (.int .u64 (.ofNat 0))]), (65152, [(C 64832 0 1 1), (.bool false), (C 64896 0 1 1), (C 64960 0 1 1), (.bool false), (C 65024 0 1 1), (.slice none 0 0), (.bool false), (C 65088 0 1 1)]), (65344, [(.int .u64 (.ofNat 2)), (.int .u64 (.ofNat 0))]), (65408, [(.int .u64 (.ofNat 1)), (.int .u64 (.ofNat 0))]), (65472, [(.int .u64 (.ofNat 1)), (.int .u64 (.ofNat 0))]), (65536, [(C 65216 0 1 1), (.bool false), (C 65280 0 1 1), (C 65344 0 1 1), (.bool false), (C 65408 0 1 1), (.slice none 0 0), (.bool false), (C 65472 0 1 1)]), (65601, [(C 64768 0 3 3), (C 65152 0 3 3), (C 65536 0 3 3)]), (65664, [(C 65601 0 3 3)]), (65728, [(I 0)]), (65792, [(I 0)])]
def Q882 : KC := ⟨190, [(I 3), (.func (.func 191) ⟨[]⟩ ⟨[(Z 64448 0), (Z 65664 0), (Z 65728 0), (Z 65792 0)]⟩), (.func (.func 38) ⟨[]⟩ ⟨[]⟩)], 1029, 65856, B880, (A [(C 72192 0 1 1), (.bool false), (C 72384 0 1 1)]), 1132, B881, [], []⟩
def B883 : List (Nat × List Value) := [(64000, [(.int .u64 (.ofNat 0))]), (64064, [(.int .u64 (.ofNat 1))]), (64128, [(.int .u64 (.ofNat 1))]), (64192, [(.int .u64 (.ofNat 1))]), (64256, [(.int .u64 (.ofNat 1))]), (64320, [(.int .u64 (.ofNat 1))]), (64384, [(C 64000 0 0 0), (.bool false), (C 64064 0 1 1), (C 64128 0 1 1), (.bool false), (C 64192 0 1 1), (C 64256 0 1 1), (.bool false), (C 64320 0 1 1)]), (64448, [(C 64384 0 3 3)]), (64512, [(.int .u64 (.ofNat 1)), (.int .u64 (.ofNat 0))]), (64576, [(.int .u64 (.ofNat 1)), (.int .u64 (.ofNat 0))]), (64640, [(.int .u64 (.ofNat 1)), (.int .u64 (.ofNat 0))]), (64704, [(.int .u64 (.ofNat 1)), (.int .u64 (.ofNat 0))]), (64768, [(C 64512 0 1 1), (.bool false), (C 64576 0 1 1), (.slice none 0 0), (.bool false), (C 64640 0 1 1), (.slice none 0 0), (.bool false), (C 64704 0 1 1)]), (64832, [(.int .u64 (.ofNat 1)), (.int .u64 (.ofNat 0))]), (64896, [(.int .u64 (.ofNat 1)), (.int .u64 (.ofNat 0))]), (64960, [(.int .u64 (.ofNat 1)), (.int .u64 (.ofNat 0))]), (65024, [(.int .u64 (.ofNat 1)), (.int .u64 (.ofNat 0))]), (65088, [(.int .u64 (.ofNat 1)), (.int .u64 (.ofNat 0))]), (65152, [(C 64832 0 1 1), (.bool false), (C 64896 0 1 1), (C 64960 0 1 1), (.bool false), (C 65024 0 1 1), (.slice none 0 0), (.bool false), (C 65088 0 1 1)]), (65216, [(.int .u64 (.ofNat 1)), (.int .u64 (.ofNat 0))]), (65280, [(.int .u64 (.ofNat 1)), (.int .u64 (.ofNat 0))]), (65344, [(.int .u64 (.ofNat 2)), (.int .u64 (.ofNat 0))]), (65408, [(.int .u64 (.ofNat 1)), (.int .u64 (.ofNat 0))]), (65472, [(.int .u64 (.ofNat 1)), (.int .u64 (.ofNat 0))]), (65536, [(C 65216 0 1 1), (.bool false), (C 65280 0 1 1), (C 65344 0 1 1), (.bool false), (C 65408 0 1 1), (.slice none 0 0), (.bool false), (C 65472 0 1 1)]), (65601, [(C 64768 0 3 3), (C 65152 0 3 3), (C 65536 0 3 3)]), (65664, [(C 65601 0 3 3)]), (65728, [(I 0)]), (65792, [(I 1)])]
def B884 : List (Nat × List Value) := [(72064, [(.int .u64 (.ofNat 1)), (.int .u64 (.ofNat 0))]), (71872, [(.int .u64 (.ofNat 3)), (.int .u64 (.ofNat 0))]), (64320, [(.int .u64 (.ofNat 1))]), (64256, [(.int .u64 (.ofNat 1))]), (65280, [(.int .u64 (.ofNat 1)), (.int .u64 (.ofNat 0))]), (65408, [(.int .u64 (.ofNat 1)), (.int .u64 (.ofNat 0))]), (65216, [(.int .u64 (.ofNat 1)), (.int .u64 (.ofNat 0))]), (65344, [(.int .u64 (.ofNat 2)), (.int .u64 (.ofNat 0))]), (64000, [(.int .u64 (.ofNat 0))]), (64064, [(.int .u64 (.ofNat 1))]), (64128, [(.int .u64 (.ofNat 1))]), (64192, [(.int .u64 (.ofNat 1))]), (64384, [(C 64000 0 0 0), (.bool false), (C 64064 0 1 1), (C 64128 0 1 1), (.bool false), (C 64192 0 1 1), (C 64256 0 1 1), (.bool false), (C 64320 0 1 1)]), (64448, [(C 64384 0 3 3)]), (64512, [(.int .u64 (.ofNat 1)), (.int .u64 (.ofNat 0))]), (64576, [(.int .u64 (.ofNat 1)), (.int .u64 (.ofNat 0))]), (64640, [(.int .u64 (.ofNat 1)), (.int .u64 (.ofNat 0))]), (64704, [(.int .u64 (.ofNat 1)), (.int .u64 (.ofNat 0))]), (64768, [(C 64512 0 1 1), (.bool false), (C 64576 0 1 1), (.slice none 0 0), (.bool false), (C 64640 0 1 1), (.slice none 0 0), (.bool false), (C 64704 0 1 1)]), (64832, [(.int .u64 (.ofNat 1)), (.int .u64 (.ofNat 0))]), (64896, [(.int .u64 (.ofNat 1)), (.int .u64 (.ofNat 0))]), (64960, [(.int .u64 (.ofNat 1)), (.int .u64 (.ofNat 0))]), (65024, [(.int .u64 (.ofNat 1)), (.int .u64 (.ofNat 0))]), (65088, [(.int .u64 (.ofNat 1)), (.int .u64 (.ofNat 0))]), (65152, [(C 64832 0 1 1), (.bool false), (C 64896 0 1 1), (C 64960 0 1 1), (.bool false), (C 65024 0 1 1), (.slice none 0 0), (.bool false), (C 65088 0 1 1)]), (65472, [(.int .u64 (.ofNat 1)), (.int .u64 (.ofNat 0))]), (65536, [(C 65216 0 1 1), (.bool false), (C 65280 0 1 1), (C 65344 0 1 1), (.bool false), (C 65408 0 1 1), (.slice none 0 0), (.bool false), (C 65472 0 1 1)]), (65601, [(C 64768 0 3 3), (C 65152 0 3 3), (C 65536 0 3 3)]), (65664, [(C 65601 0 3 3)]), (65728, [(I 0)]), (65792, [(I 1)])]
def Q885 : KC := ⟨190, [(I 3), (.func (.func 191) ⟨[]⟩ ⟨[(Z 64448 0), (Z 65664 0), (Z 65728 0), (Z 65792 0)]⟩), (.func (.func 38) ⟨[]⟩ ⟨[]⟩)], 1029, 65856, B883, (A [(C 71872 0 1 1), (.bool false), (C 72064 0 1 1)]), 1127, B884, [], []⟩
def B886 : List (Nat × List Value) := [(64000, [(.int .u64 (.ofNat 1))]), (64064, [(.int .u64 (.ofNat 1))]), (64128, [(.int .u64 (.ofNat 1)), (.int .u64 (.ofNat 0))])]
def B887 : List (Nat × List Value) := [(64512, [(.int .u64 (.ofNat 1)), (.int .u64 (.ofNat 0))]), (64064, [(.int .u64 (.ofNat 1))]), (64128, [(.int .u64 (.ofNat 1)), (.int .u64 (.ofNat 0))]), (64000, [(.int .u64 (.ofNat 1))]), (64448, [(.int .u64 (.ofNat 1)), (.int .u64 (.ofNat 0))]), (64384, [(.int .u64 (.ofNat 1))]), (64320, [(.slice none 0 0), (.bool false), (C 64512 0 1 1)]), (64256, [(.slice none 0 0), (.bool false), (C 64128 0 1 1)]), (64192, [(C 64000 0 1 1), (.bool false), (C 64064 0 1 1)])]
def Q888 : KC := ⟨67, [(A [(C 64000 0 1 1), (.bool false), (C 64064 0 1 1)]), (A [(.slice none 0 0), (.bool false), (C 64128 0 1 1)])], 1003, 64192, B886, (A [(.slice none 0 0), (.bool false), (C 64512 0 1 1)]), 1009, B887, [], []⟩
def B889 : List (Nat × List Value) := [(64000, [(.int .u64 (.ofNat 1)), (.int .u64 (.ofNat 0))]), (64064, [(.int .u64 (.ofNat 1)), (.int .u64 (.ofNat 0))])]
def B890 : List (Nat × List Value) := [(65792, [(.int .u64 (.ofNat 1)), (.int .u64 (.ofNat 0))]), (65600, [(.int .u64 (.ofNat 0)), (.int .u64 (.ofNat 0))]), (64000, [(.int .u64 (.ofNat 1)), (.int .u64 (.ofNat 0))]), (64064, [(.int .u64 (.ofNat 1)), (.int .u64 (.ofNat 0))])]
def Q891 : KC := ⟨38, [(A [(.slice none 0 0), (.bool false), (C 64000 0 1 1)]), (A [(.slice none 0 0), (.bool false), (C 64064 0 1 1)])], 1002, 64128, B889, (A [(C 65600 0 0 0), (.bool false), (C 65792 0 1 1)]), 1029, B890, [], []⟩
def B892 : List (Nat × List Value) := [(64000, [(.int .u64 (.ofNat 0)), (.int .u64 (.ofNat 0))]), (64064, [(.int .u64 (.ofNat 1)), (.int .u64 (.ofNat 0))]), (64128, [(.int .u64 (.ofNat 1)), (.int .u64 (.ofNat 0))])]
def B893 : List (Nat × List Value) := [(65856, [(.int .u64 (.ofNat 1)), (.int .u64 (.ofNat 0))]), (65664, [(.int .u64 (.ofNat 0)), (.int .u64 (.ofNat 0))]), (64064, [(.int .u64 (.ofNat 1)), (.int .u64 (.ofNat 0))]), (64000, [(.int .u64 (.ofNat 0)), (.int .u64 (.ofNat 0))]), (64128, [(.int .u64 (.ofNat 1)), (.int .u64 (.ofNat 0))])]
def Q894 : KC := ⟨38, [(A [(C 64000 0 0 0), (.bool false), (C 64064 0 1 1)]), (A [(.slice none 0 0), (.bool false), (C 64128 0 1 1)])], 1003, 64192, B892, (A [(C 65664 0 0 0), (.bool false), (C 65856 0 1 1)]), 1030, B893, [], []⟩
def B895 : List (Nat × List Value) := [(64000, [(.int .u64 (.ofNat 0))]), (64064, [(.int .u64 (.ofNat 1))]), (64128, [(.int .u64 (.ofNat 1))]), (64192, [(.int .u64 (.ofNat 1))]), (64256, [(.int .u64 (.ofNat 1))]), (64320, [(.int .u64 (.ofNat 1))]), (64384, [(C 64000 0 0 0), (.bool false), (C 64064 0 1 1), (C 64128 0 1 1), (.bool false), (C 64192 0 1 1), (C 64256 0 1 1), (.bool false), (C 64320 0 1 1)]), (64448, [(C 64384 0 3 3)]), (64512, [(.int .u64 (.ofNat 1)), (.int .u64 (.ofNat 0))]), (64576, [(.int .u64 (.ofNat 1)), (.int .u64 (.ofNat 0))]), (64640, [(.int .u64 (.ofNat 1)), (.int .u64 (.ofNat 0))]), (64704, [(.int .u64 (.ofNat 1)), (.int .u64 (.ofNat 0))]), (64768, [(C 64512 0 1 1), (.bool false), (C 64576 0 1 1), (.slice none 0 0), (.bool false), (C 64640 0 1 1), (.slice none 0 0), (.bool false), (C 64704 0 1 1)]), (64832, [(.int .u64 (.ofNat 1)), (.int .u64 (.ofNat 0))]), (64896, [(.int .u64 (.ofNat 1)), (.int .u64 (.ofNat 0))]), (64960, [(.int .u64 (.ofNat 1)), (.int .u64 (.ofNat 0))]), (65024, [(.int .u64 (.ofNat 1)), (.int .u64 (.ofNat 0))]), (65088, [(.int .u64 (.ofNat 1)), (.int .u64 (.ofNat 0))]), (65152, [(C 64832 0 1 1), (.bool false), (C 64896 0 1 1), (C 64960 0 1 1), (.bool false), (C 65024 0 1 1), (.slice none 0 0), (.bool false), (C 65088 0 1 1)]), (65216, [(.int .u64 (.ofNat 1)), (.int .u64 (.ofNat 0))]), (65280, [(.int .u64 (.ofNat 1)), (.int .u64 (.ofNat 0))]), (65344, [(.int .u64 (.ofNat 2)), (.int .u64 (.ofNat 0))]), (65408, [(.int .u64 (.ofNat 1)), (.int .u64 (.ofNat 0))]), (65472, [(.int .u64 (.ofNat 1)), (.int .u64 (.ofNat 0))]), (65536, [(C 65216 0 1 1), (.bool false), (C 65280 0 1 1), (C 65344 0 1 1), (.bool false), (C 65408 0 1 1), (.slice none 0 0), (.bool false), (C 65472 0 1 1)]), (65601, [(C 64768 0 3 3), (C 65152 0 3 3), (C 65536 0 3 3)]), (65664, [(C 65601 0 3 3)]), (65728, [(I 0)]), (65792, [(I 2)])]
def B896 : List (Nat × List Value) := [(71744, [(.int .u64 (.ofNat 1)), (.int .u64 (.ofNat 0))]), (71552, [(.int .u64 (.ofNat 0)), (.int .u64 (.ofNat 0))]), (64320, [(.int .u64 (.ofNat 1))]), (64256, [(.int .u64 (.ofNat 1))]), (65280, [(.int .u64 (.ofNat 1)), (.int .u64 (.ofNat 0))]), (65472, [(.int .u64 (.ofNat 1)), (.int .u64 (.ofNat 0))]), (65216, [(.int .u64 (.ofNat 1)), (.int .u64 (.ofNat 0))]), (64000, [(.int .u64 (.ofNat 0))]), (64064, [(.int .u64 (.ofNat 1))]), (64128, [(.int .u64 (.ofNat 1))]), (64192, [(.int .u64 (.ofNat 1))]), (64384, [(C 64000 0 0 0), (.bool false), (C 64064 0 1 1), (C 64128 0 1 1), (.bool false), (C 64192 0 1 1), (C 64256 0 1 1), (.bool false), (C 64320 0 1 1)]), (64448, [(C 64384 0 3 3)]), (64512, [(.int .u64 (.ofNat 1)), (.int .u64 (.ofNat 0))]), (64576, [(.int .u64 (.ofNat 1)), (.int .u64 (.ofNat 0))]), (64640, [(.int .u64 (.ofNat 1)), (.int .u64 (.ofNat 0))]), (64704, [(.int .u64 (.ofNat 1)), (.int .u64 (.ofNat 0))]), (64768, [(C 64512 0 1 1), (.bool false), (C 64576 0 1 1), (.slice none 0 0), (.bool false), (C 64640 0 1 1), (.slice none 0 0), (.bool false), (C 64704 0 1 1)]), (64832, [(.int .u64 (.ofNat 1)), (.int .u64 (.ofNat 0))]), (64896, [(.int .u64 (.ofNat 1)), (.int .u64 (.ofNat 0))]), (64960, [(.int .u64 (.ofNat 1)), (.int .u64 (.ofNat 0))]), (65024, [(.int .u64 (.ofNat 1)), (.int .u64 (.ofNat 0))]), (65088, [(.int .u64 (.ofNat 1)), (.int .u64 (.ofNat 0))]), (65152, [(C 64832 0 1 1), (.bool false), (C 64896 0 1 1), (C 64960 0 1 1), (.bool false), (C 65024 0 1 1), (.slice none 0 0), (.bool false), (C 65088 0 1 1)]), (65344, [(.int .u64 (.ofNat 2)), (.int .u64 (.ofNat 0))]), (65408, [(.int .u64 (.ofNat 1)), (.int .u64 (.ofNat 0))]), (65536, [(C 65216 0 1 1), (.bool false), (C 65280 0 1 1), (C 65344 0 1 1), (.bool false), (C 65408 0 1 1), (.slice none 0 0), (.bool false), (C 65472 0 1 1)]), (65601, [(C 64768 0 3 3), (C 65152 0 3 3), (C 65536 0 3 3)]), (65664, [(C 65601 0 3 3)]), (65728, [(I 0)]), (65792, [(I 2)])]
def Q897 : KC := ⟨190, [(I 3), (.func (.func 191) ⟨[]⟩ ⟨[(Z 64448 0), (Z 65664 0), (Z 65728 0), (Z 65792 0)]⟩), (.func (.func 38) ⟨[]⟩ ⟨[]⟩)], 1029, 65856, B895, (A [(C 71552 0 0 0), (.bool false), (C 71744 0 1 1)]), 1122, B896, [], []⟩
def B898 : List (Nat × List Value) := [(64000, [(.int .u64 (.ofNat 0))]), (64064, [(.int .u64 (.ofNat 1))]), (64128, [(.int .u64 (.ofNat 1))]), (64192, [(.int .u64 (.ofNat 1))]), (64256, [(.int .u64 (.ofNat 1))]), (64320, [(.int .u64 (.ofNat 1))]), (64384, [(C 64000 0 0 0), (.bool false), (C 64064 0 1 1), (C 64128 0 1 1), (.bool false), (C 64192 0 1 1), (C 64256 0 1 1), (.bool false), (C 64320 0 1 1)]), (64448, [(C 64384 0 3 3)]), (64512, [(.int .u64 (.ofNat 1)), (.int .u64 (.ofNat 0))]), (64576, [(.int .u64 (.ofNat 1)), (.int .u64 (.ofNat 0))]), (64640, [(.int .u64 (.ofNat 1)), (.int .u64 (.ofNat 0))]), (64704, [(.int .u64 (.ofNat 1)), (.int .u64 (.ofNat 0))]), (64768, [(C 64512 0 1 1), (.bool false), (C 64576 0 1 1), (.slice none 0 0), (.bool false), (C 64640 0 1 1), (.slice none 0 0), (.bool false), (C 64704 0 1 1)]), (64832, [(.int .u64 (.ofNat 1)), (.int .u64 (.ofNat 0))]), (64896, [(.int .u64 (.ofNat 1)), (.int .u64 (.ofNat 0))]), (64960, [(.int .u64 (.ofNat 1)), (.int .u64 (.ofNat 0))]), (65024, [(.int .u64 (.ofNat 1)), (.int .u64 (.ofNat 0))]), (65088, [(.int .u64 (.ofNat 1)), (.int .u64 (.ofNat 0))]), (65152, [(C 64832 0 1 1), (.bool false), (C 64896 0 1 1), (C 64960 0 1 1), (.bool false), (C 65024 0 1 1), (.slice none 0 0), (.bool false), (C 65088 0 1 1)]), (65216, [(.int .u64 (.ofNat 1)), (.int .u64 (.ofNat 0))]), (65280, [(.int .u64 (.ofNat 1)), (.int .u64 (.ofNat 0))]), (65344, [(.int .u64 (.ofNat 2)), (.int .u64 (.ofNat 0))]), (65408, [(.int .u64 (.ofNat 1)), (.int .u64 (.ofNat 0))]), (65472, [(.int .u64 (.ofNat 1)), (.int .u64 (.ofNat 0))]), (65536, [(C 65216 0 1 1), (.bool false), (C 65280 0 1 1), (C 65344 0 1 1), (.bool false), (C 65408 0 1 1), (.slice none 0 0), (.bool false), (C 65472 0 1 1)]), (65601, [(C 64768 0 3 3), (C 65152 0 3 3), (C 65536 0 3 3)]), (65664, [(C 65601 0 3 3)]), (65728, [(I 1)]), (65792, [(I 1)])]
def B899 : List (Nat × List Value) := [(71936, [(.int .u64 (.ofNat 1)), (.int .u64 (.ofNat 0))]), (71744, [(.int .u64 (.ofNat 5)), (.int .u64 (.ofNat 0))]), (64320, [(.int .u64 (.ofNat 1))]), (64256, [(.int .u64 (.ofNat 1))]), (65408, [(.int .u64 (.ofNat 1)), (.int .u64 (.ofNat 0))]), (65344, [(.int .u64 (.ofNat 2)), (.int .u64 (.ofNat 0))]), (64000, [(.int .u64 (.ofNat 0))]), (64064, [(.int .u64 (.ofNat 1))]), (64128, [(.int .u64 (.ofNat 1))]), (64192, [(.int .u64 (.ofNat 1))]), (64384, [(C 64000 0 0 0), (.bool false), (C 64064 0 1 1), (C 64128 0 1 1), (.bool false), (C 64192 0 1 1), (C 64256 0 1 1), (.bool false), (C 64320 0 1 1)]), (64448, [(C 64384 0 3 3)]), (64512, [(.int .u64 (.ofNat 1)), (.int .u64 (.ofNat 0))]), (64576, [(.int .u64 (.ofNat 1)), (.int .u64 (.ofNat 0))]), (64640, [(.int .u64 (.ofNat 1)), (.int .u64 (.ofNat 0))]), (64704, [(.int .u64 (.ofNat 1)), (.int .u64 (.ofNat 0))]), (64768, [(C 64512 0 1 1), (.bool false), (C 64576 0 1 1), (.slice none 0 0), (.bool false), (C 64640 0 1 1), (.slice none 0 0), (.bool false), (C 64704 0 1 1)]), (64832, [(.int .u64 (.ofNat 1)), (.int .u64 (.ofNat 0))]), (64896, [(.int .u64 (.ofNat 1)), (.int .u64 (.ofNat 0))]), (64960, [(.int .u64 (.ofNat 1)), (.int .u64 (.ofNat 0))]), (65024, [(.int .u64 (.ofNat 1)), (.int .u64 (.ofNat 0))]), (65088, [(.int .u64 (.ofNat 1)), (.int .u64 (.ofNat 0))]), (65152, [(C 64832 0 1 1), (.bool false), (C 64896 0 1 1), (C 64960 0 1 1), (.bool false), (C 65024 0 1 1), (.slice none 0 0), (.bool false), (C 65088 0 1 1)]), (65216, [(.int .u64 (.ofNat 1)), (.int .u64 (.ofNat 0))]), (65280, [(.int .u64 (.ofNat 1)), (.int .u64 (.ofNat 0))]), (65472, [(.int .u64 (.ofNat 1)), (.int .u64 (.ofNat 0))]), (65536, [(C 65216 0 1 1), (.bool false), (C 65280 0 1 1), (C 65344 0 1 1), (.bool false), (C 65408 0 1 1), (.slice none 0 0), (.bool false), (C 65472 0 1 1)]), (65601, [(C 64768 0 3 3), (C 65152 0 3 3), (C 65536 0 3 3)]), (65664, [(C 65601 0 3 3)]), (65728, [(I 1)]), (65792, [(I 1)])]
def Q900 : KC := ⟨190, [(I 3), (.func (.func 191) ⟨[]⟩ ⟨[(Z 64448 0), (Z 65664 0), (Z 65728 0), (Z 65792 0)]⟩), (.func (.func 38) ⟨[]⟩ ⟨[]⟩)], 1029, 65856, B898, (A [(C 71744 0 1 1), (.bool false), (C 71936 0 1 1)]), 1125, B899, [], []⟩
def B901 : List (Nat × List Value) := [(64000, [(.int .u64 (.ofNat 2)), (.int .u64 (.ofNat 0))]), (64064, [(.int .u64 (.ofNat 1)), (.int .u64 (.ofNat 0))]), (64128, [(.int .u64 (.ofNat 1)), (.int .u64 (.ofNat 0))])]
def B902 : List (Nat × List Value) := [(64512, [(.int .u64 (.ofNat 1)), (.int .u64 (.ofNat 0))]), (64064, [(.int .u64 (.ofNat 1)), (.int .u64 (.ofNat 0))]), (64128, [(.int .u64 (.ofNat 1)), (.int .u64 (.ofNat 0))]), (64000, [(.int .u64 (.ofNat 2)), (.int .u64 (.ofNat 0))]), (64448, [(.int .u64 (.ofNat 1)), (.int .u64 (.ofNat 0))]), (64384, [(.int .u64 (.ofNat 2))]), (64320, [(.slice none 0 0), (.bool false), (C 64512 0 1 1)]), (64256, [(.slice none 0 0), (.bool false), (C 64128 0 1 1)]), (64192, [(C 64000 0 1 1), (.bool false), (C 64064 0 1 1)])]
def Q903 : KC := ⟨67, [(A [(C 64000 0 1 1), (.bool false), (C 64064 0 1 1)]), (A [(.slice none 0 0), (.bool false), (C 64128 0 1 1)])], 1003, 64192, B901, (A [(.slice none 0 0), (.bool false), (C 64512 0 1 1)]), 1009, B902, [], []⟩
def B904 : List (Nat × List Value) := [(64000, [(.int .u64 (.ofNat 0))]), (64064, [(.int .u64 (.ofNat 1))]), (64128, [(.int .u64 (.ofNat 1))]), (64192, [(.int .u64 (.ofNat 1))]), (64256, [(.int .u64 (.ofNat 1))]), (64320, [(.int .u64 (.ofNat 1))]), (64384, [(C 64000 0 0 0), (.bool false), (C 64064 0 1 1), (C 64128 0 1 1), (.bool false), (C 64192 0 1 1), (C 64256 0 1 1), (.bool false), (C 64320 0 1 1)]), (64448, [(C 64384 0 3 3)]), (64512, [(.int .u64 (.ofNat 1)), (.int .u64 (.ofNat 0))]), (64576, [(.int .u64 (.ofNat 1)), (.int .u64 (.ofNat 0))]), (64640, [(.int .u64 (.ofNat 1)), (.int .u64 (.ofNat 0))]), (64704, [(.int .u64 (.ofNat 1)), (.int .u64 (.ofNat 0))]), (64768, [(C 64512 0 1 1), (.bool false), (C 64576 0 1 1), (.slice none 0 0), (.bool false), (C 64640 0 1 1), (.slice none 0 0), (.bool false), (C 64704 0 1 1)]), (64832, [(.int .u64 (.ofNat 1)), (.int .u64 (.ofNat 0))]), (64896, [(.int .u64 (.ofNat 1)), (.int .u64 (.ofNat 0))]), (64960, [(.int .u64 (.ofNat 1)), (.int .u64 (.ofNat 0))]), (65024, [(.int .u64 (.ofNat 1)), (.int .u64 (.ofNat 0))]), (65088, [(.int .u64 (.ofNat 1)), (.int .u64 (.ofNat 0))]), (65152, [(C 64832 0 1 1), (.bool false), (C 64896 0 1 1), (C 64960 0 1 1), (.bool false), (C 65024 0 1 1), (.slice none 0 0), (.bool false), (C 65088 0 1 1)]), (65216, [(.int .u64 (.ofNat 1)), (.int .u64 (.ofNat 0))]), (65280, [(.int .u64 (.ofNat 1)), (.int .u64 (.ofNat 0))]), (65344, [(.int .u64 (.ofNat 2)), (.int .u64 (.ofNat 0))]), (65408, [(.int .u64 (.ofNat 1)), (.int .u64 (.ofNat 0))]), (65472, [(.int .u64 (.ofNat 1)), (.int .u64 (.ofNat 0))]), (65536, [(C 65216 0 1 1), (.bool false), (C 65280 0 1 1), (C 65344 0 1 1), (.bool false), (C 65408 0 1 1), (.slice none 0 0), (.bool false), (C 65472 0 1 1)]), (65601, [(C 64768 0 3 3), (C 65152 0 3 3), (C 65536 0 3 3)]), (65664, [(C 65601 0 3 3)]), (65728, [(I 1)]), (65792, [(I 2)])]
def B905 : List (Nat × List Value) := [(71616, [(.int .u64 (.ofNat 1)), (.int .u64 (.ofNat 0))]), (71424, [(.int .u64 (.ofNat 0)), (.int .u64 (.ofNat 0))]), (64320, [(.int .u64 (.ofNat 1))]), (64256, [(.int .u64 (.ofNat 1))]), (65408, [(.int .u64 (.ofNat 1)), (.int .u64 (.ofNat 0))]), (65472, [(.int .u64 (.ofNat 1)), (.int .u64 (.ofNat 0))]), (65344, [(.int .u64 (.ofNat 2)), (.int .u64 (.ofNat 0))]), (64000, [(.int .u64 (.ofNat 0))]), (64064, [(.int .u64 (.ofNat 1))]), (64128, [(.int .u64 (.ofNat 1))]), (64192, [(.int .u64 (.ofNat 1))]), (64384, [(C 64000 0 0 0), (.bool false), (C 64064 0 1 1), (C 64128 0 1 1), (.bool false), (C 64192 0 1 1), (C 64256 0 1 1), (.bool false), (C 64320 0 1 1)]), (64448, [(C 64384 0 3 3)]), (64512, [(.int .u64 (.ofNat 1)), (.int .u64 (.ofNat 0))]), (64576, [(.int .u64 (.ofNat 1)), (.int .u64 (.ofNat 0))]), (64640, [(.int .u64 (.ofNat 1)), (.int .u64 (.ofNat 0))]), (64704, [(.int .u64 (.ofNat 1)), (.int .u64 (.ofNat 0))]), (64768, [(C 64512 0 1 1), (.bool false), (C 64576 0 1 1), (.slice none 0 0), (.bool false), (C 64640 0 1 1), (.slice none 0 0), (.bool false), (C 64704 0 1 1)]), (64832, [(.int .u64 (.ofNat 1)), (.int .u64 (.ofNat 0))]), (64896, [(.int .u64 (.ofNat 1)), (.int .u64 (.ofNat 0))]), (64960, [(.int .u64 (.ofNat 1)), (.int .u64 (.ofNat 0))]), (65024, [(.int .u64 (.ofNat 1)), (.int .u64 (.ofNat 0))]), (65088, [(.int .u64 (.ofNat 1)), (.int .u64 (.ofNat 0))]), (65152, [(C 64832 0 1 1), (.bool false), (C 64896 0 1 1), (C 64960 0 1 1), (.bool false), (C 65024 0 1 1), (.slice none 0 0), (.bool false), (C 65088 0 1 1)]), (65216, [(.int .u64 (.ofNat 1)), (.int .u64 (.ofNat 0))]), (65280, [(.int .u64 (.ofNat 1)), (.int .u64 (.ofNat 0))]), (65536, [(C 65216 0 1 1), (.bool false), (C 65280 0 1 1), (C 65344 0 1 1), (.bool false), (C 65408 0 1 1), (.slice none 0 0), (.bool false), (C 65472 0 1 1)]), (65601, [(C 64768 0 3 3), (C 65152 0 3 3), (C 65536 0 3 3)]), (65664, [(C 65601 0 3 3)]), (65728, [(I 1)]), (65792, [(I 2)])]
def Q906 : KC := ⟨190, [(I 3), (.func (.func 191) ⟨[]⟩ ⟨[(Z 64448 0), (Z 65664 0), (Z 65728 0), (Z 65792 0)]⟩), (.func (.func 38) ⟨[]⟩ ⟨[]⟩)], 1029, 65856, B904, (A [(C 71424 0 0 0), (.bool false), (C 71616 0 1 1)]), 1120, B905, [], []⟩
def L29 : List (Sum (FuncId × List Value × Value) KC) := [.inr Q882,
  .inr Q885,
  .inr Q888,
  .inr Q891,
  .inr Q894,
  .inr Q897,
  .inr Q900,
  .inr Q903,
  .inr Q906]
def T29 : Tab := pushT T28 L29
end Ev
end Go.Proofs.YtccjmmdppjialaaGreatDoor
