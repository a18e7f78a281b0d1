/- works: the closed calls that it makes, and some calls in a state of memory, with what each gives: lists, nothing proved. -/
import Derived.Test.YthdilefgacgbdaaGreatDoorProg
import Derived.Test.YthdilefgacgbdaaGreatDoorEvM
import Derived.KernelRfl
namespace Go.Proofs.YthdilefgacgbdaaGreatDoor
open Go.RowKit
namespace Ev
set_option maxHeartbeats 4000000
def S (l : List Nat) : Value := .string ⟨⟨l.map UInt8.ofNat⟩⟩
def I (n : Nat) : Value := .int .i64 (.ofNat n)
def U (n : Nat) : Value := .int .u8 (.ofNat n)
def A (l : List Value) : Value := .agg ⟨l⟩
def C (b o n c : Nat) : Value := .slice (some ⟨b, o, none⟩) n c
def Z (b o : Nat) : Value := .pointer (some ⟨b, o, none⟩)
def G0 : List (Nat × List Value) := [(256, [(.int .u8 (.ofNat 0)), (.int .u8 (.ofNat 1)), (.int .u8 (.ofNat 28)), (.int .u8 (.ofNat 2)), (.int .u8 (.ofNat 29)), (.int .u8 (.ofNat 14)), (.int .u8 (.ofNat 24)), (.int .u8 (.ofNat 3)), (.int .u8 (.ofNat 30)), (.int .u8 (.ofNat 22)), (.int .u8 (.ofNat 20)), (.int .u8 (.ofNat 15)), (.int .u8 (.ofNat 25)), (.int .u8 (.ofNat 17)), (.int .u8 (.ofNat 4)), (.int .u8 (.ofNat 8)), (.int .u8 (.ofNat 31)), (.int .u8 (.ofNat 27)), (.int .u8 (.ofNat 13)), (.int .u8 (.ofNat 23)), (.int .u8 (.ofNat 21)), (.int .u8 (.ofNat 19)), (.int .u8 (.ofNat 16)), (.int .u8 (.ofNat 7)), (.int .u8 (.ofNat 26)), (.int .u8 (.ofNat 12)), (.int .u8 (.ofNat 18)), (.int .u8 (.ofNat 6)), (.int .u8 (.ofNat 11)), (.int .u8 (.ofNat 5)), (.int .u8 (.ofNat 10)), (.int .u8 (.ofNat 9))]), (0, [(.int .u8 (.ofNat 0)), (.int .u8 (.ofNat 1)), (.int .u8 (.ofNat 56)), (.int .u8 (.ofNat 2)), (.int .u8 (.ofNat 57)), (.int .u8 (.ofNat 49)), (.int .u8 (.ofNat 28)), (.int .u8 (.ofNat 3)), (.int .u8 (.ofNat 61)), (.int .u8 (.ofNat 58)), (.int .u8 (.ofNat 42)), (.int .u8 (.ofNat 50)), (.int .u8 (.ofNat 38)), (.int .u8 (.ofNat 29)), (.int .u8 (.ofNat 17)), (.int .u8 (.ofNat 4)), (.int .u8 (.ofNat 62)), (.int .u8 (.ofNat 47)), (.int .u8 (.ofNat 59)), (.int .u8 (.ofNat 36)), (.int .u8 (.ofNat 45)), (.int .u8 (.ofNat 43)), (.int .u8 (.ofNat 51)), (.int .u8 (.ofNat 22)), (.int .u8 (.ofNat 53)), (.int .u8 (.ofNat 39)), (.int .u8 (.ofNat 33)), (.int .u8 (.ofNat 30)), (.int .u8 (.ofNat 24)), (.int .u8 (.ofNat 18)), (.int .u8 (.ofNat 12)), (.int .u8 (.ofNat 5)), (.int .u8 (.ofNat 63)), (.int .u8 (.ofNat 55)), (.int .u8 (.ofNat 48)), (.int .u8 (.ofNat 27)), (.int .u8 (.ofNat 60)), (.int .u8 (.ofNat 41)), (.int .u8 (.ofNat 37)), (.int .u8 (.ofNat 16)), (.int .u8 (.ofNat 46)), (.int .u8 (.ofNat 35)), (.int .u8 (.ofNat 44)), (.int .u8 (.ofNat 21)), (.int .u8 (.ofNat 52)), (.int .u8 (.ofNat 32)), (.int .u8 (.ofNat 23)), (.int .u8 (.ofNat 11)), (.int .u8 (.ofNat 54)), (.int .u8 (.ofNat 26)), (.int .u8 (.ofNat 40)), (.int .u8 (.ofNat 15)), (.int .u8 (.ofNat 34)), (.int .u8 (.ofNat 20)), (.int .u8 (.ofNat 31)), (.int .u8 (.ofNat 10)), (.int .u8 (.ofNat 25)), (.int .u8 (.ofNat 14)), (.int .u8 (.ofNat 19)), (.int .u8 (.ofNat 9)), (.int .u8 (.ofNat 13)), (.int .u8 (.ofNat 8)), (.int .u8 (.ofNat 7)), (.int .u8 (.ofNat 6))]), (192, [(.int .u64 (.ofNat 1)), (.int .u64 (.ofNat 10)), (.int .u64 (.ofNat 100)), (.int .u64 (.ofNat 1000)), (.int .u64 (.ofNat 10000)), (.int .u64 (.ofNat 100000)), (.int .u64 (.ofNat 1000000)), (.int .u64 (.ofNat 10000000)), (.int .u64 (.ofNat 100000000)), (.int .u64 (.ofNat 1000000000)), (.int .u64 (.ofNat 10000000000)), (.int .u64 (.ofNat 100000000000)), (.int .u64 (.ofNat 1000000000000)), (.int .u64 (.ofNat 10000000000000)), (.int .u64 (.ofNat 100000000000000)), (.int .u64 (.ofNat 1000000000000000)), (.int .u64 (.ofNat 10000000000000000)), (.int .u64 (.ofNat 100000000000000000)), (.int .u64 (.ofNat 1000000000000000000)), (.int .u64 (.ofNat 10000000000000000000))])]
def gq (i : Nat) : Nat × List Value := (i, (look G0 i).getD [])
def T0 : Tab := (Tab.mk .e .e)
def L1 : List (Sum (FuncId × List Value × Value) KC) := [.inl (21, [(A [(I 100), (I 100), (I 100), (I 100)]), (I 65535)], (.bool true)),
  .inl (23, [(A [(I 100), (I 100), (I 100), (I 100)])], (I 400)),
  .inl (26, [(A [(I 100), (I 100), (I 100), (I 100)]), (I 300)], (A [(I 66), (I 66), (I 66), (I 100)])),
  .inl (9, [(A [(I 100), (I 100), (I 100), (I 100)]), (I 400)], (.tuple ⟨[(A [(I 100), (I 100), (I 100), (I 100)]), (I 0)]⟩)),
  .inl (21, [(A [(I 10), (I 20), (I 30), (I 50)]), (I 65535)], (.bool true)),
  .inl (23, [(A [(I 10), (I 20), (I 30), (I 50)])], (I 110)),
  .inl (26, [(A [(I 10), (I 20), (I 30), (I 50)]), (I 40)], (A [(I 0), (I 0), (I 0), (I 40)])),
  .inl (21, [(A [(I 0), (I 0), (I 0), (I 9)]), (I 65535)], (.bool true)),
  .inl (23, [(A [(I 0), (I 0), (I 0), (I 9)])], (I 9)),
  .inl (26, [(A [(I 0), (I 0), (I 0), (I 9)]), (I 5)], (A [(I 0), (I 0), (I 0), (I 5)])),
  .inl (21, [(A [(I 5000), (I 6000), (I 7000), (I 0)]), (I 10000)], (.bool true)),
  .inl (30, [(A [(I 1), (.slice none 0 0), (.slice none 0 0), (I 10000)])], (I 0)),
  .inl (62, [(.int .u64 (.ofNat 5000)), (.int .u64 (.ofNat 10000))], (.int .u64 (.ofNat 5000))),
  .inl (64, [(A [(I 1), (I 2)])], (A [(S [49]), (S [50])])),
  .inl (42, [(I 5000), (I 10000)], (.tuple ⟨[(A [(S [49]), (S [50])]), (.bool true)]⟩)),
  .inl (64, [(A [(I 0), (I 1)])], (A [(S [48]), (S [49])])),
  .inl (42, [(I 0), (I 1)], (.tuple ⟨[(A [(S [48]), (S [49])]), (.bool true)]⟩)),
  .inl (62, [(.int .u64 (.ofNat 1)), (.int .u64 (.ofNat 1))], (.int .u64 (.ofNat 1))),
  .inl (64, [(A [(I 1), (I 1)])], (A [(S [49]), (S [49])])),
  .inl (42, [(I 1), (I 1)], (.tuple ⟨[(A [(S [49]), (S [49])]), (.bool true)]⟩)),
  .inl (87, [(S [49])], (.tuple ⟨[(I 1), (.bool true)]⟩)),
  .inl (87, [(S [50])], (.tuple ⟨[(I 2), (.bool true)]⟩)),
  .inl (62, [(.int .u64 (.ofNat 1)), (.int .u64 (.ofNat 2))], (.int .u64 (.ofNat 1))),
  .inl (54, [(A [(S [49]), (S [50])])], (.tuple ⟨[(A [(I 1), (I 2)]), (.bool true)]⟩)),
  .inl (87, [(S [48])], (.tuple ⟨[(I 0), (.bool true)]⟩)),
  .inl (54, [(A [(S [48]), (S [49])])], (.tuple ⟨[(A [(I 0), (I 1)]), (.bool true)]⟩)),
  .inl (54, [(A [(S [49]), (S [49])])], (.tuple ⟨[(A [(I 1), (I 1)]), (.bool true)]⟩)),
  .inl (130, [(.int .u64 (.ofNat 0)), (.int .u64 (.ofNat 1))], (.tuple ⟨[(.int .u64 (.ofNat 0)), (.int .u64 (.ofNat 0))]⟩)),
  .inl (130, [(.int .u64 (.ofNat 1)), (.int .u64 (.ofNat 1))], (.tuple ⟨[(.int .u64 (.ofNat 0)), (.int .u64 (.ofNat 1))]⟩)),
  .inl (125, [(A [(I 0), (I 1)]), (A [(I 1), (I 1)])], (.tuple ⟨[(.int .i64 (.negSucc 0)), (.bool true)]⟩)),
  .inl (84, [(A [(S [48]), (S [49])]), (A [(S [49]), (S [49])])], (.tuple ⟨[(.int .i64 (.negSucc 0)), (I 0)]⟩)),
  .inl (130, [(.int .u64 (.ofNat 0)), (.int .u64 (.ofNat 2))], (.tuple ⟨[(.int .u64 (.ofNat 0)), (.int .u64 (.ofNat 0))]⟩)),
  .inl (125, [(A [(I 1), (I 2)]), (A [(I 0), (I 1)])], (.tuple ⟨[(I 1), (.bool true)]⟩)),
  .inl (84, [(A [(S [49]), (S [50])]), (A [(S [48]), (S [49])])], (.tuple ⟨[(I 1), (I 0)]⟩)),
  .inl (130, [(.int .u64 (.ofNat 1)), (.int .u64 (.ofNat 2))], (.tuple ⟨[(.int .u64 (.ofNat 0)), (.int .u64 (.ofNat 2))]⟩)),
  .inl (125, [(A [(I 1), (I 2)]), (A [(I 1), (I 1)])], (.tuple ⟨[(.int .i64 (.negSucc 0)), (.bool true)]⟩)),
  .inl (84, [(A [(S [49]), (S [50])]), (A [(S [49]), (S [49])])], (.tuple ⟨[(.int .i64 (.negSucc 0)), (I 0)]⟩)),
  .inl (51, [(A [(S [49]), (S [50])]), (A [(S [48]), (S [49])]), (A [(S [49]), (S [49])])], (.tuple ⟨[(A [(S [49]), (S [50])]), (I 0)]⟩)),
  .inl (38, [(A [(I 1), (.slice none 0 0), (.slice none 0 0)]), (A [(S [49]), (S [50])])], (.tuple ⟨[(A [(S [49]), (S [50])]), (I 0)]⟩)),
  .inl (130, [(.int .u64 (.ofNat 1)), (.int .u64 (.ofNat 20000))], (.tuple ⟨[(.int .u64 (.ofNat 0)), (.int .u64 (.ofNat 20000))]⟩)),
  .inl (88, [(I 1), (I 20000)], (.tuple ⟨[(I 20000), (.bool true)]⟩)),
  .inl (55, [(A [(I 1), (I 2)]), (I 10000)], (.tuple ⟨[(I 5000), (.bool true)]⟩)),
  .inl (39, [(A [(S [49]), (S [50])]), (I 10000)], (.tuple ⟨[(I 5000), (I 0)]⟩)),
  .inl (31, [(A [(I 1), (.slice none 0 0), (.slice none 0 0)]), (I 5000)], (.tuple ⟨[(I 5000), (I 0)]⟩)),
  .inl (23, [(A [(I 0), (I 1000), (I 2000), (I 5000)])], (I 8000)),
  .inl (15, [(A [(I 5000), (I 6000), (I 7000)]), (A [(I 1), (.slice none 0 0), (.slice none 0 0), (I 10000)])], (.tuple ⟨[(A [(I 0), (I 1000), (I 2000), (I 5000)]), (I 0)]⟩)),
  .inl (21, [(A [(I 9000), (I 9000), (I 9000), (I 0)]), (I 10000)], (.bool true))]
def T1 : Tab := pushT T0 L1
def L2 : List (Sum (FuncId × List Value × Value) KC) := [.inl (62, [(.int .u64 (.ofNat 9000)), (.int .u64 (.ofNat 10000))], (.int .u64 (.ofNat 1000))),
  .inl (64, [(A [(I 9), (I 10)])], (A [(S [57]), (S [49, 48])])),
  .inl (42, [(I 9000), (I 10000)], (.tuple ⟨[(A [(S [57]), (S [49, 48])]), (.bool true)]⟩)),
  .inl (87, [(S [57])], (.tuple ⟨[(I 9), (.bool true)]⟩)),
  .inl (87, [(S [49, 48])], (.tuple ⟨[(I 10), (.bool true)]⟩)),
  .inl (62, [(.int .u64 (.ofNat 9)), (.int .u64 (.ofNat 10))], (.int .u64 (.ofNat 1))),
  .inl (54, [(A [(S [57]), (S [49, 48])])], (.tuple ⟨[(A [(I 9), (I 10)]), (.bool true)]⟩)),
  .inl (130, [(.int .u64 (.ofNat 9)), (.int .u64 (.ofNat 1))], (.tuple ⟨[(.int .u64 (.ofNat 0)), (.int .u64 (.ofNat 9))]⟩)),
  .inl (130, [(.int .u64 (.ofNat 0)), (.int .u64 (.ofNat 10))], (.tuple ⟨[(.int .u64 (.ofNat 0)), (.int .u64 (.ofNat 0))]⟩)),
  .inl (125, [(A [(I 9), (I 10)]), (A [(I 0), (I 1)])], (.tuple ⟨[(I 1), (.bool true)]⟩)),
  .inl (84, [(A [(S [57]), (S [49, 48])]), (A [(S [48]), (S [49])])], (.tuple ⟨[(I 1), (I 0)]⟩)),
  .inl (130, [(.int .u64 (.ofNat 1)), (.int .u64 (.ofNat 10))], (.tuple ⟨[(.int .u64 (.ofNat 0)), (.int .u64 (.ofNat 10))]⟩)),
  .inl (125, [(A [(I 9), (I 10)]), (A [(I 1), (I 1)])], (.tuple ⟨[(.int .i64 (.negSucc 0)), (.bool true)]⟩)),
  .inl (84, [(A [(S [57]), (S [49, 48])]), (A [(S [49]), (S [49])])], (.tuple ⟨[(.int .i64 (.negSucc 0)), (I 0)]⟩)),
  .inl (51, [(A [(S [57]), (S [49, 48])]), (A [(S [48]), (S [49])]), (A [(S [49]), (S [49])])], (.tuple ⟨[(A [(S [57]), (S [49, 48])]), (I 0)]⟩)),
  .inl (62, [(.int .u64 (.ofNat 9)), (.int .u64 (.ofNat 1))], (.int .u64 (.ofNat 1))),
  .inl (62, [(.int .u64 (.ofNat 1)), (.int .u64 (.ofNat 10))], (.int .u64 (.ofNat 1))),
  .inl (130, [(.int .u64 (.ofNat 10)), (.int .u64 (.ofNat 1))], (.tuple ⟨[(.int .u64 (.ofNat 0)), (.int .u64 (.ofNat 10))]⟩)),
  .inl (88, [(I 10), (I 1)], (.tuple ⟨[(I 10), (.bool true)]⟩)),
  .inl (107, [(A [(I 9), (I 10)]), (A [(I 1), (I 1)])], (.tuple ⟨[(A [(S [57]), (S [49, 48])]), (.bool true)]⟩)),
  .inl (69, [(A [(S [57]), (S [49, 48])]), (A [(S [49]), (S [49])])], (.tuple ⟨[(A [(S [57]), (S [49, 48])]), (I 0)]⟩)),
  .inl (147, [(I 0)], (S [48])),
  .inl (55, [(A [(I 0), (I 1)]), (I 1)], (.tuple ⟨[(I 0), (.bool true)]⟩)),
  .inl (39, [(A [(S [48]), (S [49])]), (I 1)], (.tuple ⟨[(I 0), (I 0)]⟩)),
  .inl (70, [(A [(S [57]), (S [49, 48])])], (I 0)),
  .inl (62, [(.int .u64 (.ofNat 10)), (.int .u64 (.ofNat 1))], (.int .u64 (.ofNat 1))),
  .inl (115, [(A [(I 9), (I 10)]), (A [(I 0), (I 1)])], (.tuple ⟨[(A [(S [57]), (S [49, 48])]), (.bool true)]⟩)),
  .inl (71, [(A [(S [57]), (S [49, 48])]), (A [(S [48]), (S [49])])], (.tuple ⟨[(A [(S [57]), (S [49, 48])]), (I 0)]⟩)),
  .inl (130, [(.int .u64 (.ofNat 0)), (.int .u64 (.ofNat 9))], (.tuple ⟨[(.int .u64 (.ofNat 0)), (.int .u64 (.ofNat 0))]⟩)),
  .inl (88, [(I 0), (I 9)], (.tuple ⟨[(I 0), (.bool true)]⟩)),
  .inl (107, [(A [(I 0), (I 1)]), (A [(I 9), (I 10)])], (.tuple ⟨[(A [(S [48]), (S [49])]), (.bool true)]⟩)),
  .inl (69, [(A [(S [48]), (S [49])]), (A [(S [57]), (S [49, 48])])], (.tuple ⟨[(A [(S [48]), (S [49])]), (I 0)]⟩)),
  .inl (115, [(A [(I 0), (I 1)]), (A [(I 0), (I 1)])], (.tuple ⟨[(A [(S [48]), (S [49])]), (.bool true)]⟩)),
  .inl (72, [(A [(S [48]), (S [49])]), (A [(S [48]), (S [49])])], (.tuple ⟨[(A [(S [48]), (S [49])]), (I 0)]⟩)),
  .inl (62, [(.int .u64 (.ofNat 65535)), (.int .u64 (.ofNat 1))], (.int .u64 (.ofNat 1))),
  .inl (171, [(.int .u64 (.ofNat 65535))], (I 5))]
def T2 : Tab := pushT T1 L2
def B1 : List (Nat × List Value) := [gq 256, gq 0, gq 192, (1792, [(I 0), (I 0)])]
def B2 : List (Nat × List Value) := [(6080, [(S [48]), (S [49])]), gq 256, gq 0, gq 192, (4032, [(S [48]), (S [49])]), (5568, [(S [48]), (S [49])]), (3904, [(I 2), (C 1792 0 2 2), (.slice none 0 0)]), (1792, [(I 0), (I 0)]), (5056, [(S [57]), (S [49, 48])]), (4544, [(S [57]), (S [49, 48])]), (3968, [(S [57]), (S [49, 48])])]
def Q3 : KC := ⟨46, [(A [(I 2), (C 1792 0 2 2), (.slice none 0 0)]), (A [(S [57]), (S [49, 48])])], 61, 3904, B1, (A [(S [48]), (S [49])]), 103, B2, [], []⟩
def B4 : List (Nat × List Value) := [(1792, [(I 0), (I 0)]), gq 256, gq 0, gq 192]
def B5 : List (Nat × List Value) := [gq 256, gq 0, gq 192, (1792, [(I 0), (I 0)]), (2304, [(I 2), (C 1792 0 2 2), (.slice none 0 0)]), (2240, [(I 2), (C 1792 0 2 2), (.slice none 0 0)]), (2176, [(I 2), (C 1792 0 2 2), (.slice none 0 0)]), (2112, [(I 2), (C 1792 0 2 2), (.slice none 0 0), (I 20000)]), (2048, [(I 9000), (I 9000), (I 9000), (I 0)]), (1984, [(I 6666), (I 6666), (I 6666), (I 0)]), (1920, [(I 2), (C 1792 0 2 2), (.slice none 0 0), (I 20000)]), (1856, [(I 9000), (I 9000), (I 9000)])]
def Q6 : KC := ⟨15, [(A [(I 9000), (I 9000), (I 9000)]), (A [(I 2), (C 1792 0 2 2), (.slice none 0 0), (I 20000)])], 29, 1856, B4, (.tuple ⟨[(A [(I 6666), (I 6666), (I 6666), (I 0)]), (I 0)]⟩), 105, B5, [], []⟩
def L3 : List (Sum (FuncId × List Value × Value) KC) := [.inl (159, [(I 65535), (I 10)], (S [54, 53, 53, 51, 53])),
  .inl (64, [(A [(I 65535), (I 1)])], (A [(S [54, 53, 53, 51, 53]), (S [49])])),
  .inl (42, [(I 65535), (I 1)], (.tuple ⟨[(A [(S [54, 53, 53, 51, 53]), (S [49])]), (.bool true)]⟩)),
  .inl (87, [(S [54, 53, 53, 51, 53])], (.tuple ⟨[(I 65535), (.bool true)]⟩)),
  .inl (54, [(A [(S [54, 53, 53, 51, 53]), (S [49])])], (.tuple ⟨[(A [(I 65535), (I 1)]), (.bool true)]⟩)),
  .inl (107, [(A [(I 0), (I 1)]), (A [(I 1), (I 65535)])], (.tuple ⟨[(A [(S [48]), (S [49])]), (.bool true)]⟩)),
  .inl (73, [(A [(S [48]), (S [49])]), (A [(S [54, 53, 53, 51, 53]), (S [49])])], (.tuple ⟨[(A [(S [48]), (S [49])]), (I 0)]⟩)),
  .inr Q3,
  .inl (130, [(.int .u64 (.ofNat 0)), (.int .u64 (.ofNat 20000))], (.tuple ⟨[(.int .u64 (.ofNat 0)), (.int .u64 (.ofNat 0))]⟩)),
  .inl (88, [(I 0), (I 20000)], (.tuple ⟨[(I 0), (.bool true)]⟩)),
  .inl (55, [(A [(I 0), (I 1)]), (I 10000)], (.tuple ⟨[(I 0), (.bool true)]⟩)),
  .inl (39, [(A [(S [48]), (S [49])]), (I 10000)], (.tuple ⟨[(I 0), (I 0)]⟩)),
  .inl (23, [(A [(I 9000), (I 9000), (I 9000), (I 0)])], (I 27000)),
  .inl (26, [(A [(I 9000), (I 9000), (I 9000), (I 0)]), (I 20000)], (A [(I 6666), (I 6666), (I 6666), (I 0)])),
  .inr Q6,
  .inl (21, [(A [(I 1), (I 1), (I 1), (I 1)]), (I 10000)], (.bool true)),
  .inl (11, [(A [(I 1), (I 1), (I 1), (I 1)]), (I 9999)], (.tuple ⟨[(A [(I 0), (I 0), (I 0), (I 0)]), (I 390)]⟩)),
  .inl (21, [(A [(.int .i64 (.negSucc 0)), (I 0), (I 0), (I 0)]), (I 10000)], (.bool false))]
def T3 : Tab := pushT T2 L3
end Ev
end Go.Proofs.YthdilefgacgbdaaGreatDoor
