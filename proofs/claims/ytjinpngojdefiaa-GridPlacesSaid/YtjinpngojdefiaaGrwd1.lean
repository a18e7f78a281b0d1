/- wakes: the closed calls that it makes, and some calls in a state of memory, with what each gives: lists, nothing proved. -/
import Derived.Test.YtjinpngojdefiaaProg
import Derived.Test.YtjinpngojdefiaaEvM
import Derived.KernelRfl
namespace Go.Proofs.Ytjinpngojdefiaa
open Go.RowKit
namespace Ev
set_option maxHeartbeats 4000000
def S (l : List Nat) : Value := .string ⟨⟨l.map UInt8.ofNat⟩⟩
def I (n : Nat) : Value := .int .i64 (.ofNat n)
def U (n : Nat) : Value := .int .u8 (.ofNat n)
def W (n : Nat) : Value := .int .u64 (.ofNat n)
def A (l : List Value) : Value := .agg ⟨l⟩
def C (b o n c : Nat) : Value := .slice (some ⟨b, o, none⟩) n c
def Z (b o : Nat) : Value := .pointer (some ⟨b, o, none⟩)
def G0 : List (Nat × List Value) := []
def gq (i : Nat) : Nat × List Value := (i, (look G0 i).getD [])
def T0 : Tab := (Tab.mk .e .e)
def B1 : List (Nat × List Value) := [(64000, [(I 2), (I 3)]), (64064, [(I 0), (I 1), (I 2), (I 3), (I 4), (I 5), (I 6), (I 7), (I 8), (I 9), (I 10), (I 11)]), (64128, [(I 0), (I 1)])]
def B2 : List (Nat × List Value) := [(65089, [(I 2), (I 3)]), (64064, [(I 0), (I 1), (I 2), (I 3), (I 4), (I 5), (I 6), (I 7), (I 8), (I 9), (I 10), (I 11)]), (64000, [(I 2), (I 3)]), (64128, [(I 0), (I 1)])]
def Q3 : KC := ⟨43, [(A [(C 64000 0 2 2), (I 2), (C 64064 0 12 12)]), (C 64128 0 2 2), (.func (.func 44) ⟨[]⟩ ⟨[]⟩)], 1003, 64192, B1, (.tuple ⟨[(C 65089 0 2 2), (I 0)]⟩), 1018, B2, [], []⟩
def B4 : List (Nat × List Value) := [(64000, [(I 2), (I 3)]), (64064, [(I 0), (I 1), (I 2), (I 3), (I 4), (I 5), (I 6), (I 7), (I 8), (I 9), (I 10), (I 11)])]
def B5 : List (Nat × List Value) := [(66241, [(I 10), (I 11)]), (66113, [(I 0), (I 1)]), (64000, [(I 2), (I 3)]), (64064, [(I 0), (I 1), (I 2), (I 3), (I 4), (I 5), (I 6), (I 7), (I 8), (I 9), (I 10), (I 11)])]
def Q6 : KC := ⟨12, [(A [(C 64000 0 2 2), (I 2), (C 64064 0 12 12)])], 1002, 64128, B4, (.tuple ⟨[(C 66113 0 2 2), (C 66241 0 2 2), (I 0)]⟩), 1036, B5, [], []⟩
def B7 : List (Nat × List Value) := [(64001, [(I 3), (I 2)]), (64064, [(I 2), (I 3)]), (64128, [(I 0), (I 1), (I 2), (I 3), (I 4), (I 5), (I 6), (I 7), (I 8), (I 9), (I 10), (I 11)]), (64192, [(I 1)]), (64256, [(I 0)])]
def B8 : List (Nat × List Value) := [(64064, [(I 2), (I 3)]), (64128, [(I 0), (I 1), (I 2), (I 3), (I 4), (I 5), (I 6), (I 7), (I 8), (I 9), (I 10), (I 11)]), (64192, [(I 1)]), (64256, [(I 0)]), (64576, [(I 0), (I 1), (I 6), (I 7), (I 2), (I 3), (I 8), (I 9), (I 4), (I 5), (I 10), (I 11)]), (64001, [(I 3), (I 2)])]
def Q9 : KC := ⟨46, [(C 64001 0 2 2), (I 2), (A [(C 64064 0 2 2), (I 2), (C 64128 0 12 12)]), (.func (.func 47) ⟨[]⟩ ⟨[(Z 64192 0), (Z 64256 0)]⟩)], 1005, 64320, B7, (A [(C 64001 0 2 2), (I 2), (C 64576 0 12 12)]), 1068, B8, [], []⟩
def L1 : List (Sum (FuncId × List Value × Value) KC) := [.inr Q3,
  .inr Q6,
  .inr Q9]
def T1 : Tab := pushT T0 L1
def B10 : List (Nat × List Value) := [(64000, [(I 2), (I 3)]), (64064, [(I 0), (I 1), (I 2), (I 3), (I 4), (I 5), (I 6), (I 7), (I 8), (I 9), (I 10), (I 11)]), (64128, [(I 1)])]
def B11 : List (Nat × List Value) := [(67905, [(I 2), (I 3)]), (64000, [(I 2), (I 3)]), (64448, [(I 1), (I 3), (I 5), (I 7), (I 9), (I 11)]), (64064, [(I 0), (I 1), (I 2), (I 3), (I 4), (I 5), (I 6), (I 7), (I 8), (I 9), (I 10), (I 11)]), (64128, [(I 1)])]
def Q12 : KC := ⟨26, [(A [(C 64000 0 2 2), (I 2), (C 64064 0 12 12)]), (C 64128 0 1 1)], 1003, 64192, B10, (.tuple ⟨[(A [(C 67905 0 2 2), (I 1), (C 64448 0 6 6)]), (I 0)]⟩), 1062, B11, [], []⟩
def L2 : List (Sum (FuncId × List Value × Value) KC) := [.inr Q12]
def T2 : Tab := pushT T1 L2
end Ev
end Go.Proofs.Ytjinpngojdefiaa
