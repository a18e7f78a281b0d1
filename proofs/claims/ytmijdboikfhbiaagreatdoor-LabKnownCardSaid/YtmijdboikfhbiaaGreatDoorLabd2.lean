/- LabKnown: more of these lists. -/
import Derived.Test.YtmijdboikfhbiaaGreatDoorLabd1
namespace Go.Proofs.YtmijdboikfhbiaaGreatDoor
open Go.RowKit
namespace Ev
set_option maxHeartbeats 4000000
def L113 : List (Sum (FuncId × List Value × Value) KC) := [.inl (77, [(S [45, 49])], (.tuple ⟨[(.int .i64 (.negSucc 0)), (I 0)]⟩)),
  .inl (57, [(A [(S [45, 49]), (S [49]), (S [49]), (S [49]), (S [49]), (S [49])]), (I 0)], (I 2)),
  .inl (57, [(A [(S [49]), (S [49]), (S [49]), (S [49]), (S [49]), (S [49])]), (I 0)], (I 0)),
  .inl (6, [(A [(S [49]), (S [49]), (S [49]), (S [49]), (S [49]), (S [49])]), (A [(S []), (S []), (S [45, 49]), (S [49]), (S [49]), (S [49])])], (.tuple ⟨[(A [(I 0), (I 0), (I 0), (I 0), (I 0), (I 0)]), (I 20)]⟩)),
  .inl (57, [(A [(S [49]), (S [49]), (S [49]), (S [49]), (S [48]), (S [49])]), (I 1)], (I 2)),
  .inl (26, [(A [(S [49]), (S [49]), (S [49]), (S [49]), (S [49]), (S [49])])], (I 0)),
  .inl (135, [(.int .u64 (.ofNat 2000000)), (.int .u64 (.ofNat 1))], (.int .u64 (.ofNat 1))),
  .inl (227, [(.int .u64 (.ofNat 2000000))], (I 7)),
  .inl (224, [(I 2000000), (I 10)], (S [50, 48, 48, 48, 48, 48, 48])),
  .inl (137, [(A [(I 2000000), (I 1)])], (A [(S [50, 48, 48, 48, 48, 48, 48]), (S [49])])),
  .inl (81, [(I 2000000), (I 1)], (.tuple ⟨[(A [(S [50, 48, 48, 48, 48, 48, 48]), (S [49])]), (.bool true)]⟩)),
  .inl (174, [(S [50, 48, 48, 48, 48, 48, 48])], (.tuple ⟨[(I 2000000), (.bool true)]⟩)),
  .inl (125, [(A [(S [50, 48, 48, 48, 48, 48, 48]), (S [49])])], (.tuple ⟨[(A [(I 2000000), (I 1)]), (.bool true)]⟩)),
  .inl (200, [(.int .u64 (.ofNat 2000000))], (I 7))]
def T113 : Tab := pushT T112 L113
def L114 : List (Sum (FuncId × List Value × Value) KC) := [.inl (77, [(S [50, 48, 48, 48, 48, 48, 48])], (.tuple ⟨[(I 1), (I 0)]⟩)),
  .inl (57, [(A [(S [50, 48, 48, 48, 48, 48, 48]), (S [49]), (S [49]), (S [49]), (S [49]), (S [49])]), (I 0)], (I 0)),
  .inl (142, [(.int .u64 (.ofNat 2000000)), (.int .u64 (.ofNat 1))], (.tuple ⟨[(.int .u64 (.ofNat 0)), (.int .u64 (.ofNat 2000000))]⟩)),
  .inl (178, [(I 2000000), (I 1)], (.tuple ⟨[(I 2000000), (.bool true)]⟩)),
  .inl (131, [(A [(I 2000000), (I 1)]), (A [(I 1), (I 1)])], (.tuple ⟨[(A [(S [50, 48, 48, 48, 48, 48, 48]), (S [49])]), (.bool true)]⟩)),
  .inl (65, [(A [(S [50, 48, 48, 48, 48, 48, 48]), (S [49])]), (A [(S [49]), (S [49])])], (.tuple ⟨[(A [(S [50, 48, 48, 48, 48, 48, 48]), (S [49])]), (I 0)]⟩)),
  .inl (142, [(.int .u64 (.ofNat 2000000)), (.int .u64 (.ofNat 24389))], (.tuple ⟨[(.int .u64 (.ofNat 0)), (.int .u64 (.ofNat 48778000000))]⟩)),
  .inl (162, [(A [(I 2000000), (I 1)]), (A [(I 216), (I 24389)])], (.tuple ⟨[(I 1), (.bool true)]⟩)),
  .inl (111, [(A [(S [50, 48, 48, 48, 48, 48, 48]), (S [49])]), (A [(S [50, 49, 54]), (S [50, 52, 51, 56, 57])])], (.tuple ⟨[(I 1), (I 0)]⟩)),
  .inl (142, [(.int .u64 (.ofNat 2000000)), (.int .u64 (.ofNat 2000000000000))], (.tuple ⟨[(.int .u64 (.ofNat 0)), (.int .u64 (.ofNat 4000000000000000000))]⟩)),
  .inl (178, [(I 2000000), (I 2000000000000)], (.tuple ⟨[(I 4000000000000000000), (.bool true)]⟩)),
  .inl (193, [(A [(I 2000000), (I 1)]), (I 1000000000000)], (.tuple ⟨[(I 2000000000000000000), (.bool true)]⟩)),
  .inl (147, [(A [(S [50, 48, 48, 48, 48, 48, 48]), (S [49])]), (I 1000000000000)], (.tuple ⟨[(I 2000000000000000000), (I 0)]⟩)),
  .inl (93, [(A [(S [50, 48, 48, 48, 48, 48, 48]), (S [49])])], (.tuple ⟨[(A [(I 0), (I 0)]), (I 6)]⟩)),
  .inl (6, [(A [(S [50, 48, 48, 48, 48, 48, 48]), (S [49]), (S [49]), (S [49]), (S [49]), (S [49])]), (A [(S [49]), (S [49]), (S [49]), (S [49]), (S [49]), (S [49])])], (.tuple ⟨[(A [(I 0), (I 0), (I 0), (I 0), (I 0), (I 0)]), (I 6)]⟩)),
  .inl (10, [(A [(I 1), (I 0), (I 0), (I 0), (I 0), (I 0)]), (A [(S []), (S []), (S [45, 49]), (S [49]), (S [49]), (S [49])])], (.tuple ⟨[(A [(I 0), (I 0), (I 0), (I 0), (I 0), (I 0)]), (I 30)]⟩)),
  .inl (39, [(A [(I 0), (I 0), (I 0), (I 0), (I 0), (I 0)])], (I 0)),
  .inl (10, [(A [(I 0), (I 0), (I 0), (I 0), (I 0), (I 0)]), (A [(S []), (S []), (S [45, 49]), (S [49]), (S [49]), (S [49])])], (.tuple ⟨[(A [(I 0), (I 0), (I 0), (I 0), (I 0), (I 0)]), (I 20)]⟩)),
  .inl (11, [(A [(I 1), (I 0), (I 0), (I 0), (I 0), (I 0)])], (.tuple ⟨[(A [(I 0), (I 0)]), (A [(I 0), (I 0), (I 0), (I 0)]), (I 30)]⟩)),
  .inl (39, [(A [(I 0), (I 0), (.int .i64 (.negSucc 0)), (I 1), (I 0), (I 0)])], (I 0))]
def T114 : Tab := pushT T113 L114
def B409 : List (Nat × List Value) := [(1600, [(.int .u64 (.ofNat 1)), (.int .u64 (.ofNat 0))]), gq 256, gq 128, gq 192]
def B410 : List (Nat × List Value) := [gq 256, gq 128, gq 192, (1792, [(.int .u64 (.ofNat 1)), (.int .u64 (.ofNat 0))]), (1728, [(.int .u64 (.ofNat 1)), (.int .u64 (.ofNat 0))]), (1664, [(.int .u64 (.ofNat 1)), (.int .u64 (.ofNat 0))]), (1600, [(.int .u64 (.ofNat 1)), (.int .u64 (.ofNat 0))])]
def Q411 : KC := ⟨98, [(C 1600 0 1 1), (I 2)], 26, 1664, B409, (C 1792 0 1 1), 29, B410, [], []⟩
def Q412 : KC := ⟨98, [(C 1600 0 1 1), (I 2)], 26, 1664, B409, (C 1792 0 1 1), 29, B410, [], []⟩
def L115 : List (Sum (FuncId × List Value × Value) KC) := [.inl (149, [(A [(.int .i64 (.negSucc 0)), (I 1)])], (.tuple ⟨[(A [(I 0), (I 1)]), (I 0)]⟩)),
  .inl (149, [(A [(I 0), (I 0)])], (.tuple ⟨[(A [(I 0), (I 0)]), (I 0)]⟩)),
  .inr Q411,
  .inr Q412]
def T115 : Tab := pushT T114 L115
def B413 : List (Nat × List Value) := [(2624, [(.int .u64 (.ofNat 2)), (.int .u64 (.ofNat 0))]), gq 256, gq 128, gq 192]
def B414 : List (Nat × List Value) := [gq 256, gq 128, gq 192, (2816, [(.int .u64 (.ofNat 4)), (.int .u64 (.ofNat 0))]), (2752, [(.int .u64 (.ofNat 4)), (.int .u64 (.ofNat 0))]), (2688, [(.int .u64 (.ofNat 1)), (.int .u64 (.ofNat 0))]), (2624, [(.int .u64 (.ofNat 2)), (.int .u64 (.ofNat 0))])]
def Q415 : KC := ⟨98, [(C 2624 0 1 1), (I 2)], 42, 320, B413, (C 2816 0 1 1), 45, B414, [], []⟩
def B416 : List (Nat × List Value) := [gq 256, gq 128, gq 192, (2560, [(.int .u64 (.ofNat 1)), (.int .u64 (.ofNat 0))])]
def B417 : List (Nat × List Value) := [gq 256, gq 128, gq 192, (3008, [(.int .u64 (.ofNat 1)), (.int .u64 (.ofNat 0))]), (2944, [(.int .u64 (.ofNat 1)), (.int .u64 (.ofNat 0))]), (2880, [(.int .u64 (.ofNat 1)), (.int .u64 (.ofNat 0))]), (2560, [(.int .u64 (.ofNat 1)), (.int .u64 (.ofNat 0))])]
def Q418 : KC := ⟨98, [(C 2560 0 1 1), (I 2)], 45, 320, B416, (C 3008 0 1 1), 48, B417, [], []⟩
def B419 : List (Nat × List Value) := [(2368, [(.int .u64 (.ofNat 1)), (.int .u64 (.ofNat 0))]), gq 256, gq 128, gq 192, (2176, [(.int .u64 (.ofNat 0))])]
def B420 : List (Nat × List Value) := [gq 256, gq 128, gq 192, (2560, [(.int .u64 (.ofNat 1)), (.int .u64 (.ofNat 0))]), (2176, [(.int .u64 (.ofNat 0))]), (3072, [(.int .u64 (.ofNat 0)), (.int .u64 (.ofNat 1))]), (2368, [(.int .u64 (.ofNat 1)), (.int .u64 (.ofNat 0))]), (2496, [(.int .u64 (.ofNat 1)), (.int .u64 (.ofNat 0))]), (2432, [(I 0), (I 1)])]
def Q421 : KC := ⟨99, [(C 2176 0 0 0), (C 2368 0 1 1), (.func (.func 100) ⟨[]⟩ ⟨[]⟩)], 38, 320, B419, (.tuple ⟨[(A [(I 0), (I 1)]), (I 0)]⟩), 49, B420, [], []⟩
def L116 : List (Sum (FuncId × List Value × Value) KC) := [.inr Q415,
  .inr Q418,
  .inr Q421]
def T116 : Tab := pushT T115 L116
def B422 : List (Nat × List Value) := [(768, [(.int .i64 (.negSucc 0)), (I 1), (I 0), (I 0)]), gq 256, gq 128, gq 192]
def B423 : List (Nat × List Value) := [gq 256, gq 128, gq 192, (2176, [(.int .u64 (.ofNat 0))]), (2368, [(.int .u64 (.ofNat 1)), (.int .u64 (.ofNat 0))]), (1856, [(.int .u64 (.ofNat 1)), (.int .u64 (.ofNat 0))]), (2240, [(.int .u64 (.ofNat 0)), (.int .u64 (.ofNat 0))]), (1984, [(I 0), (I 0)]), (1024, [(C 2368 0 1 1)]), (1536, [(.int .u64 (.ofNat 0))]), (2048, [(.int .u64 (.ofNat 0)), (.int .u64 (.ofNat 0))]), (960, [(C 2176 0 0 0)]), (1920, [(I 0), (I 0)]), (1792, [(.int .u64 (.ofNat 1)), (.int .u64 (.ofNat 0))]), (1600, [(.int .u64 (.ofNat 1)), (.int .u64 (.ofNat 0))]), (1344, [(I 0), (I 1)]), (1408, [(.int .u64 (.ofNat 0)), (.int .u64 (.ofNat 0))]), (1280, [(.int .i64 (.negSucc 0)), (I 1)]), (1088, [(C 768 0 2 2)]), (768, [(.int .i64 (.negSucc 0)), (I 1), (I 0), (I 0)]), (896, [(I 0)]), (832, [(I 0), (I 1)])]
def Q424 : KC := ⟨48, [(C 768 0 2 2)], 13, 320, B422, (.tuple ⟨[(A [(I 0), (I 1)]), (I 0)]⟩), 49, B423, [], []⟩
def L117 : List (Sum (FuncId × List Value × Value) KC) := [.inr Q424,
  .inl (11, [(A [(I 0), (I 0), (.int .i64 (.negSucc 0)), (I 1), (I 0), (I 0)])], (.tuple ⟨[(A [(I 0), (I 0)]), (A [(I 0), (I 0), (I 0), (I 0)]), (I 7)]⟩)),
  .inl (39, [(A [(I 0), (I 0), (I 5), (I 5), (I 0), (I 0)])], (I 0)),
  .inl (149, [(A [(I 5), (I 5)])], (.tuple ⟨[(A [(I 5), (I 5)]), (I 0)]⟩)),
  .inl (142, [(.int .u64 (.ofNat 5)), (.int .u64 (.ofNat 1000000000000))], (.tuple ⟨[(.int .u64 (.ofNat 0)), (.int .u64 (.ofNat 5000000000000))]⟩)),
  .inl (90, [(I 5), (I 1000000000000), (I 5)], (A [(.int .u64 (.ofNat 1000000000000)), (.bool false), (.bool false), (.bool true)]))]
def T117 : Tab := pushT T116 L117
def B425 : List (Nat × List Value) := [(448, [(I 1000000000000)]), (384, [(.int .i64 (.negSucc 999999999999))]), (320, [(I 1000000000000), (I 1000000000000)]), gq 256, gq 128, gq 192]
def B426 : List (Nat × List Value) := [(1152, [(I 1000000000000)]), gq 256, gq 128, gq 192, (1088, [(.int .i64 (.negSucc 999999999999))]), (1024, [(I 1000000000000)]), (960, [(.int .i64 (.negSucc 999999999999))]), (832, [(I 1000000000000), (I 1000000000000)]), (448, [(I 1000000000000)]), (384, [(.int .i64 (.negSucc 999999999999))]), (320, [(I 1000000000000), (I 1000000000000)])]
def Q427 : KC := ⟨103, [(Z 384 0), (Z 448 0), (Z 320 0)], 13, 320, B425, (.tuple ⟨[(A [(I 1000000000000), (I 1000000000000)]), (I 0)]⟩), 22, B426, [], []⟩
def L118 : List (Sum (FuncId × List Value × Value) KC) := [.inl (87, [(A [(I 5), (I 5), (I 5), (I 5), (I 5), (I 5), (I 5), (I 5)]), (.func (.func 108) ⟨[]⟩ ⟨[]⟩)], (.tuple ⟨[(A [(I 1000000000000), (I 1000000000000)]), (I 0)]⟩)),
  .inl (51, [(A [(I 5), (I 5)]), (A [(I 5), (I 5)])], (.tuple ⟨[(A [(I 1000000000000), (I 1000000000000)]), (I 0)]⟩)),
  .inr Q427,
  .inl (50, [(A [(I 1000000000000), (I 1000000000000)]), (.int .i64 (.negSucc 999999999999)), (I 1000000000000)], (.tuple ⟨[(A [(I 1000000000000), (I 1000000000000)]), (I 0)]⟩)),
  .inl (90, [(I 0), (I 1000000000000), (I 5)], (A [(.int .u64 (.ofNat 0)), (.bool false), (.bool false), (.bool true)])),
  .inl (87, [(A [(I 0), (I 5), (I 0), (I 5), (I 0), (I 5), (I 0), (I 5)]), (.func (.func 108) ⟨[]⟩ ⟨[]⟩)], (.tuple ⟨[(A [(I 0), (I 0)]), (I 0)]⟩)),
  .inl (51, [(A [(I 0), (I 0)]), (A [(I 5), (I 5)])], (.tuple ⟨[(A [(I 0), (I 0)]), (I 0)]⟩))]
def T118 : Tab := pushT T117 L118
def B428 : List (Nat × List Value) := [(448, [(I 1000000000000)]), (384, [(.int .i64 (.negSucc 999999999999))]), (320, [(I 0), (I 0)]), gq 256, gq 128, gq 192]
def B429 : List (Nat × List Value) := [(1152, [(I 1000000000000)]), gq 256, gq 128, gq 192, (1088, [(.int .i64 (.negSucc 999999999999))]), (1024, [(I 1000000000000)]), (960, [(.int .i64 (.negSucc 999999999999))]), (832, [(I 0), (I 0)]), (448, [(I 1000000000000)]), (384, [(.int .i64 (.negSucc 999999999999))]), (320, [(I 0), (I 0)])]
def Q430 : KC := ⟨103, [(Z 384 0), (Z 448 0), (Z 320 0)], 13, 320, B428, (.tuple ⟨[(A [(I 0), (I 0)]), (I 0)]⟩), 22, B429, [], []⟩
def B431 : List (Nat × List Value) := [(1408, [(.int .u64 (.ofNat 5)), (.int .u64 (.ofNat 0))]), gq 256, gq 128, gq 192]
def B432 : List (Nat × List Value) := [gq 256, gq 128, gq 192, (1600, [(.int .u64 (.ofNat 25)), (.int .u64 (.ofNat 0))]), (1536, [(.int .u64 (.ofNat 25)), (.int .u64 (.ofNat 0))]), (1472, [(.int .u64 (.ofNat 1)), (.int .u64 (.ofNat 0))]), (1408, [(.int .u64 (.ofNat 5)), (.int .u64 (.ofNat 0))])]
def Q433 : KC := ⟨98, [(C 1408 0 1 1), (I 2)], 23, 1472, B431, (C 1600 0 1 1), 26, B432, [], []⟩
def Q434 : KC := ⟨98, [(C 1408 0 1 1), (I 2)], 23, 1472, B431, (C 1600 0 1 1), 26, B432, [], []⟩
def L119 : List (Sum (FuncId × List Value × Value) KC) := [.inr Q430,
  .inl (50, [(A [(I 0), (I 0)]), (.int .i64 (.negSucc 999999999999)), (I 1000000000000)], (.tuple ⟨[(A [(I 0), (I 0)]), (I 0)]⟩)),
  .inr Q433,
  .inr Q434]
def T119 : Tab := pushT T118 L119
def B435 : List (Nat × List Value) := [(1728, [(.int .u64 (.ofNat 5)), (.int .u64 (.ofNat 0))]), gq 256, gq 128, gq 192]
def B436 : List (Nat × List Value) := [gq 256, gq 128, gq 192, (1920, [(.int .u64 (.ofNat 25)), (.int .u64 (.ofNat 0))]), (1856, [(.int .u64 (.ofNat 25)), (.int .u64 (.ofNat 0))]), (1792, [(.int .u64 (.ofNat 1)), (.int .u64 (.ofNat 0))]), (1728, [(.int .u64 (.ofNat 5)), (.int .u64 (.ofNat 0))])]
def Q437 : KC := ⟨98, [(C 1728 0 1 1), (I 2)], 28, 1792, B435, (C 1920 0 1 1), 31, B436, [], []⟩
def Q438 : KC := ⟨98, [(C 1728 0 1 1), (I 2)], 28, 1792, B435, (C 1920 0 1 1), 31, B436, [], []⟩
def B439 : List (Nat × List Value) := [(2688, [(.int .u64 (.ofNat 2)), (.int .u64 (.ofNat 0))]), gq 256, gq 128, gq 192]
def B440 : List (Nat × List Value) := [gq 256, gq 128, gq 192, (2880, [(.int .u64 (.ofNat 4)), (.int .u64 (.ofNat 0))]), (2816, [(.int .u64 (.ofNat 4)), (.int .u64 (.ofNat 0))]), (2752, [(.int .u64 (.ofNat 1)), (.int .u64 (.ofNat 0))]), (2688, [(.int .u64 (.ofNat 2)), (.int .u64 (.ofNat 0))])]
def Q441 : KC := ⟨98, [(C 2688 0 1 1), (I 2)], 43, 320, B439, (C 2880 0 1 1), 46, B440, [], []⟩
def L120 : List (Sum (FuncId × List Value × Value) KC) := [.inr Q437,
  .inr Q438,
  .inr Q441]
def T120 : Tab := pushT T119 L120
def B442 : List (Nat × List Value) := [(3008, [(.int .u64 (.ofNat 3)), (.int .u64 (.ofNat 0))]), gq 256, gq 128, gq 192]
def B443 : List (Nat × List Value) := [gq 256, gq 128, gq 192, (3200, [(.int .u64 (.ofNat 9)), (.int .u64 (.ofNat 0))]), (3136, [(.int .u64 (.ofNat 9)), (.int .u64 (.ofNat 0))]), (3072, [(.int .u64 (.ofNat 1)), (.int .u64 (.ofNat 0))]), (3008, [(.int .u64 (.ofNat 3)), (.int .u64 (.ofNat 0))])]
def Q444 : KC := ⟨98, [(C 3008 0 1 1), (I 2)], 48, 320, B442, (C 3200 0 1 1), 51, B443, [], []⟩
def B445 : List (Nat × List Value) := [(3328, [(.int .u64 (.ofNat 4)), (.int .u64 (.ofNat 0))]), gq 256, gq 128, gq 192]
def B446 : List (Nat × List Value) := [gq 256, gq 128, gq 192, (3520, [(.int .u64 (.ofNat 16)), (.int .u64 (.ofNat 0))]), (3456, [(.int .u64 (.ofNat 16)), (.int .u64 (.ofNat 0))]), (3392, [(.int .u64 (.ofNat 1)), (.int .u64 (.ofNat 0))]), (3328, [(.int .u64 (.ofNat 4)), (.int .u64 (.ofNat 0))])]
def Q447 : KC := ⟨98, [(C 3328 0 1 1), (I 2)], 53, 320, B445, (C 3520 0 1 1), 56, B446, [], []⟩
def B448 : List (Nat × List Value) := [(3648, [(.int .u64 (.ofNat 5)), (.int .u64 (.ofNat 0))]), gq 256, gq 128, gq 192]
def B449 : List (Nat × List Value) := [gq 256, gq 128, gq 192, (3840, [(.int .u64 (.ofNat 25)), (.int .u64 (.ofNat 0))]), (3776, [(.int .u64 (.ofNat 25)), (.int .u64 (.ofNat 0))]), (3712, [(.int .u64 (.ofNat 1)), (.int .u64 (.ofNat 0))]), (3648, [(.int .u64 (.ofNat 5)), (.int .u64 (.ofNat 0))])]
def Q450 : KC := ⟨98, [(C 3648 0 1 1), (I 2)], 58, 320, B448, (C 3840 0 1 1), 61, B449, [], []⟩
def L121 : List (Sum (FuncId × List Value × Value) KC) := [.inr Q444,
  .inr Q447,
  .inr Q450]
def T121 : Tab := pushT T120 L121
def B451 : List (Nat × List Value) := [(3968, [(.int .u64 (.ofNat 6)), (.int .u64 (.ofNat 0))]), gq 256, gq 128, gq 192]
def B452 : List (Nat × List Value) := [gq 256, gq 128, gq 192, (4160, [(.int .u64 (.ofNat 36)), (.int .u64 (.ofNat 0))]), (4096, [(.int .u64 (.ofNat 36)), (.int .u64 (.ofNat 0))]), (4032, [(.int .u64 (.ofNat 1)), (.int .u64 (.ofNat 0))]), (3968, [(.int .u64 (.ofNat 6)), (.int .u64 (.ofNat 0))])]
def Q453 : KC := ⟨98, [(C 3968 0 1 1), (I 2)], 63, 320, B451, (C 4160 0 1 1), 66, B452, [], []⟩
def B454 : List (Nat × List Value) := [gq 256, gq 128, gq 192, (2304, [(.int .u64 (.ofNat 25)), (.int .u64 (.ofNat 0))])]
def B455 : List (Nat × List Value) := [gq 256, gq 128, gq 192, (4160, [(.int .u64 (.ofNat 36)), (.int .u64 (.ofNat 0))]), (2304, [(.int .u64 (.ofNat 25)), (.int .u64 (.ofNat 0))]), (4096, [(.int .u64 (.ofNat 36)), (.int .u64 (.ofNat 0))]), (4032, [(.int .u64 (.ofNat 1)), (.int .u64 (.ofNat 0))]), (3968, [(.int .u64 (.ofNat 6)), (.int .u64 (.ofNat 0))]), (3904, [(.int .u64 (.ofNat 5)), (.int .u64 (.ofNat 0))]), (3840, [(.int .u64 (.ofNat 25)), (.int .u64 (.ofNat 0))]), (3776, [(.int .u64 (.ofNat 25)), (.int .u64 (.ofNat 0))]), (3712, [(.int .u64 (.ofNat 1)), (.int .u64 (.ofNat 0))]), (3648, [(.int .u64 (.ofNat 5)), (.int .u64 (.ofNat 0))]), (3584, [(.int .u64 (.ofNat 4)), (.int .u64 (.ofNat 0))]), (3520, [(.int .u64 (.ofNat 16)), (.int .u64 (.ofNat 0))]), (3456, [(.int .u64 (.ofNat 16)), (.int .u64 (.ofNat 0))]), (3392, [(.int .u64 (.ofNat 1)), (.int .u64 (.ofNat 0))]), (3328, [(.int .u64 (.ofNat 4)), (.int .u64 (.ofNat 0))]), (3264, [(.int .u64 (.ofNat 3)), (.int .u64 (.ofNat 0))]), (3200, [(.int .u64 (.ofNat 9)), (.int .u64 (.ofNat 0))]), (3136, [(.int .u64 (.ofNat 9)), (.int .u64 (.ofNat 0))]), (3072, [(.int .u64 (.ofNat 1)), (.int .u64 (.ofNat 0))]), (3008, [(.int .u64 (.ofNat 3)), (.int .u64 (.ofNat 0))]), (2944, [(.int .u64 (.ofNat 2)), (.int .u64 (.ofNat 0))]), (2880, [(.int .u64 (.ofNat 4)), (.int .u64 (.ofNat 0))]), (2816, [(.int .u64 (.ofNat 4)), (.int .u64 (.ofNat 0))]), (2752, [(.int .u64 (.ofNat 1)), (.int .u64 (.ofNat 0))]), (2688, [(.int .u64 (.ofNat 2)), (.int .u64 (.ofNat 0))]), (2624, [(.int .u64 (.ofNat 1)), (.int .u64 (.ofNat 0))])]
def Q456 : KC := ⟨154, [(C 2304 0 1 1), (I 2)], 41, 320, B454, (C 3904 0 1 1), 66, B455, [], []⟩
def B457 : List (Nat × List Value) := [gq 256, gq 128, gq 192, (3904, [(.int .u64 (.ofNat 5)), (.int .u64 (.ofNat 0))])]
def B458 : List (Nat × List Value) := [gq 256, gq 128, gq 192, (4352, [(.int .u64 (.ofNat 25)), (.int .u64 (.ofNat 0))]), (4288, [(.int .u64 (.ofNat 25)), (.int .u64 (.ofNat 0))]), (4224, [(.int .u64 (.ofNat 1)), (.int .u64 (.ofNat 0))]), (3904, [(.int .u64 (.ofNat 5)), (.int .u64 (.ofNat 0))])]
def Q459 : KC := ⟨98, [(C 3904 0 1 1), (I 2)], 66, 320, B457, (C 4352 0 1 1), 69, B458, [], []⟩
def L122 : List (Sum (FuncId × List Value × Value) KC) := [.inr Q453,
  .inr Q456,
  .inr Q459]
def T122 : Tab := pushT T121 L122
def B460 : List (Nat × List Value) := [(4480, [(.int .u64 (.ofNat 2)), (.int .u64 (.ofNat 0))]), gq 256, gq 128, gq 192]
def B461 : List (Nat × List Value) := [gq 256, gq 128, gq 192, (4672, [(.int .u64 (.ofNat 4)), (.int .u64 (.ofNat 0))]), (4608, [(.int .u64 (.ofNat 4)), (.int .u64 (.ofNat 0))]), (4544, [(.int .u64 (.ofNat 1)), (.int .u64 (.ofNat 0))]), (4480, [(.int .u64 (.ofNat 2)), (.int .u64 (.ofNat 0))])]
def Q462 : KC := ⟨98, [(C 4480 0 1 1), (I 2)], 71, 320, B460, (C 4672 0 1 1), 74, B461, [], []⟩
def B463 : List (Nat × List Value) := [(4800, [(.int .u64 (.ofNat 3)), (.int .u64 (.ofNat 0))]), gq 256, gq 128, gq 192]
def B464 : List (Nat × List Value) := [gq 256, gq 128, gq 192, (4992, [(.int .u64 (.ofNat 9)), (.int .u64 (.ofNat 0))]), (4928, [(.int .u64 (.ofNat 9)), (.int .u64 (.ofNat 0))]), (4864, [(.int .u64 (.ofNat 1)), (.int .u64 (.ofNat 0))]), (4800, [(.int .u64 (.ofNat 3)), (.int .u64 (.ofNat 0))])]
def Q465 : KC := ⟨98, [(C 4800 0 1 1), (I 2)], 76, 320, B463, (C 4992 0 1 1), 79, B464, [], []⟩
def B466 : List (Nat × List Value) := [(5120, [(.int .u64 (.ofNat 4)), (.int .u64 (.ofNat 0))]), gq 256, gq 128, gq 192]
def B467 : List (Nat × List Value) := [gq 256, gq 128, gq 192, (5312, [(.int .u64 (.ofNat 16)), (.int .u64 (.ofNat 0))]), (5248, [(.int .u64 (.ofNat 16)), (.int .u64 (.ofNat 0))]), (5184, [(.int .u64 (.ofNat 1)), (.int .u64 (.ofNat 0))]), (5120, [(.int .u64 (.ofNat 4)), (.int .u64 (.ofNat 0))])]
def Q468 : KC := ⟨98, [(C 5120 0 1 1), (I 2)], 81, 320, B466, (C 5312 0 1 1), 84, B467, [], []⟩
def L123 : List (Sum (FuncId × List Value × Value) KC) := [.inr Q462,
  .inr Q465,
  .inr Q468]
def T123 : Tab := pushT T122 L123
def B469 : List (Nat × List Value) := [(5440, [(.int .u64 (.ofNat 5)), (.int .u64 (.ofNat 0))]), gq 256, gq 128, gq 192]
def B470 : List (Nat × List Value) := [gq 256, gq 128, gq 192, (5632, [(.int .u64 (.ofNat 25)), (.int .u64 (.ofNat 0))]), (5568, [(.int .u64 (.ofNat 25)), (.int .u64 (.ofNat 0))]), (5504, [(.int .u64 (.ofNat 1)), (.int .u64 (.ofNat 0))]), (5440, [(.int .u64 (.ofNat 5)), (.int .u64 (.ofNat 0))])]
def Q471 : KC := ⟨98, [(C 5440 0 1 1), (I 2)], 86, 320, B469, (C 5632 0 1 1), 89, B470, [], []⟩
def B472 : List (Nat × List Value) := [(5760, [(.int .u64 (.ofNat 6)), (.int .u64 (.ofNat 0))]), gq 256, gq 128, gq 192]
def B473 : List (Nat × List Value) := [gq 256, gq 128, gq 192, (5952, [(.int .u64 (.ofNat 36)), (.int .u64 (.ofNat 0))]), (5888, [(.int .u64 (.ofNat 36)), (.int .u64 (.ofNat 0))]), (5824, [(.int .u64 (.ofNat 1)), (.int .u64 (.ofNat 0))]), (5760, [(.int .u64 (.ofNat 6)), (.int .u64 (.ofNat 0))])]
def Q474 : KC := ⟨98, [(C 5760 0 1 1), (I 2)], 91, 320, B472, (C 5952 0 1 1), 94, B473, [], []⟩
def B475 : List (Nat × List Value) := [gq 256, gq 128, gq 192, (2496, [(.int .u64 (.ofNat 25)), (.int .u64 (.ofNat 0))])]
def B476 : List (Nat × List Value) := [gq 256, gq 128, gq 192, (5952, [(.int .u64 (.ofNat 36)), (.int .u64 (.ofNat 0))]), (2496, [(.int .u64 (.ofNat 25)), (.int .u64 (.ofNat 0))]), (5888, [(.int .u64 (.ofNat 36)), (.int .u64 (.ofNat 0))]), (5824, [(.int .u64 (.ofNat 1)), (.int .u64 (.ofNat 0))]), (5760, [(.int .u64 (.ofNat 6)), (.int .u64 (.ofNat 0))]), (5696, [(.int .u64 (.ofNat 5)), (.int .u64 (.ofNat 0))]), (5632, [(.int .u64 (.ofNat 25)), (.int .u64 (.ofNat 0))]), (5568, [(.int .u64 (.ofNat 25)), (.int .u64 (.ofNat 0))]), (5504, [(.int .u64 (.ofNat 1)), (.int .u64 (.ofNat 0))]), (5440, [(.int .u64 (.ofNat 5)), (.int .u64 (.ofNat 0))]), (5376, [(.int .u64 (.ofNat 4)), (.int .u64 (.ofNat 0))]), (5312, [(.int .u64 (.ofNat 16)), (.int .u64 (.ofNat 0))]), (5248, [(.int .u64 (.ofNat 16)), (.int .u64 (.ofNat 0))]), (5184, [(.int .u64 (.ofNat 1)), (.int .u64 (.ofNat 0))]), (5120, [(.int .u64 (.ofNat 4)), (.int .u64 (.ofNat 0))]), (5056, [(.int .u64 (.ofNat 3)), (.int .u64 (.ofNat 0))]), (4992, [(.int .u64 (.ofNat 9)), (.int .u64 (.ofNat 0))]), (4928, [(.int .u64 (.ofNat 9)), (.int .u64 (.ofNat 0))]), (4864, [(.int .u64 (.ofNat 1)), (.int .u64 (.ofNat 0))]), (4800, [(.int .u64 (.ofNat 3)), (.int .u64 (.ofNat 0))]), (4736, [(.int .u64 (.ofNat 2)), (.int .u64 (.ofNat 0))]), (4672, [(.int .u64 (.ofNat 4)), (.int .u64 (.ofNat 0))]), (4608, [(.int .u64 (.ofNat 4)), (.int .u64 (.ofNat 0))]), (4544, [(.int .u64 (.ofNat 1)), (.int .u64 (.ofNat 0))]), (4480, [(.int .u64 (.ofNat 2)), (.int .u64 (.ofNat 0))]), (4416, [(.int .u64 (.ofNat 1)), (.int .u64 (.ofNat 0))])]
def Q477 : KC := ⟨154, [(C 2496 0 1 1), (I 2)], 69, 320, B475, (C 5696 0 1 1), 94, B476, [], []⟩
def L124 : List (Sum (FuncId × List Value × Value) KC) := [.inr Q471,
  .inr Q474,
  .inr Q477]
def T124 : Tab := pushT T123 L124
def B478 : List (Nat × List Value) := [gq 256, gq 128, gq 192, (5696, [(.int .u64 (.ofNat 5)), (.int .u64 (.ofNat 0))])]
def B479 : List (Nat × List Value) := [gq 256, gq 128, gq 192, (6144, [(.int .u64 (.ofNat 25)), (.int .u64 (.ofNat 0))]), (6080, [(.int .u64 (.ofNat 25)), (.int .u64 (.ofNat 0))]), (6016, [(.int .u64 (.ofNat 1)), (.int .u64 (.ofNat 0))]), (5696, [(.int .u64 (.ofNat 5)), (.int .u64 (.ofNat 0))])]
def Q480 : KC := ⟨98, [(C 5696 0 1 1), (I 2)], 94, 320, B478, (C 6144 0 1 1), 97, B479, [], []⟩
def L125 : List (Sum (FuncId × List Value × Value) KC) := [.inr Q480]
def T125 : Tab := pushT T124 L125
def B481 : List (Nat × List Value) := [(768, [(I 5), (I 5), (I 0), (I 0)]), gq 256, gq 128, gq 192]
def B482 : List (Nat × List Value) := [gq 256, gq 128, gq 192, (2496, [(.int .u64 (.ofNat 25)), (.int .u64 (.ofNat 0))]), (2304, [(.int .u64 (.ofNat 25)), (.int .u64 (.ofNat 0))]), (1984, [(.int .u64 (.ofNat 25)), (.int .u64 (.ofNat 0))]), (2368, [(.int .u64 (.ofNat 0)), (.int .u64 (.ofNat 0))]), (2112, [(I 0), (I 0)]), (1024, [(C 2496 0 1 1)]), (1664, [(.int .u64 (.ofNat 25)), (.int .u64 (.ofNat 0))]), (2176, [(.int .u64 (.ofNat 0)), (.int .u64 (.ofNat 0))]), (960, [(C 2304 0 1 1)]), (2048, [(I 0), (I 0)]), (1920, [(.int .u64 (.ofNat 25)), (.int .u64 (.ofNat 0))]), (1728, [(.int .u64 (.ofNat 5)), (.int .u64 (.ofNat 0))]), (1344, [(I 5), (I 5)]), (1600, [(.int .u64 (.ofNat 25)), (.int .u64 (.ofNat 0))]), (1408, [(.int .u64 (.ofNat 5)), (.int .u64 (.ofNat 0))]), (1280, [(I 5), (I 5)]), (1088, [(C 768 0 2 2)]), (768, [(I 5), (I 5), (I 0), (I 0)]), (896, [(I 0)]), (832, [(I 5), (I 5)])]
def Q483 : KC := ⟨48, [(C 768 0 2 2)], 13, 320, B481, (.tuple ⟨[(A [(I 5), (I 5)]), (I 0)]⟩), 98, B482, [], []⟩
def L126 : List (Sum (FuncId × List Value × Value) KC) := [.inr Q483,
  .inl (11, [(A [(I 0), (I 0), (I 5), (I 5), (I 0), (I 0)])], (.tuple ⟨[(A [(I 5), (I 5)]), (A [(I 1000000000000), (I 1000000000000), (I 0), (I 0)]), (I 0)]⟩))]
def T126 : Tab := pushT T125 L126
end Ev
end Go.Proofs.YtmijdboikfhbiaaGreatDoor
