/- Contracts of octet.Part: what it answers where the part is there, where it is not, and where a number is below 0; of the law's own small closures. -/
import Derived.Test.YteddodfpgaadoaaDoorProg
import Derived.WalkKit
import Derived.WalkSpells
import Derived.WalkLawsBesides
namespace Go.Proofs.YteddodfpgaadoaaDoor
open Go.RowKit

set_option maxHeartbeats 400000 in
theorem part_ok (s : ByteArray) (at' n : Nat) (w : World) (hs : s.size ≤ 65536) (h : at' + n ≤ s.size) :
    Calls Tryd.prog 30 #[.string s, .int .i64 at', .int .i64 n] w fun e w' => e = .returned (.tuple #[.string (s.extract at' (at' + n)), .int .i64 0]) ∧ w = w' := by
  have h1 : ¬ (65536 : Int) < s.size := by omega
  have h2 : ¬ (at' : Int) < 0 := by omega
  have h3 : ¬ (n : Int) < 0 := by omega
  have h4 : (at' : Int) ≤ s.size := by omega
  have h5 : ¬ ((s.size : Int) - at') < n := by omega
  go_enter Tryd.func30, Tryd.ntmps30
  go_wp2
  go_ret2
  exact ⟨rfl, rfl⟩

/-- The same, the numbers in whatever spelling. -/
theorem part_at (s : ByteArray) (a n : Int) (i j : Nat) (w : World) (hs : s.size ≤ 65536) (ha : a = i) (hn : a + n = j) (hij : i ≤ j) (h : j ≤ s.size) :
    Calls Tryd.prog 30 #[.string s, .int .i64 a, .int .i64 n] w fun e w' => e = .returned (.tuple #[.string (s.extract i j), .int .i64 0]) ∧ w = w' := by
  obtain rfl : n = ((j - i : Nat) : Int) := by omega
  subst ha
  have := part_ok s i (j - i) w hs (by omega)
  rwa [show i + (j - i) = j from by omega] at this

set_option maxHeartbeats 400000 in
theorem part_short (s : ByteArray) (at' n : Int) (w : World) (hs : s.size ≤ 65536) (g : 0 ≤ at') (g' : at' ≤ s.size) (k : 0 ≤ n) (h : s.size < at' + n) :
    Calls Tryd.prog 30 #[.string s, .int .i64 at', .int .i64 n] w fun e w' => e = .returned (.tuple #[.string ByteArray.empty, .int .i64 70]) ∧ w = w' := by
  have h1 : ¬ (65536 : Int) < s.size := by omega
  have h2 : ¬ (at' : Int) < 0 := by omega
  have h3 : ¬ (n : Int) < 0 := by omega
  have h5 : ((s.size : Int) - at') < n := by omega
  go_enter Tryd.func30, Tryd.ntmps30
  go_wp2
  go_ret2
  exact ⟨rfl, rfl⟩

set_option maxHeartbeats 400000 in
theorem part_arg (s : ByteArray) (at' n : Int) (w : World) (hs : s.size ≤ 65536) (g : at' < 0) :
    Calls Tryd.prog 30 #[.string s, .int .i64 at', .int .i64 n] w fun e w' => e = .returned (.tuple #[.string ByteArray.empty, .int .i64 2]) ∧ w = w' := by
  have h1 : ¬ (65536 : Int) < s.size := by omega
  go_enter Tryd.func30, Tryd.ntmps30
  go_wp2
  go_ret2
  exact ⟨rfl, rfl⟩

/-! The law's closures: made, and called. -/
theorem mkf (fn : Fn) (first cap : Array Value) (w : World) : (Instr.makeFunc fn first cap).run Tryd.prog w = .ok (.func fn first cap) w := rfl

theorem says_any (n : Int) (w : World) :
    Calls Tryd.prog 23 #[.int .i64 n] w fun e w' => e = .returned (.func (.func 40) #[] #[.pointer (some ⟨w.heap.size, 0, none⟩)]) ∧ w' = w.alloc (.cells #[.int .i64 n] 3) := by
  have hmf := mkf
  go_enter Tryd.func23, Tryd.ntmps23
  go_wp2
  go_ret
  exact ⟨rfl, rfl⟩
theorem stops_any (n : Int) (w : World) :
    Calls Tryd.prog 32 #[.int .i64 n] w fun e w' => e = .returned (.func (.func 54) #[] #[.pointer (some ⟨w.heap.size, 0, none⟩)]) ∧ w' = w.alloc (.cells #[.int .i64 n] 30) := by
  have hmf := mkf
  go_enter Tryd.func32, Tryd.ntmps32
  go_wp2
  go_ret
  exact ⟨rfl, rfl⟩
theorem is_any (s : ByteArray) (w : World) :
    Calls Tryd.prog 28 #[.string s] w fun e w' => e = .returned (.func (.func 51) #[] #[.pointer (some ⟨w.heap.size, 0, none⟩)]) ∧ w' = w.alloc (.cells #[.string s] 9) := by
  have hmf := mkf
  go_enter Tryd.func28, Tryd.ntmps28
  go_wp2
  go_ret
  exact ⟨rfl, rfl⟩
theorem fails_any (n : Int) (w : World) :
    Calls Tryd.prog 25 #[.int .i64 n] w fun e w' => e = .returned (.func (.func 41) #[] #[.pointer (some ⟨w.heap.size, 0, none⟩)]) ∧ w' = w.alloc (.cells #[.int .i64 n] 30) := by
  have hmf := mkf
  go_enter Tryd.func25, Tryd.ntmps25
  go_wp2
  go_ret
  exact ⟨rfl, rfl⟩

theorem says_yes (n : Int) (a : Addr) (w : World) (hc : w.cell? a = some (.int .i64 n)) :
    Calls Tryd.prog 40 #[.int .i64 n, .int .i64 0, .pointer (some a)] w fun e w' => e = .returned (.bool true) ∧ w = w' := by
  go_enter Tryd.func40, Tryd.ntmps40
  go_wp2
  go_ret
  simp
theorem stops_yes (n : Int) (a : Addr) (w : World) (hc : w.cell? a = some (.int .i64 n)) :
    Calls Tryd.prog 54 #[.int .i64 0, .int .i64 n, .pointer (some a)] w fun e w' => e = .returned (.bool true) ∧ w = w' := by
  go_enter Tryd.func54, Tryd.ntmps54
  go_wp2
  go_ret
  simp
theorem is_yes (s : ByteArray) (a : Addr) (w : World) (hc : w.cell? a = some (.string s)) :
    Calls Tryd.prog 51 #[.string s, .int .i64 0, .pointer (some a)] w fun e w' => e = .returned (.bool true) ∧ w = w' := by
  go_enter Tryd.func51, Tryd.ntmps51
  go_wp2
  go_ret
  simp
theorem fails_yes (n : Int) (a : Addr) (w : World) (hc : w.cell? a = some (.int .i64 n)) :
    Calls Tryd.prog 41 #[.string ByteArray.empty, .int .i64 n, .pointer (some a)] w fun e w' => e = .returned (.bool true) ∧ w = w' := by
  go_enter Tryd.func41, Tryd.ntmps41
  go_wp2
  go_ret
  simp
end Go.Proofs.YteddodfpgaadoaaDoor
