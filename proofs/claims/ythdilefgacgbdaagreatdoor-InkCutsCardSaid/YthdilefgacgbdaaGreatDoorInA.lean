/- Contracts of ink: the sum of some amounts, the total, what is scaled. -/
import Derived.Test.YthdilefgacgbdaaGreatDoorProg
import Derived.Test.YthdilefgacgbdaaGreatDoorInM
import Derived.WalkKit
import Derived.LoopN
import Derived.Lib.Hide
import Derived.IntWalk
namespace Go.Proofs.YthdilefgacgbdaaGreatDoor
open Go.RowKit
set_option maxRecDepth 20000
set_option maxHeartbeats 1600000

theorem sum4_ok (q : Nat) (a b c d : Int) (w : World) (ha : Am a 65535) (hb : Am b 65535) (hc : Am c 65535) (hd : Am d 65535)
    (h0 : w.cell? ⟨q, 0, none⟩ = some (.int .i64 a)) (h1 : w.cell? ⟨q, 1, none⟩ = some (.int .i64 b)) (h2 : w.cell? ⟨q, 2, none⟩ = some (.int .i64 c)) (h3 : w.cell? ⟨q, 3, none⟩ = some (.int .i64 d)) :
    Calls Tryz.prog 33 #[.slice (some ⟨q, 0, none⟩) 4 4] w fun e w' => e = .returned (.int .i64 (a + b + c + d)) ∧ w = w' := by
  obtain ⟨a0, a1⟩ := ha
  obtain ⟨b0, b1⟩ := hb
  obtain ⟨c0, c1⟩ := hc
  obtain ⟨d0, d1⟩ := hd
  go_enter Tryz.func33, Tryz.ntmps33
  go_wp2_with fail
  refine wp_loop_rounds 5 ?_
  rw [rounds_succ]; go_wp2_with fail
  rw [rounds_succ]; go_wp2_with fail
  rw [rounds_succ]; go_wp2_with fail
  rw [rounds_succ]; go_wp2_with fail
  rw [rounds_succ]; go_wp2_with fail
  go_ret
  exact ⟨rfl, rfl⟩
theorem sum3_ok (q : Nat) (a b c : Int) (w : World) (ha : Am a 65535) (hb : Am b 65535) (hc : Am c 65535)
    (h0 : w.cell? ⟨q, 0, none⟩ = some (.int .i64 a)) (h1 : w.cell? ⟨q, 1, none⟩ = some (.int .i64 b)) (h2 : w.cell? ⟨q, 2, none⟩ = some (.int .i64 c)) :
    Calls Tryz.prog 33 #[.slice (some ⟨q, 0, none⟩) 3 4] w fun e w' => e = .returned (.int .i64 (a + b + c)) ∧ w = w' := by
  obtain ⟨a0, a1⟩ := ha
  obtain ⟨b0, b1⟩ := hb
  obtain ⟨c0, c1⟩ := hc
  go_enter Tryz.func33, Tryz.ntmps33
  go_wp2_with fail
  refine wp_loop_rounds 4 ?_
  rw [rounds_succ]; go_wp2_with fail
  rw [rounds_succ]; go_wp2_with fail
  rw [rounds_succ]; go_wp2_with fail
  rw [rounds_succ]; go_wp2_with fail
  go_ret
  exact ⟨rfl, rfl⟩
theorem total_ok (a b c d : Int) (w : World) (ha : Am a 65535) (hb : Am b 65535) (hc : Am c 65535) (hd : Am d 65535) :
    Calls Tryz.prog 23 #[.agg #[.int .i64 a, .int .i64 b, .int .i64 c, .int .i64 d]] w fun e w' => e = .returned (.int .i64 (a + b + c + d)) ∧ Below w.heap.size w w' := by
  go_enter Tryz.func23, Tryz.ntmps23
  go_wp2_with fail
  refine (sum4_ok _ a b c d _ ha hb hc hd (by simp [World.cell?_alloc_new]) (by simp [World.cell?_alloc_new]) (by simp [World.cell?_alloc_new]) (by simp [World.cell?_alloc_new])).mono ?_
  rintro e w1 ⟨rfl, rfl⟩
  go_wp2_with fail
  go_ret
  exact ⟨rfl, (Below.refl _ _).alloc (Nat.le_refl _) _⟩
/-- What is scaled: s, the sum; r, what is left. -/
theorem scaled_ok (x s m k : Int) (u v y : Nat) (w : World) (hx : Am x 65535) (hs : Am s 196605) (hm : Am m 262140) (hk : 0 ≤ k ∧ k ≤ m)
    (h0 : w.cell? ⟨u, 0, none⟩ = some (.int .i64 s)) (h1 : w.cell? ⟨v, 0, none⟩ = some (.int .i64 m)) (h2 : w.cell? ⟨y, 3, none⟩ = some (.int .i64 k)) :
    Calls Tryz.prog 34 #[.int .i64 x, .pointer (some ⟨u, 0, none⟩), .pointer (some ⟨v, 0, none⟩), .pointer (some ⟨y, 0, none⟩)] w fun e w' => e = .returned (.int .i64 (scl s (m - k) x)) ∧ w = w' := by
  obtain ⟨x0, x1⟩ := hx
  obtain ⟨s0, s1⟩ := hs
  obtain ⟨m0, m1⟩ := hm
  obtain ⟨k0, k1⟩ := hk
  by_cases hz : s = 0
  · subst hz
    go_enter Tryz.func34, Tryz.ntmps34
    go_wp2_with fail
    go_ret
    exact ⟨by simp [scl], rfl⟩
  · have e : scl s (m - k) x = x * (m - k) / s := if_neg hz
    have p0 : 0 ≤ x * (m - k) := Int.mul_nonneg x0 (by omega)
    have p1 : x * (m - k) ≤ 65535 * 262140 := Int.mul_le_mul x1 (by omega) (by omega) (by omega)
    have E := Lib.hid e; clear e
    go_enter Tryz.func34, Tryz.ntmps34
    go_wp2_with fail
    go_ret
    exact ⟨by rw [E.out]; rfl, rfl⟩
end Go.Proofs.YthdilefgacgbdaaGreatDoor
