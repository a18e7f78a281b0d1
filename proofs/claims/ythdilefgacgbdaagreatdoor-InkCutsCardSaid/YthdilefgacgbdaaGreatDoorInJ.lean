/- Contracts of the reference at any amounts: Total, Cuts. -/
import Derived.Test.YthdilefgacgbdaaGreatDoorInI
import Derived.RegionTactic
import Derived.ChangeAlike
import Derived.StillTailTactics
namespace Go.Proofs.YthdilefgacgbdaaGreatDoor
open Go.RowKit
set_option maxRecDepth 20000
set_option maxHeartbeats 3200000

theorem rtotal_ok (a b c d : Int) (w : World) (h : Ams a b c d 65535) :
    Calls Tryz.prog 8 #[.agg #[.int .i64 a, .int .i64 b, .int .i64 c, .int .i64 d]] w fun e w' => e = .returned (.tuple #[.int .i64 (a + b + c + d), .int .i64 0]) ∧ Bl w w' := by
  obtain ⟨⟨a0, a1⟩, ⟨b0, b1⟩, ⟨c0, c1⟩, ⟨d0, d1⟩⟩ := id h
  go_enter Tryz.func8, Tryz.ntmps8
  go_wp2_with fail
  refine (rwithin_y w.heap.size a b c d 65535 _ h (by simp) (by simp) (by simp) (by simp)).mono ?_
  rintro e w1 ⟨rfl, rfl⟩
  go_wp2_with fail
  go_ret2
  exact ⟨rfl, Bl.new w _⟩
theorem rtotal_no (a b c d : Int) (w : World) (h : ¬ Ams a b c d 65535) :
    Calls Tryz.prog 8 #[.agg #[.int .i64 a, .int .i64 b, .int .i64 c, .int .i64 d]] w fun e w' => e = .returned (.tuple #[.int .i64 0, .int .i64 2]) ∧ Bl w w' := by
  go_enter Tryz.func8, Tryz.ntmps8
  go_wp2_with fail
  refine (rwithin_n w.heap.size a b c d 65535 _ h (by simp) (by simp) (by simp) (by simp)).mono ?_
  rintro e w1 ⟨rfl, rfl⟩
  go_wp2_with fail
  go_ret2
  exact ⟨rfl, Bl.new w _⟩

theorem rcuts_whole (a b c d m : Int) (w : World) (hA : Ams a b c d 65535) (h : a + b + c + d ≤ m) :
    Calls Tryz.prog 27 #[.agg #[.int .i64 a, .int .i64 b, .int .i64 c, .int .i64 d], .int .i64 m] w fun e w' => e = .returned (.agg #[.int .i64 a, .int .i64 b, .int .i64 c, .int .i64 d]) ∧ Bl w w' := by
  obtain ⟨⟨a0, a1⟩, ⟨b0, b1⟩, ⟨c0, c1⟩, ⟨d0, d1⟩⟩ := hA
  have f0 : decide (a + b + c + d ≤ m) = true := by simpa using h
  go_enter Tryz.func27, Tryz.ntmps27
  go_wp2_with fail
  refine bodyPost_ret (v := .agg #[.int .i64 a, .int .i64 b, .int .i64 c, .int .i64 d]) (by simp [results, Tryz.results27, go_sem]) rfl ⟨rfl, ?_⟩
  unfold Bl
  go_grown
theorem rcuts_none (d m : Int) (w : World) (hd : Am d 65535) (hm : Am m 262140) (h : ¬ d ≤ m) :
    Calls Tryz.prog 27 #[.agg #[.int .i64 0, .int .i64 0, .int .i64 0, .int .i64 d], .int .i64 m] w fun e w' => e = .returned (.agg #[.int .i64 0, .int .i64 0, .int .i64 0, .int .i64 m]) ∧ Bl w w' := by
  obtain ⟨d0, d1⟩ := hd
  obtain ⟨m0, m1⟩ := hm
  have f0 : decide (d ≤ m) = false := by simpa using h
  go_enter Tryz.func27, Tryz.ntmps27
  go_wp2_with fail
  refine wp_loop_rounds 1 ?_
  rw [rounds_succ]; go_wp2_with fail
  refine bodyPost_ret (v := .agg #[.int .i64 0, .int .i64 0, .int .i64 0, .int .i64 m]) (by simp [results, Tryz.results27, go_sem]) rfl ⟨rfl, ?_⟩
  unfold Bl
  go_grown
theorem rcuts_a (a b c d m k : Int) (w : World) (hA : Ams a b c d 65535) (hm : Am m 262140) (h : ¬ a + b + c + d ≤ m) (hk : (if m < d then m else d) = k) (hs : 0 < a + b + c) :
    Calls Tryz.prog 27 #[.agg #[.int .i64 a, .int .i64 b, .int .i64 c, .int .i64 d], .int .i64 m] w fun e w' => e = .returned (.agg #[.int .i64 (a * (m - k) / (a + b + c)), .int .i64 (b * (m - k) / (a + b + c)), .int .i64 (c * (m - k) / (a + b + c)), .int .i64 k]) ∧ Bl w w' := by
  obtain ⟨⟨a0, a1⟩, ⟨b0, b1⟩, ⟨c0, c1⟩, ⟨d0, d1⟩⟩ := hA
  obtain ⟨m0, m1⟩ := hm
  have k0 : 0 ≤ k := by split at hk <;> omega
  have k1 : k ≤ m := by split at hk <;> omega
  have f0 : decide (a + b + c + d ≤ m) = false := by simpa using h
  have f1 : decide (0 < a + b + c) = true := by simpa using hs
  have z0 : ¬ a + b + c = 0 := by omega
  have p0 : 0 ≤ a * (m - k) := Int.mul_nonneg a0 (by omega)
  have p1 : a * (m - k) ≤ 65535 * 262140 := Int.mul_le_mul a1 (by omega) (by omega) (by omega)
  have q0 : 0 ≤ b * (m - k) := Int.mul_nonneg b0 (by omega)
  have q1 : b * (m - k) ≤ 65535 * 262140 := Int.mul_le_mul b1 (by omega) (by omega) (by omega)
  have r0 : 0 ≤ c * (m - k) := Int.mul_nonneg c0 (by omega)
  have r1 : c * (m - k) ≤ 65535 * 262140 := Int.mul_le_mul c1 (by omega) (by omega) (by omega)
  go_enter Tryz.func27, Tryz.ntmps27
  go_wp2_with fail
  refine wp_loop_rounds 4 ?_
  rw [rounds_succ]; go_wp2_with fail
  go_region
  go_wp2_with fail
  rw [rounds_succ]; go_wp2_with fail
  go_region
  go_wp2_with fail
  rw [rounds_succ]; go_wp2_with fail
  go_region
  go_wp2_with fail
  rw [rounds_succ]; go_wp2_with fail
  refine bodyPost_ret (v := .agg #[.int .i64 (a * (m - k) / (a + b + c)), .int .i64 (b * (m - k) / (a + b + c)), .int .i64 (c * (m - k) / (a + b + c)), .int .i64 k]) (by simp [results, Tryz.results27, go_sem]) rfl ⟨rfl, ?_⟩
  unfold Bl
  go_grown
/-- The reference's Cuts, whatever is cut. -/
theorem rcuts_ok (a b c d m : Int) (w : World) (hA : Ams a b c d 65535) (hm : Am m 262140) :
    Calls Tryz.prog 27 #[.agg #[.int .i64 a, .int .i64 b, .int .i64 c, .int .i64 d], .int .i64 m] w fun e w' => e = .returned (.agg #[.int .i64 (ct a b c d m a), .int .i64 (ct a b c d m b), .int .i64 (ct a b c d m c), .int .i64 (blk a b c d m)]) ∧ Bl w w' := by
  by_cases h : a + b + c + d ≤ m
  · simp only [ct, blk, if_pos h]
    exact rcuts_whole a b c d m w hA h
  · simp only [ct, blk, if_neg h]
    by_cases hs : a + b + c = 0
    · have ha := hA.1.1; have hb := hA.2.1.1; have hc := hA.2.2.1.1
      obtain rfl : a = 0 := by omega
      obtain rfl : b = 0 := by omega
      obtain rfl : c = 0 := by omega
      rw [show min d m = m by omega]
      simp only [scl, Int.add_zero, if_true]
      exact rcuts_none d m w hA.2.2.2 hm (by omega)
    · simp only [scl, if_neg hs]
      have ha := hA.1.1; have hb := hA.2.1.1; have hc := hA.2.2.1.1
      exact rcuts_a a b c d m (min d m) w hA hm h (by split <;> omega) (by omega)
end Go.Proofs.YthdilefgacgbdaaGreatDoor
