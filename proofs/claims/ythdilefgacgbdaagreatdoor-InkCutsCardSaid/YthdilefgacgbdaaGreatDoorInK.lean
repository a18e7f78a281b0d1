/- Contracts of the reference at any amounts: Cut, Limit; the program and the reference give the same. -/
import Derived.Test.YthdilefgacgbdaaGreatDoorInJ
namespace Go.Proofs.YthdilefgacgbdaaGreatDoor
open Go.RowKit
set_option maxRecDepth 20000
set_option maxHeartbeats 3200000

theorem rcut_ok (a b c d m : Int) (w : World) (hA : Ams a b c d 65535) (hm : Am m 262140) :
    Calls Tryz.prog 10 #[.agg #[.int .i64 a, .int .i64 b, .int .i64 c, .int .i64 d], .int .i64 m] w fun e w' => e = .returned (.tuple #[.agg #[.int .i64 (ct a b c d m a), .int .i64 (ct a b c d m b), .int .i64 (ct a b c d m c), .int .i64 (blk a b c d m)], .int .i64 0]) ∧ Bl w w' := by
  have l0 : decide (m < 0) = false := by simpa using hm.1
  have g0 : decide (262140 < m) = false := by simpa using hm.2
  go_enter Tryz.func10, Tryz.ntmps10
  go_wp2_with fail
  refine (rwithin_y w.heap.size a b c d 65535 _ hA (by go_simp) (by go_simp) (by go_simp) (by go_simp)).mono ?_
  rintro e w1 ⟨rfl, rfl⟩
  go_wp2_with fail
  refine (rcuts_ok a b c d m _ hA hm).mono ?_
  rintro e w2 ⟨rfl, h2⟩
  obtain ⟨kx, ky, kf, kz, kb⟩ := box44 _ _ _ _ _ _ h2
  have y0 := ky 0 _ rfl; have y1 := ky 1 _ rfl; have y2 := ky 2 _ rfl; have y3 := ky 3 _ rfl
  have f0 := kf 0; have f1 := kf 1; have f2 := kf 2; have f3 := kf 3
  have HB := Lib.hid kb
  clear kx ky kf kz kb h2
  go_wp2_with fail
  refine bodyPost_ret (v := .tuple #[.agg #[.int .i64 (ct a b c d m a), .int .i64 (ct a b c d m b), .int .i64 (ct a b c d m c), .int .i64 (blk a b c d m)], .int .i64 0]) (by simp [results, Tryz.results10, go_sem, y0, y1, y2, y3]) rfl ⟨rfl, ?_⟩
  exact (((HB.out.setCell (Nat.le_succ _) _).setCell (Nat.le_succ _) _).setCell (Nat.le_succ _) _).setCell (Nat.le_succ _) _
theorem rcut_no (a b c d m : Int) (w : World) (h : ¬ (Ams a b c d 65535 ∧ Am m 262140)) :
    Calls Tryz.prog 10 #[.agg #[.int .i64 a, .int .i64 b, .int .i64 c, .int .i64 d], .int .i64 m] w fun e w' => e = .returned (.tuple #[.agg #[.int .i64 0, .int .i64 0, .int .i64 0, .int .i64 0], .int .i64 2]) ∧ Bl w w' := by
  by_cases hA : Ams a b c d 65535
  · by_cases x0 : m < 0
    · have l0 : decide (m < 0) = true := by simpa using x0
      clear h
      go_enter Tryz.func10, Tryz.ntmps10
      go_wp2_with fail
      refine (rwithin_y w.heap.size a b c d 65535 _ hA (by go_simp) (by go_simp) (by go_simp) (by go_simp)).mono ?_
      rintro e w1 ⟨rfl, rfl⟩
      go_wp2_with fail
      refine bodyPost_ret (v := .tuple #[.agg #[.int .i64 0, .int .i64 0, .int .i64 0, .int .i64 0], .int .i64 2]) (by simp [results, Tryz.results10, go_sem]) rfl ⟨rfl, ?_⟩
      unfold Bl
      go_grown
    · have l0 : decide (m < 0) = false := by simpa using x0
      have g1 : 262140 < m := by
        by_cases g : m ≤ 262140
        · exact absurd ⟨hA, by omega, g⟩ h
        · omega
      have g0 : decide (262140 < m) = true := by simpa using g1
      clear h
      go_enter Tryz.func10, Tryz.ntmps10
      go_wp2_with fail
      refine (rwithin_y w.heap.size a b c d 65535 _ hA (by go_simp) (by go_simp) (by go_simp) (by go_simp)).mono ?_
      rintro e w1 ⟨rfl, rfl⟩
      go_wp2_with fail
      refine bodyPost_ret (v := .tuple #[.agg #[.int .i64 0, .int .i64 0, .int .i64 0, .int .i64 0], .int .i64 2]) (by simp [results, Tryz.results10, go_sem]) rfl ⟨rfl, ?_⟩
      unfold Bl
      go_grown
  · clear h
    go_enter Tryz.func10, Tryz.ntmps10
    go_wp2_with fail
    refine (rwithin_n w.heap.size a b c d 65535 _ hA (by go_simp) (by go_simp) (by go_simp) (by go_simp)).mono ?_
    rintro e w1 ⟨rfl, rfl⟩
    go_wp2_with fail
    refine bodyPost_ret (v := .tuple #[.agg #[.int .i64 0, .int .i64 0, .int .i64 0, .int .i64 0], .int .i64 2]) (by simp [results, Tryz.results10, go_sem]) rfl ⟨rfl, ?_⟩
    unfold Bl
    go_grown
theorem rlimit_ok (a b c d m : Int) (w : World) (hA : Ams a b c d 10000) (h0 : 10000 ≤ m) (h1 : m ≤ 40000) :
    Calls Tryz.prog 12 #[.agg #[.int .i64 a, .int .i64 b, .int .i64 c, .int .i64 d], .int .i64 m] w fun e w' => e = .returned (.tuple #[.agg #[.int .i64 (ct a b c d m a), .int .i64 (ct a b c d m b), .int .i64 (ct a b c d m c), .int .i64 (blk a b c d m)], .int .i64 0]) ∧ Bl w w' := by
  have l0 : decide (m < 10000) = false := by simpa using h0
  have g0 : decide (40000 < m) = false := by simpa using h1
  go_enter Tryz.func12, Tryz.ntmps12
  go_wp2_with fail
  refine (rwithin_y w.heap.size a b c d 10000 _ hA (by go_simp) (by go_simp) (by go_simp) (by go_simp)).mono ?_
  rintro e w1 ⟨rfl, rfl⟩
  go_wp2_with fail
  refine (rcuts_ok a b c d m _ hA.wide ⟨by omega, by omega⟩).mono ?_
  rintro e w2 ⟨rfl, h2⟩
  obtain ⟨kx, ky, kf, kz, kb⟩ := box44 _ _ _ _ _ _ h2
  have y0 := ky 0 _ rfl; have y1 := ky 1 _ rfl; have y2 := ky 2 _ rfl; have y3 := ky 3 _ rfl
  have f0 := kf 0; have f1 := kf 1; have f2 := kf 2; have f3 := kf 3
  have HB := Lib.hid kb
  clear kx ky kf kz kb h2
  go_wp2_with fail
  refine bodyPost_ret (v := .tuple #[.agg #[.int .i64 (ct a b c d m a), .int .i64 (ct a b c d m b), .int .i64 (ct a b c d m c), .int .i64 (blk a b c d m)], .int .i64 0]) (by simp [results, Tryz.results12, go_sem, y0, y1, y2, y3]) rfl ⟨rfl, ?_⟩
  exact (((HB.out.setCell (Nat.le_succ _) _).setCell (Nat.le_succ _) _).setCell (Nat.le_succ _) _).setCell (Nat.le_succ _) _
theorem rlimit_ink (a b c d m : Int) (w : World) (hA : Ams a b c d 10000) (h : ¬ (10000 ≤ m ∧ m ≤ 40000)) :
    Calls Tryz.prog 12 #[.agg #[.int .i64 a, .int .i64 b, .int .i64 c, .int .i64 d], .int .i64 m] w fun e w' => e = .returned (.tuple #[.agg #[.int .i64 0, .int .i64 0, .int .i64 0, .int .i64 0], .int .i64 390]) ∧ Bl w w' := by
  by_cases x0 : m < 10000
  · have l0 : decide (m < 10000) = true := by simpa using x0
    clear h
    go_enter Tryz.func12, Tryz.ntmps12
    go_wp2_with fail
    refine (rwithin_y w.heap.size a b c d 10000 _ hA (by go_simp) (by go_simp) (by go_simp) (by go_simp)).mono ?_
    rintro e w1 ⟨rfl, rfl⟩
    go_wp2_with fail
    refine bodyPost_ret (v := .tuple #[.agg #[.int .i64 0, .int .i64 0, .int .i64 0, .int .i64 0], .int .i64 390]) (by simp [results, Tryz.results12, go_sem]) rfl ⟨rfl, ?_⟩
    unfold Bl
    go_grown
  · have l0 : decide (m < 10000) = false := by simpa using x0
    have g1 : 40000 < m := by omega
    have g0 : decide (40000 < m) = true := by simpa using g1
    clear h
    go_enter Tryz.func12, Tryz.ntmps12
    go_wp2_with fail
    refine (rwithin_y w.heap.size a b c d 10000 _ hA (by go_simp) (by go_simp) (by go_simp) (by go_simp)).mono ?_
    rintro e w1 ⟨rfl, rfl⟩
    go_wp2_with fail
    refine bodyPost_ret (v := .tuple #[.agg #[.int .i64 0, .int .i64 0, .int .i64 0, .int .i64 0], .int .i64 390]) (by simp [results, Tryz.results12, go_sem]) rfl ⟨rfl, ?_⟩
    unfold Bl
    go_grown
theorem rlimit_arg (a b c d m : Int) (w : World) (hA : ¬ Ams a b c d 10000) :
    Calls Tryz.prog 12 #[.agg #[.int .i64 a, .int .i64 b, .int .i64 c, .int .i64 d], .int .i64 m] w fun e w' => e = .returned (.tuple #[.agg #[.int .i64 0, .int .i64 0, .int .i64 0, .int .i64 0], .int .i64 2]) ∧ Bl w w' := by
  go_enter Tryz.func12, Tryz.ntmps12
  go_wp2_with fail
  refine (rwithin_n w.heap.size a b c d 10000 _ hA (by go_simp) (by go_simp) (by go_simp) (by go_simp)).mono ?_
  rintro e w1 ⟨rfl, rfl⟩
  go_wp2_with fail
  refine bodyPost_ret (v := .tuple #[.agg #[.int .i64 0, .int .i64 0, .int .i64 0, .int .i64 0], .int .i64 2]) (by simp [results, Tryz.results12, go_sem]) rfl ⟨rfl, ?_⟩
  unfold Bl
  go_grown
theorem total_pair (a b c d : Int) : ∃ t e0 : Int, (∀ w : World, Calls Tryz.prog 7 #[.agg #[.int .i64 a, .int .i64 b, .int .i64 c, .int .i64 d]] w fun e w' => e = .returned (.tuple #[.int .i64 t, .int .i64 e0]) ∧ Bl w w') ∧ ∀ w : World, Calls Tryz.prog 8 #[.agg #[.int .i64 a, .int .i64 b, .int .i64 c, .int .i64 d]] w fun e w' => e = .returned (.tuple #[.int .i64 t, .int .i64 e0]) ∧ Bl w w' := by
  by_cases h : Ams a b c d 65535
  · exact ⟨_, _, fun w => totalx_ok a b c d w h.1 h.2.1 h.2.2.1 h.2.2.2, fun w => rtotal_ok a b c d w h⟩
  · exact ⟨_, _, fun w => totalx_no a b c d w h, fun w => rtotal_no a b c d w h⟩
theorem cut_pair (a b c d m : Int) : ∃ p q r s e0 : Int, (∀ w : World, Calls Tryz.prog 9 #[.agg #[.int .i64 a, .int .i64 b, .int .i64 c, .int .i64 d], .int .i64 m] w fun e w' => e = .returned (.tuple #[.agg #[.int .i64 p, .int .i64 q, .int .i64 r, .int .i64 s], .int .i64 e0]) ∧ Bl w w') ∧ ∀ w : World, Calls Tryz.prog 10 #[.agg #[.int .i64 a, .int .i64 b, .int .i64 c, .int .i64 d], .int .i64 m] w fun e w' => e = .returned (.tuple #[.agg #[.int .i64 p, .int .i64 q, .int .i64 r, .int .i64 s], .int .i64 e0]) ∧ Bl w w' := by
  by_cases h : Ams a b c d 65535 ∧ Am m 262140
  · exact ⟨_, _, _, _, _, fun w => cutx_ok a b c d m w h.1.1 h.1.2.1 h.1.2.2.1 h.1.2.2.2 h.2, fun w => rcut_ok a b c d m w h.1 h.2⟩
  · exact ⟨_, _, _, _, _, fun w => cutx_no a b c d m w h, fun w => rcut_no a b c d m w h⟩
theorem limit_pair (a b c d m : Int) : ∃ p q r s e0 : Int, (∀ w : World, Calls Tryz.prog 11 #[.agg #[.int .i64 a, .int .i64 b, .int .i64 c, .int .i64 d], .int .i64 m] w fun e w' => e = .returned (.tuple #[.agg #[.int .i64 p, .int .i64 q, .int .i64 r, .int .i64 s], .int .i64 e0]) ∧ Bl w w') ∧ ∀ w : World, Calls Tryz.prog 12 #[.agg #[.int .i64 a, .int .i64 b, .int .i64 c, .int .i64 d], .int .i64 m] w fun e w' => e = .returned (.tuple #[.agg #[.int .i64 p, .int .i64 q, .int .i64 r, .int .i64 s], .int .i64 e0]) ∧ Bl w w' := by
  by_cases h : Ams a b c d 10000
  · by_cases h1 : 10000 ≤ m ∧ m ≤ 40000
    · exact ⟨_, _, _, _, _, fun w => limitx_ok a b c d m w h h1.1 h1.2, fun w => rlimit_ok a b c d m w h h1.1 h1.2⟩
    · exact ⟨_, _, _, _, _, fun w => limitx_ink a b c d m w h h1, fun w => rlimit_ink a b c d m w h h1⟩
  · exact ⟨_, _, _, _, _, fun w => limitx_arg a b c d m w h, fun w => rlimit_arg a b c d m w h⟩
end Go.Proofs.YthdilefgacgbdaaGreatDoor
