/- Contracts of ink and of its reference at any amounts: Limit; the reference's within, Total, Cuts, Cut, Limit. -/
import Derived.Test.YthdilefgacgbdaaGreatDoorInH
namespace Go.Proofs.YthdilefgacgbdaaGreatDoor
open Go.RowKit
set_option maxRecDepth 20000
set_option maxHeartbeats 3200000

theorem isLimit_y (m : Int) (w : World) (h0 : 10000 ≤ m) (h1 : m ≤ 40000) : Calls Tryz.prog 28 #[.int .i64 m] w fun e w' => e = .returned (.bool true) ∧ w = w' := by
  have f0 : decide (10000 ≤ m) = true := by simpa using h0
  have f1 : decide (m ≤ 40000) = true := by simpa using h1
  go_enter Tryz.func28, Tryz.ntmps28
  go_wp2_with fail
  go_ret
  exact ⟨rfl, rfl⟩
theorem isLimit_n (m : Int) (w : World) (h : ¬ (10000 ≤ m ∧ m ≤ 40000)) : Calls Tryz.prog 28 #[.int .i64 m] w fun e w' => e = .returned (.bool false) ∧ w = w' := by
  by_cases h0 : 10000 ≤ m
  · have h1 : ¬ m ≤ 40000 := fun h1 => h ⟨h0, h1⟩
    clear h
    have f0 : decide (10000 ≤ m) = true := by simpa using h0
    have f1 : decide (m ≤ 40000) = false := by simpa using h1
    go_enter Tryz.func28, Tryz.ntmps28
    go_wp2_with fail
    go_ret
    exact ⟨rfl, rfl⟩
  · clear h
    have f0 : decide (10000 ≤ m) = false := by simpa using h0
    go_enter Tryz.func28, Tryz.ntmps28
    go_wp2_with fail
    go_ret
    exact ⟨rfl, rfl⟩
theorem Ams.wide {a b c d : Int} (h : Ams a b c d 10000) : Ams a b c d 65535 :=
  ⟨⟨h.1.1, by have := h.1.2; omega⟩, ⟨h.2.1.1, by have := h.2.1.2; omega⟩, ⟨h.2.2.1.1, by have := h.2.2.1.2; omega⟩, ⟨h.2.2.2.1, by have := h.2.2.2.2; omega⟩⟩
theorem limitx_ok (a b c d m : Int) (w : World) (hA : Ams a b c d 10000) (h0 : 10000 ≤ m) (h1 : m ≤ 40000) :
    Calls Tryz.prog 11 #[.agg #[.int .i64 a, .int .i64 b, .int .i64 c, .int .i64 d], .int .i64 m] w
      fun e w' => e = .returned (.tuple #[.agg #[.int .i64 (ct a b c d m a), .int .i64 (ct a b c d m b), .int .i64 (ct a b c d m c), .int .i64 (blk a b c d m)], .int .i64 0]) ∧ Bl w w' := by
  go_enter Tryz.func11, Tryz.ntmps11
  go_wp2_with fail
  refine (within_y a b c d 10000 _ hA).mono ?_
  rintro e w1 ⟨rfl, h1⟩
  go_wp2_with fail
  refine (hold_yes 2 _).mono ?_
  rintro e w2 ⟨rfl, rfl⟩
  obtain ⟨kx, ky, kf, kz, kb⟩ := box44 _ _ _ _ _ _ h1
  have x0 := kx 0 _ rfl; have x1 := kx 1 _ rfl; have x2 := kx 2 _ rfl; have x3 := kx 3 _ rfl
  have HY := Lib.hid ky; have HF := Lib.hid kf; have HB := Lib.hid kb; have HZ := Lib.hid kz
  clear kx ky kf kb kz h1
  go_wp2_with fail
  refine (isLimit_y m _ h0 h1).mono ?_
  rintro e w2 ⟨rfl, rfl⟩
  go_wp2_with fail
  refine (hold_yes 390 _).mono ?_
  rintro e w2 ⟨rfl, rfl⟩
  go_wp2_with fail
  refine (made_ok a b c d m _ hA.wide.1 hA.wide.2.1 hA.wide.2.2.1 hA.wide.2.2.2 ⟨by omega, by omega⟩).mono ?_
  rintro e w2 ⟨rfl, h2⟩
  have y0 := kept h2 (HY.out 0 _ rfl); have y1 := kept h2 (HY.out 1 _ rfl); have y2 := kept h2 (HY.out 2 _ rfl); have y3 := kept h2 (HY.out 3 _ rfl)
  have f0 := kept_fz h2 HZ.out (HF.out 0); have f1 := kept_fz h2 HZ.out (HF.out 1); have f2 := kept_fz h2 HZ.out (HF.out 2); have f3 := kept_fz h2 HZ.out (HF.out 3)
  have hb3 : Below w.heap.size w w2 := HB.out.trans (h2.mono HB.out.size)
  have HB3 := Lib.hid hb3; clear hb3 h2
  go_wp2_with fail
  refine bodyPost_ret (v := .tuple #[.agg #[.int .i64 (ct a b c d m a), .int .i64 (ct a b c d m b), .int .i64 (ct a b c d m c), .int .i64 (blk a b c d m)], .int .i64 0]) (by simp [results, Tryz.results11, go_sem, y0, y1, y2, y3]) rfl ⟨rfl, ?_⟩
  exact (((HB3.out.setCell (Nat.le_succ _) _).setCell (Nat.le_succ _) _).setCell (Nat.le_succ _) _).setCell (Nat.le_succ _) _
theorem limitx_ink (a b c d m : Int) (w : World) (hA : Ams a b c d 10000) (h : ¬ (10000 ≤ m ∧ m ≤ 40000)) :
    Calls Tryz.prog 11 #[.agg #[.int .i64 a, .int .i64 b, .int .i64 c, .int .i64 d], .int .i64 m] w
      fun e w' => e = .returned (.tuple #[.agg #[.int .i64 0, .int .i64 0, .int .i64 0, .int .i64 0], .int .i64 390]) ∧ Bl w w' := by
  go_enter Tryz.func11, Tryz.ntmps11
  go_wp2_with fail
  refine (within_y a b c d 10000 _ hA).mono ?_
  rintro e w1 ⟨rfl, h1⟩
  go_wp2_with fail
  refine (hold_yes 2 _).mono ?_
  rintro e w2 ⟨rfl, rfl⟩
  obtain ⟨kx, ky, kf, kz, kb⟩ := box44 _ _ _ _ _ _ h1
  have x0 := kx 0 _ rfl; have x1 := kx 1 _ rfl; have x2 := kx 2 _ rfl; have x3 := kx 3 _ rfl
  have HY := Lib.hid ky; have HF := Lib.hid kf; have HB := Lib.hid kb; have HZ := Lib.hid kz
  clear kx ky kf kb kz h1
  go_wp2_with fail
  refine (isLimit_n m _ h).mono ?_
  rintro e w2 ⟨rfl, rfl⟩
  go_wp2_with fail
  refine (hold_no 390 _).mono ?_
  rintro e w2 ⟨rfl, rfl⟩
  go_wp2_with fail
  refine (made_no 390 m _ _ (by omega)).mono ?_
  rintro e w2 ⟨rfl, h2⟩
  have y0 := kept h2 (HY.out 0 _ rfl); have y1 := kept h2 (HY.out 1 _ rfl); have y2 := kept h2 (HY.out 2 _ rfl); have y3 := kept h2 (HY.out 3 _ rfl)
  have f0 := kept_fz h2 HZ.out (HF.out 0); have f1 := kept_fz h2 HZ.out (HF.out 1); have f2 := kept_fz h2 HZ.out (HF.out 2); have f3 := kept_fz h2 HZ.out (HF.out 3)
  have hb3 : Below w.heap.size w w2 := HB.out.trans (h2.mono HB.out.size)
  have HB3 := Lib.hid hb3; clear hb3 h2
  go_wp2_with fail
  refine bodyPost_ret (v := .tuple #[.agg #[.int .i64 0, .int .i64 0, .int .i64 0, .int .i64 0], .int .i64 390]) (by simp [results, Tryz.results11, go_sem, y0, y1, y2, y3]) rfl ⟨rfl, ?_⟩
  exact (((HB3.out.setCell (Nat.le_succ _) _).setCell (Nat.le_succ _) _).setCell (Nat.le_succ _) _).setCell (Nat.le_succ _) _
theorem limitx_arg (a b c d m : Int) (w : World) (hA : ¬ Ams a b c d 10000) :
    Calls Tryz.prog 11 #[.agg #[.int .i64 a, .int .i64 b, .int .i64 c, .int .i64 d], .int .i64 m] w
      fun e w' => e = .returned (.tuple #[.agg #[.int .i64 0, .int .i64 0, .int .i64 0, .int .i64 0], .int .i64 2]) ∧ Bl w w' := by
  go_enter Tryz.func11, Tryz.ntmps11
  go_wp2_with fail
  refine (within_no a b c d 10000 _ (by omega) hA).mono ?_
  rintro e w1 ⟨rfl, h1⟩
  go_wp2_with fail
  refine (hold_no 2 _).mono ?_
  rintro e w2 ⟨rfl, rfl⟩
  obtain ⟨kx, ky, kf, kz, kb⟩ := box44 _ _ _ _ _ _ h1
  have x0 := kx 0 _ rfl; have x1 := kx 1 _ rfl; have x2 := kx 2 _ rfl; have x3 := kx 3 _ rfl
  have HY := Lib.hid ky; have HF := Lib.hid kf; have HB := Lib.hid kb; have HZ := Lib.hid kz
  clear kx ky kf kb kz h1
  go_wp2_with fail
  refine (made_no 2 m _ _ (by omega)).mono ?_
  rintro e w2 ⟨rfl, h2⟩
  have y0 := kept h2 (HY.out 0 _ rfl); have y1 := kept h2 (HY.out 1 _ rfl); have y2 := kept h2 (HY.out 2 _ rfl); have y3 := kept h2 (HY.out 3 _ rfl)
  have f0 := kept_fz h2 HZ.out (HF.out 0); have f1 := kept_fz h2 HZ.out (HF.out 1); have f2 := kept_fz h2 HZ.out (HF.out 2); have f3 := kept_fz h2 HZ.out (HF.out 3)
  have hb3 : Below w.heap.size w w2 := HB.out.trans (h2.mono HB.out.size)
  have HB3 := Lib.hid hb3; clear hb3 h2
  go_wp2_with fail
  refine bodyPost_ret (v := .tuple #[.agg #[.int .i64 0, .int .i64 0, .int .i64 0, .int .i64 0], .int .i64 2]) (by simp [results, Tryz.results11, go_sem, y0, y1, y2, y3]) rfl ⟨rfl, ?_⟩
  exact (((HB3.out.setCell (Nat.le_succ _) _).setCell (Nat.le_succ _) _).setCell (Nat.le_succ _) _).setCell (Nat.le_succ _) _
theorem rwithin_y (q : Nat) (a b c d m : Int) (w : World) (h : Ams a b c d m)
    (h0 : w.cell? ⟨q, 0, none⟩ = some (.int .i64 a)) (h1 : w.cell? ⟨q, 1, none⟩ = some (.int .i64 b)) (h2 : w.cell? ⟨q, 2, none⟩ = some (.int .i64 c)) (h3 : w.cell? ⟨q, 3, none⟩ = some (.int .i64 d)) :
    Calls Tryz.prog 24 #[.slice (some ⟨q, 0, none⟩) 4 4, .int .i64 m] w fun e w' => e = .returned (.bool true) ∧ w = w' := by
  obtain ⟨⟨a0, a1⟩, ⟨b0, b1⟩, ⟨c0, c1⟩, ⟨d0, d1⟩⟩ := h
  have la : decide (a < 0) = false := by simpa using a0
  have ga : decide (m < a) = false := by simpa using a1
  have lb : decide (b < 0) = false := by simpa using b0
  have gb : decide (m < b) = false := by simpa using b1
  have lc : decide (c < 0) = false := by simpa using c0
  have gc : decide (m < c) = false := by simpa using c1
  have ld : decide (d < 0) = false := by simpa using d0
  have gd : decide (m < d) = false := by simpa using d1
  go_enter Tryz.func24, Tryz.ntmps24
  go_wp2_with fail
  refine wp_loop_rounds 5 ?_
  rw [rounds_succ]; go_wp2_with fail
  rw [rounds_succ]; go_wp2_with fail
  rw [rounds_succ]; go_wp2_with fail
  rw [rounds_succ]; go_wp2_with fail
  rw [rounds_succ]; go_wp2_with fail
  go_ret
  exact ⟨rfl, rfl⟩
theorem rwithin_n (q : Nat) (a b c d m : Int) (w : World) (h : ¬ Ams a b c d m)
    (h0 : w.cell? ⟨q, 0, none⟩ = some (.int .i64 a)) (h1 : w.cell? ⟨q, 1, none⟩ = some (.int .i64 b)) (h2 : w.cell? ⟨q, 2, none⟩ = some (.int .i64 c)) (h3 : w.cell? ⟨q, 3, none⟩ = some (.int .i64 d)) :
    Calls Tryz.prog 24 #[.slice (some ⟨q, 0, none⟩) 4 4, .int .i64 m] w fun e w' => e = .returned (.bool false) ∧ w = w' := by
  unfold Ams Am at h
  by_cases xa : a < 0
  · have la : decide (a < 0) = true := by simpa using xa
    clear h
    go_enter Tryz.func24, Tryz.ntmps24
    go_wp2_with fail
    refine wp_loop_rounds 5 ?_
    rw [rounds_succ]; go_wp2_with fail
    go_ret
    exact ⟨rfl, rfl⟩
  have la : decide (a < 0) = false := by simpa using xa
  by_cases ya : m < a
  · have ga : decide (m < a) = true := by simpa using ya
    clear h
    go_enter Tryz.func24, Tryz.ntmps24
    go_wp2_with fail
    refine wp_loop_rounds 5 ?_
    rw [rounds_succ]; go_wp2_with fail
    go_ret
    exact ⟨rfl, rfl⟩
  have ga : decide (m < a) = false := by simpa using ya
  by_cases xb : b < 0
  · have lb : decide (b < 0) = true := by simpa using xb
    clear h
    go_enter Tryz.func24, Tryz.ntmps24
    go_wp2_with fail
    refine wp_loop_rounds 5 ?_
    rw [rounds_succ]; go_wp2_with fail
    rw [rounds_succ]; go_wp2_with fail
    go_ret
    exact ⟨rfl, rfl⟩
  have lb : decide (b < 0) = false := by simpa using xb
  by_cases yb : m < b
  · have gb : decide (m < b) = true := by simpa using yb
    clear h
    go_enter Tryz.func24, Tryz.ntmps24
    go_wp2_with fail
    refine wp_loop_rounds 5 ?_
    rw [rounds_succ]; go_wp2_with fail
    rw [rounds_succ]; go_wp2_with fail
    go_ret
    exact ⟨rfl, rfl⟩
  have gb : decide (m < b) = false := by simpa using yb
  by_cases xc : c < 0
  · have lc : decide (c < 0) = true := by simpa using xc
    clear h
    go_enter Tryz.func24, Tryz.ntmps24
    go_wp2_with fail
    refine wp_loop_rounds 5 ?_
    rw [rounds_succ]; go_wp2_with fail
    rw [rounds_succ]; go_wp2_with fail
    rw [rounds_succ]; go_wp2_with fail
    go_ret
    exact ⟨rfl, rfl⟩
  have lc : decide (c < 0) = false := by simpa using xc
  by_cases yc : m < c
  · have gc : decide (m < c) = true := by simpa using yc
    clear h
    go_enter Tryz.func24, Tryz.ntmps24
    go_wp2_with fail
    refine wp_loop_rounds 5 ?_
    rw [rounds_succ]; go_wp2_with fail
    rw [rounds_succ]; go_wp2_with fail
    rw [rounds_succ]; go_wp2_with fail
    go_ret
    exact ⟨rfl, rfl⟩
  have gc : decide (m < c) = false := by simpa using yc
  by_cases xd : d < 0
  · have ld : decide (d < 0) = true := by simpa using xd
    clear h
    go_enter Tryz.func24, Tryz.ntmps24
    go_wp2_with fail
    refine wp_loop_rounds 5 ?_
    rw [rounds_succ]; go_wp2_with fail
    rw [rounds_succ]; go_wp2_with fail
    rw [rounds_succ]; go_wp2_with fail
    rw [rounds_succ]; go_wp2_with fail
    go_ret
    exact ⟨rfl, rfl⟩
  have ld : decide (d < 0) = false := by simpa using xd
  have yd : m < d := by omega
  have gd : decide (m < d) = true := by simpa using yd
  clear h
  go_enter Tryz.func24, Tryz.ntmps24
  go_wp2_with fail
  refine wp_loop_rounds 5 ?_
  rw [rounds_succ]; go_wp2_with fail
  rw [rounds_succ]; go_wp2_with fail
  rw [rounds_succ]; go_wp2_with fail
  rw [rounds_succ]; go_wp2_with fail
  go_ret
  exact ⟨rfl, rfl⟩
end Go.Proofs.YthdilefgacgbdaaGreatDoor
