/- Contracts of ink: cutting where the total is too great. -/
import Derived.Test.YthdilefgacgbdaaGreatDoorInB
namespace Go.Proofs.YthdilefgacgbdaaGreatDoor
open Go.RowKit
set_option maxRecDepth 20000
set_option maxHeartbeats 3200000

theorem cut_a (a b c d m : Int) (w : World) (ha : Am a 65535) (hb : Am b 65535) (hc : Am c 65535) (hd : Am d 65535) (hm : Am m 262140) (h : ¬ a + b + c + d ≤ m) (h5 : d ≤ m) :
    Calls Tryz.prog 26 #[.agg #[.int .i64 a, .int .i64 b, .int .i64 c, .int .i64 d], .int .i64 m] w fun e w' => e = .returned (.agg #[.int .i64 (scl (a + b + c) (m - d) a), .int .i64 (scl (a + b + c) (m - d) b), .int .i64 (scl (a + b + c) (m - d) c), .int .i64 d]) ∧ Below w.heap.size w w' := by
  have hk : 0 ≤ d ∧ d ≤ m := ⟨hd.1, h5⟩
  go_enter Tryz.func26, Tryz.ntmps26
  go_wp2_with fail
  obtain ⟨W, hW, hbw, hz, c0, c1, c2, c3, c4, co, fo⟩ := boxed3 w a b c d m 50 3 22 #[.int .i64 0, .int .i64 0, .int .i64 0, .int .i64 0]
  rw [hW]
  clear hW
  obtain ⟨g, hg⟩ : ∃ g, w.heap.size = g := ⟨_, rfl⟩
  rw [hg] at hbw hz c0 c1 c2 c3 c4 co fo ⊢
  have HG := Lib.hid hg; clear hg
  have HZ := Lib.hid hz; clear hz
  have CO := Lib.hid co; clear co
  have FO := Lib.hid fo; clear fo
  go_region_held3 (fun w' => w'.cell? ⟨g, 0, none⟩ = some (.int .i64 a) ∧ w'.cell? ⟨g, 1, none⟩ = some (.int .i64 b) ∧ w'.cell? ⟨g, 2, none⟩ = some (.int .i64 c) ∧ w'.cell? ⟨g, 3, none⟩ = some (.int .i64 d) ∧ w'.cell? ⟨g + 1, 0, none⟩ = some (.int .i64 m)) (go_keep)
    (first | (go_at_call 23; refine (total_keep a b c d m g _ ha hb hc hd ?_ ?_ ?_ ?_ ?_).mono ?_; (simp [*]); (simp [*]); (simp [*]); (simp [*]); (simp [*]); rintro e w1 ⟨rfl, d0, d1, d2, d3, d4, hb1⟩))
  have hbd : Below W.heap.size W w1 := (Below.refl _ _).drew.trans (hb1.mono (by simp))
  have z1 := hbd.size
  have hz := HZ.out
  have r0 := kept hbd ((CO.out 0).trans (by rfl) : W.cell? ⟨g + 1 + 1, 0, none⟩ = some (.int .i64 0))
  have r1 := kept hbd ((CO.out 1).trans (by rfl) : W.cell? ⟨g + 1 + 1, 1, none⟩ = some (.int .i64 0))
  have r2 := kept hbd ((CO.out 2).trans (by rfl) : W.cell? ⟨g + 1 + 1, 2, none⟩ = some (.int .i64 0))
  have r3 := kept hbd ((CO.out 3).trans (by rfl) : W.cell? ⟨g + 1 + 1, 3, none⟩ = some (.int .i64 0))
  have q0 := kept_fz hbd (by show g + 1 + 1 < _; omega) (FO.out 0)
  have q1 := kept_fz hbd (by show g + 1 + 1 < _; omega) (FO.out 1)
  have q2 := kept_fz hbd (by show g + 1 + 1 < _; omega) (FO.out 2)
  have q3 := kept_fz hbd (by show g + 1 + 1 < _; omega) (FO.out 3)
  have l0 : g < w1.heap.size := by omega
  have l1 : g + 1 < w1.heap.size := by omega
  have l2 : g + 1 + 1 < w1.heap.size := by omega
  have l3 : g + 1 + 1 < w1.heap.size + 1 := by omega
  have HB := Lib.hid hbd; clear hbd hb1
  have HZ' := Lib.hid hz; clear hz z1
  have hs : Am (a + b + c) 196605 := by have := ha.1; have := ha.2; have := hb.1; have := hb.2; have := hc.1; have := hc.2; exact ⟨by omega, by omega⟩
  go_wp2_with fail
  refine (sum3_ok g a b c _ ha hb hc (c_old _ d0) (c_old _ d1) (c_old _ d2)).mono ?_
  rintro e w2 ⟨rfl, rfl⟩
  go_wp2_with fail
  refine wp_loop_rounds 4 ?_
  rw [rounds_succ]; go_wp2_with fail
  refine (scaled_ok a (a + b + c) m (d) _ _ _ _ ha hs hm hk (by simp [*]) (c_old _ (c_old _ d4)) (by simp [*])).mono ?_
  rintro e w2 ⟨rfl, rfl⟩
  go_wp2_with fail
  rw [rounds_succ]; go_wp2_with fail
  refine (scaled_ok b (a + b + c) m (d) _ _ _ _ hb hs hm hk (by simp [*]) (c_old _ (c_old _ d4)) (by simp [*])).mono ?_
  rintro e w2 ⟨rfl, rfl⟩
  go_wp2_with fail
  rw [rounds_succ]; go_wp2_with fail
  refine (scaled_ok c (a + b + c) m (d) _ _ _ _ hc hs hm hk (by simp [*]) (c_old _ (c_old _ d4)) (by simp [*])).mono ?_
  rintro e w2 ⟨rfl, rfl⟩
  go_wp2_with fail
  rw [rounds_succ]; go_wp2_with fail
  refine bodyPost_ret (v := .agg #[.int .i64 (scl (a + b + c) (m - d) a), .int .i64 (scl (a + b + c) (m - d) b), .int .i64 (scl (a + b + c) (m - d) c), .int .i64 (d)]) (by simp [results, Tryz.results26, go_sem, r0, r1, r2, r3, l2, l3]) rfl ⟨rfl, ?_⟩
  have hb2 : Below w.heap.size w w1 := by rw [HG.out]; exact hbw.trans (HB.out.mono (by rw [HZ.out]; omega))
  have hb3 := (((hb2.setCell (p := ⟨g + 1 + 1, 0, none⟩) (by rw [HG.out]; show g ≤ g + 1 + 1; omega) (.int .i64 (scl (a + b + c) (m - d) a))).setCell (p := ⟨g + 1 + 1, 1, none⟩) (by rw [HG.out]; show g ≤ g + 1 + 1; omega) (.int .i64 (scl (a + b + c) (m - d) b))).setCell (p := ⟨g + 1 + 1, 2, none⟩) (by rw [HG.out]; show g ≤ g + 1 + 1; omega) (.int .i64 (scl (a + b + c) (m - d) c))).setCell (p := ⟨g + 1 + 1, 3, none⟩) (by rw [HG.out]; show g ≤ g + 1 + 1; omega) (.int .i64 d)
  exact (hb3.alloc hb3.size _).alloc (by have := hb3.size; simp at this ⊢; omega) _
theorem cut_b (a b c d m : Int) (w : World) (ha : Am a 65535) (hb : Am b 65535) (hc : Am c 65535) (hd : Am d 65535) (hm : Am m 262140) (h : ¬ a + b + c + d ≤ m) (h5 : ¬ d ≤ m) :
    Calls Tryz.prog 26 #[.agg #[.int .i64 a, .int .i64 b, .int .i64 c, .int .i64 d], .int .i64 m] w fun e w' => e = .returned (.agg #[.int .i64 (scl (a + b + c) (m - m) a), .int .i64 (scl (a + b + c) (m - m) b), .int .i64 (scl (a + b + c) (m - m) c), .int .i64 m]) ∧ Below w.heap.size w w' := by
  have hk : 0 ≤ m ∧ m ≤ m := ⟨hm.1, Int.le_refl _⟩
  go_enter Tryz.func26, Tryz.ntmps26
  go_wp2_with fail
  obtain ⟨W, hW, hbw, hz, c0, c1, c2, c3, c4, co, fo⟩ := boxed3 w a b c d m 50 3 22 #[.int .i64 0, .int .i64 0, .int .i64 0, .int .i64 0]
  rw [hW]
  clear hW
  obtain ⟨g, hg⟩ : ∃ g, w.heap.size = g := ⟨_, rfl⟩
  rw [hg] at hbw hz c0 c1 c2 c3 c4 co fo ⊢
  have HG := Lib.hid hg; clear hg
  have HZ := Lib.hid hz; clear hz
  have CO := Lib.hid co; clear co
  have FO := Lib.hid fo; clear fo
  go_region_held3 (fun w' => w'.cell? ⟨g, 0, none⟩ = some (.int .i64 a) ∧ w'.cell? ⟨g, 1, none⟩ = some (.int .i64 b) ∧ w'.cell? ⟨g, 2, none⟩ = some (.int .i64 c) ∧ w'.cell? ⟨g, 3, none⟩ = some (.int .i64 d) ∧ w'.cell? ⟨g + 1, 0, none⟩ = some (.int .i64 m)) (go_keep)
    (first | (go_at_call 23; refine (total_keep a b c d m g _ ha hb hc hd ?_ ?_ ?_ ?_ ?_).mono ?_; (simp [*]); (simp [*]); (simp [*]); (simp [*]); (simp [*]); rintro e w1 ⟨rfl, d0, d1, d2, d3, d4, hb1⟩))
  have hbd : Below W.heap.size W w1 := (Below.refl _ _).drew.trans (hb1.mono (by simp))
  have z1 := hbd.size
  have hz := HZ.out
  have r0 := kept hbd ((CO.out 0).trans (by rfl) : W.cell? ⟨g + 1 + 1, 0, none⟩ = some (.int .i64 0))
  have r1 := kept hbd ((CO.out 1).trans (by rfl) : W.cell? ⟨g + 1 + 1, 1, none⟩ = some (.int .i64 0))
  have r2 := kept hbd ((CO.out 2).trans (by rfl) : W.cell? ⟨g + 1 + 1, 2, none⟩ = some (.int .i64 0))
  have r3 := kept hbd ((CO.out 3).trans (by rfl) : W.cell? ⟨g + 1 + 1, 3, none⟩ = some (.int .i64 0))
  have q0 := kept_fz hbd (by show g + 1 + 1 < _; omega) (FO.out 0)
  have q1 := kept_fz hbd (by show g + 1 + 1 < _; omega) (FO.out 1)
  have q2 := kept_fz hbd (by show g + 1 + 1 < _; omega) (FO.out 2)
  have q3 := kept_fz hbd (by show g + 1 + 1 < _; omega) (FO.out 3)
  have l0 : g < w1.heap.size := by omega
  have l1 : g + 1 < w1.heap.size := by omega
  have l2 : g + 1 + 1 < w1.heap.size := by omega
  have l3 : g + 1 + 1 < w1.heap.size + 1 := by omega
  have HB := Lib.hid hbd; clear hbd hb1
  have HZ' := Lib.hid hz; clear hz z1
  have hs : Am (a + b + c) 196605 := by have := ha.1; have := ha.2; have := hb.1; have := hb.2; have := hc.1; have := hc.2; exact ⟨by omega, by omega⟩
  go_wp2_with fail
  refine (sum3_ok g a b c _ ha hb hc (c_old _ d0) (c_old _ d1) (c_old _ d2)).mono ?_
  rintro e w2 ⟨rfl, rfl⟩
  go_wp2_with fail
  refine wp_loop_rounds 4 ?_
  rw [rounds_succ]; go_wp2_with fail
  refine (scaled_ok a (a + b + c) m (m) _ _ _ _ ha hs hm hk (by simp [*]) (c_old _ (c_old _ d4)) (by simp [*])).mono ?_
  rintro e w2 ⟨rfl, rfl⟩
  go_wp2_with fail
  rw [rounds_succ]; go_wp2_with fail
  refine (scaled_ok b (a + b + c) m (m) _ _ _ _ hb hs hm hk (by simp [*]) (c_old _ (c_old _ d4)) (by simp [*])).mono ?_
  rintro e w2 ⟨rfl, rfl⟩
  go_wp2_with fail
  rw [rounds_succ]; go_wp2_with fail
  refine (scaled_ok c (a + b + c) m (m) _ _ _ _ hc hs hm hk (by simp [*]) (c_old _ (c_old _ d4)) (by simp [*])).mono ?_
  rintro e w2 ⟨rfl, rfl⟩
  go_wp2_with fail
  rw [rounds_succ]; go_wp2_with fail
  refine bodyPost_ret (v := .agg #[.int .i64 (scl (a + b + c) (m - m) a), .int .i64 (scl (a + b + c) (m - m) b), .int .i64 (scl (a + b + c) (m - m) c), .int .i64 (m)]) (by simp [results, Tryz.results26, go_sem, r0, r1, r2, r3, l2, l3]) rfl ⟨rfl, ?_⟩
  have hb2 : Below w.heap.size w w1 := by rw [HG.out]; exact hbw.trans (HB.out.mono (by rw [HZ.out]; omega))
  have hb3 := (((hb2.setCell (p := ⟨g + 1 + 1, 0, none⟩) (by rw [HG.out]; show g ≤ g + 1 + 1; omega) (.int .i64 (scl (a + b + c) 0 a))).setCell (p := ⟨g + 1 + 1, 1, none⟩) (by rw [HG.out]; show g ≤ g + 1 + 1; omega) (.int .i64 (scl (a + b + c) 0 b))).setCell (p := ⟨g + 1 + 1, 2, none⟩) (by rw [HG.out]; show g ≤ g + 1 + 1; omega) (.int .i64 (scl (a + b + c) 0 c))).setCell (p := ⟨g + 1 + 1, 3, none⟩) (by rw [HG.out]; show g ≤ g + 1 + 1; omega) (.int .i64 m)
  exact (hb3.alloc hb3.size _).alloc (by have := hb3.size; simp at this ⊢; omega) _
/-- Cutting, whatever is cut. -/
theorem cut_ok (a b c d m : Int) (w : World) (ha : Am a 65535) (hb : Am b 65535) (hc : Am c 65535) (hd : Am d 65535) (hm : Am m 262140) :
    Calls Tryz.prog 26 #[.agg #[.int .i64 a, .int .i64 b, .int .i64 c, .int .i64 d], .int .i64 m] w fun e w' => e = .returned (.agg #[.int .i64 (ct a b c d m a), .int .i64 (ct a b c d m b), .int .i64 (ct a b c d m c), .int .i64 (blk a b c d m)]) ∧ Below w.heap.size w w' := by
  by_cases h : a + b + c + d ≤ m
  · simp only [ct, blk, if_pos h]
    exact cut_whole a b c d m w ha hb hc hd h
  · simp only [ct, blk, if_neg h]
    by_cases h5 : d ≤ m
    · rw [show min d m = d by omega]
      exact cut_a a b c d m w ha hb hc hd hm h h5
    · rw [show min d m = m by omega]
      exact cut_b a b c d m w ha hb hc hd hm h h5
end Go.Proofs.YthdilefgacgbdaaGreatDoor
