/- Contracts of ink at any amounts: within, Total, Cut, Limit. -/
import Derived.Test.YthdilefgacgbdaaGreatDoorInF
namespace Go.Proofs.YthdilefgacgbdaaGreatDoor
open Go.RowKit
set_option maxRecDepth 20000
set_option maxHeartbeats 3200000

/-- All of four amounts lie from 0 to most. -/
def Ams (a b c d most : Int) : Prop := Am a most ∧ Am b most ∧ Am c most ∧ Am d most
theorem clamp_is {x m y z : Int} (hy : (if x < 0 then 0 else x) = y) (hz : (if m < y then m else y) = z) (hm : 0 ≤ m) : z = x ↔ Am x m := by
  unfold Am
  split at hy <;> split at hz <;> omega

theorem within_any (a b c d m : Int) (w : World) (hm : 0 ≤ m) :
    Calls Tryz.prog 21 #[.agg #[.int .i64 a, .int .i64 b, .int .i64 c, .int .i64 d], .int .i64 m] w fun e w' => (∃ r : Bool, (r = true ↔ Ams a b c d m) ∧ e = .returned (.bool r)) ∧ Bl w w' := by
  obtain ⟨a1, ha1⟩ : ∃ q : Int, (if a < 0 then 0 else a) = q := ⟨_, rfl⟩
  obtain ⟨a2, ha2⟩ : ∃ q : Int, (if m < a1 then m else a1) = q := ⟨_, rfl⟩
  obtain ⟨b1, hb1⟩ : ∃ q : Int, (if b < 0 then 0 else b) = q := ⟨_, rfl⟩
  obtain ⟨b2, hb2⟩ : ∃ q : Int, (if m < b1 then m else b1) = q := ⟨_, rfl⟩
  obtain ⟨c1, hc1⟩ : ∃ q : Int, (if c < 0 then 0 else c) = q := ⟨_, rfl⟩
  obtain ⟨c2, hc2⟩ : ∃ q : Int, (if m < c1 then m else c1) = q := ⟨_, rfl⟩
  obtain ⟨d1, hd1⟩ : ∃ q : Int, (if d < 0 then 0 else d) = q := ⟨_, rfl⟩
  obtain ⟨d2, hd2⟩ : ∃ q : Int, (if m < d1 then m else d1) = q := ⟨_, rfl⟩
  have Ea := Lib.hid (clamp_is ha1 ha2 hm)
  have Eb := Lib.hid (clamp_is hb1 hb2 hm)
  have Ec := Lib.hid (clamp_is hc1 hc2 hm)
  have Ed := Lib.hid (clamp_is hd1 hd2 hm)
  obtain ⟨r, hr⟩ : ∃ r : Bool, decide (a2 = a ∧ b2 = b ∧ c2 = c ∧ d2 = d) = r := ⟨_, rfl⟩
  have hq := am_eq a2 b2 c2 d2 a b c d
  rw [hr] at hq
  have HR := Lib.hid hr
  clear hr
  have hg := am_guard
  go_enter Tryz.func21, Tryz.ntmps21
  go_wp2_with fail
  refine wp_loop_rounds 5 ?_
  rw [rounds_succ]; go_wp2_with fail
  rw [rounds_succ]; go_wp2_with fail
  rw [rounds_succ]; go_wp2_with fail
  rw [rounds_succ]; go_wp2_with fail
  rw [rounds_succ]; go_wp2_with fail
  go_ret
  refine ⟨⟨r, ?_, rfl⟩, ?_⟩
  · rw [← HR.out, decide_eq_true_eq]
    unfold Ams
    rw [← Ea.out, ← Eb.out, ← Ec.out, ← Ed.out]
  · exact (Bl.new _ _).trans (Bl.new _ _)
theorem within_no (a b c d m : Int) (w : World) (hm : 0 ≤ m) (h : ¬ Ams a b c d m) :
    Calls Tryz.prog 21 #[.agg #[.int .i64 a, .int .i64 b, .int .i64 c, .int .i64 d], .int .i64 m] w fun e w' => e = .returned (.bool false) ∧ Bl w w' :=
  (within_any a b c d m w hm).mono fun _ _ ⟨⟨r, hr, he⟩, hb⟩ => by
    cases r with
    | true => exact absurd (hr.1 rfl) h
    | false => exact ⟨he, hb⟩
theorem within_y (a b c d m : Int) (w : World) (h : Ams a b c d m) :
    Calls Tryz.prog 21 #[.agg #[.int .i64 a, .int .i64 b, .int .i64 c, .int .i64 d], .int .i64 m] w fun e w' => e = .returned (.bool true) ∧ Bl w w' :=
  within_yes a b c d m w h.1 h.2.1 h.2.2.1 h.2.2.2

/-- Total, where an amount is too great or below 0. -/
theorem totalx_no (a b c d : Int) (w : World) (h : ¬ Ams a b c d 65535) :
    Calls Tryz.prog 7 #[.agg #[.int .i64 a, .int .i64 b, .int .i64 c, .int .i64 d]] w fun e w' => e = .returned (.tuple #[.int .i64 0, .int .i64 2]) ∧ Bl w w' := by
  go_enter Tryz.func7, Tryz.ntmps7
  go_wp2_with fail
  have hbw := Bl.new w (.cells #[.int .i64 a, .int .i64 b, .int .i64 c, .int .i64 d] 22)
  have hbx := Box.new w a b c d 22
  generalize w.alloc (.cells #[.int .i64 a, .int .i64 b, .int .i64 c, .int .i64 d] 22) = W at hbw hbx ⊢
  obtain ⟨c0, c1, c2, c3⟩ := hbx
  obtain ⟨g, hg⟩ : ∃ g, w.heap.size = g := ⟨_, rfl⟩
  rw [hg] at c0 c1 c2 c3 ⊢
  have HG := Lib.hid hg; clear hg
  have hx : ∃ a' b' c' d' : Int, (Value.agg #[.int .i64 a, .int .i64 b, .int .i64 c, .int .i64 d]) = .agg #[.int .i64 a', .int .i64 b', .int .i64 c', .int .i64 d'] := ⟨a, b, c, d, rfl⟩
  have HX := Lib.hid hx; clear hx
  go_region_held3 (fun w' => w'.cell? ⟨g, 0, none⟩ = some (.int .i64 a) ∧ w'.cell? ⟨g, 1, none⟩ = some (.int .i64 b) ∧ w'.cell? ⟨g, 2, none⟩ = some (.int .i64 c) ∧ w'.cell? ⟨g, 3, none⟩ = some (.int .i64 d) ∧ Bl w w')
    ((go_split_ands; refine ⟨?_, ?_, ?_, ?_, ?_⟩ <;> first | assumption | exact Bl.drew (by assumption) | exact Bl.trans (by assumption) (by assumption) | (simp [*]; done)))
    (first
      | (go_at_call 21; go_split_ands; refine (four_keep (within_no a b c d 65535 _ (by omega) h) (by assumption) (by assumption) (by assumption) (by assumption)).mono ?_; rintro e w1 ⟨rfl, d0, d1, d2, d3, hb1⟩)
      | (go_at_call 20; refine (hold_no 2 _).mono ?_; rintro e w1 ⟨rfl, rfl⟩)
      | (go_at_call 19; go_split_ands; refine (four_keep (madet_no 2 _ _ _ (by omega) HX.out) (by assumption) (by assumption) (by assumption) (by assumption)).mono ?_; rintro e w1 ⟨rfl, d0, d1, d2, d3, hb1⟩))
  all_goals
    go_wp2_with fail
    go_ret2
    exact ⟨rfl, by go_split_ands; assumption⟩

/-- Cut, where it fails. -/
theorem cutx_no (a b c d m : Int) (w : World) (h : ¬ (Ams a b c d 65535 ∧ Am m 262140)) :
    Calls Tryz.prog 9 #[.agg #[.int .i64 a, .int .i64 b, .int .i64 c, .int .i64 d], .int .i64 m] w
      fun e w' => e = .returned (.tuple #[.agg #[.int .i64 0, .int .i64 0, .int .i64 0, .int .i64 0], .int .i64 2]) ∧ Bl w w' := by
  by_cases hA : Ams a b c d 65535
  · have hm : ¬ Am m 262140 := fun hm => h ⟨hA, hm⟩
    clear h
    by_cases hm0 : 0 ≤ m
    · have hm1 : ¬ m ≤ 262140 := fun h => hm ⟨hm0, h⟩
      have f0 : decide (m ≤ 262140) = false := by simpa using hm1
      have f1 : decide (0 ≤ m) = true := by simpa using hm0
      clear hm
      go_enter Tryz.func9, Tryz.ntmps9
      go_wp2_with fail
      refine (within_y a b c d 65535 _ hA).mono ?_
      rintro e w1 ⟨rfl, h1⟩
      go_wp2_with fail
      refine (hold_no 2 _).mono ?_
      rintro e w2 ⟨rfl, rfl⟩
      obtain ⟨kx, ky, kf, kz, kb⟩ := box44 _ _ _ _ _ _ h1
      have x0 := kx 0 _ rfl; have x1 := kx 1 _ rfl; have x2 := kx 2 _ rfl; have x3 := kx 3 _ rfl
      have HY := Lib.hid ky; have HF := Lib.hid kf; have HB := Lib.hid kb; have HZ := Lib.hid kz
      clear kx ky kf kb kz h1
      go_wp2_with fail
      refine (made_no 2 m _ _ (by omega)).mono ?_
      rintro e w2 ⟨rfl, h2⟩
      have y0 := kept h2 (HY.out 0 _ rfl); have y1 := kept h2 (HY.out 1 _ rfl); have y2 := kept h2 (HY.out 2 _ rfl); have y3 := kept h2 (HY.out 3 _ rfl)
      have f0' := kept_fz h2 HZ.out (HF.out 0); have f1' := kept_fz h2 HZ.out (HF.out 1); have f2' := kept_fz h2 HZ.out (HF.out 2); have f3' := kept_fz h2 HZ.out (HF.out 3)
      have hb3 : Below w.heap.size w w2 := HB.out.trans (h2.mono HB.out.size)
      have HB3 := Lib.hid hb3; clear hb3 h2
      go_wp2_with fail
      refine bodyPost_ret (v := .tuple #[.agg #[.int .i64 0, .int .i64 0, .int .i64 0, .int .i64 0], .int .i64 2]) (by simp [results, Tryz.results9, go_sem, y0, y1, y2, y3]) rfl ⟨rfl, ?_⟩
      exact (((HB3.out.setCell (Nat.le_succ _) _).setCell (Nat.le_succ _) _).setCell (Nat.le_succ _) _).setCell (Nat.le_succ _) _
    · have f1 : decide (0 ≤ m) = false := by simpa using hm0
      clear hm
      go_enter Tryz.func9, Tryz.ntmps9
      go_wp2_with fail
      refine (within_y a b c d 65535 _ hA).mono ?_
      rintro e w1 ⟨rfl, h1⟩
      go_wp2_with fail
      refine (hold_no 2 _).mono ?_
      rintro e w2 ⟨rfl, rfl⟩
      obtain ⟨kx, ky, kf, kz, kb⟩ := box44 _ _ _ _ _ _ h1
      have x0 := kx 0 _ rfl; have x1 := kx 1 _ rfl; have x2 := kx 2 _ rfl; have x3 := kx 3 _ rfl
      have HY := Lib.hid ky; have HF := Lib.hid kf; have HB := Lib.hid kb; have HZ := Lib.hid kz
      clear kx ky kf kb kz h1
      go_wp2_with fail
      refine (made_no 2 m _ _ (by omega)).mono ?_
      rintro e w2 ⟨rfl, h2⟩
      have y0 := kept h2 (HY.out 0 _ rfl); have y1 := kept h2 (HY.out 1 _ rfl); have y2 := kept h2 (HY.out 2 _ rfl); have y3 := kept h2 (HY.out 3 _ rfl)
      have f0' := kept_fz h2 HZ.out (HF.out 0); have f1' := kept_fz h2 HZ.out (HF.out 1); have f2' := kept_fz h2 HZ.out (HF.out 2); have f3' := kept_fz h2 HZ.out (HF.out 3)
      have hb3 : Below w.heap.size w w2 := HB.out.trans (h2.mono HB.out.size)
      have HB3 := Lib.hid hb3; clear hb3 h2
      go_wp2_with fail
      refine bodyPost_ret (v := .tuple #[.agg #[.int .i64 0, .int .i64 0, .int .i64 0, .int .i64 0], .int .i64 2]) (by simp [results, Tryz.results9, go_sem, y0, y1, y2, y3]) rfl ⟨rfl, ?_⟩
      exact (((HB3.out.setCell (Nat.le_succ _) _).setCell (Nat.le_succ _) _).setCell (Nat.le_succ _) _).setCell (Nat.le_succ _) _
  · clear h
    go_enter Tryz.func9, Tryz.ntmps9
    go_wp2_with fail
    refine (within_no a b c d 65535 _ (by omega) hA).mono ?_
    rintro e w1 ⟨rfl, h1⟩
    go_wp2_with fail
    refine (hold_no 2 _).mono ?_
    rintro e w2 ⟨rfl, rfl⟩
    obtain ⟨kx, ky, kf, kz, kb⟩ := box44 _ _ _ _ _ _ h1
    have x0 := kx 0 _ rfl; have x1 := kx 1 _ rfl; have x2 := kx 2 _ rfl; have x3 := kx 3 _ rfl
    have HY := Lib.hid ky; have HF := Lib.hid kf; have HB := Lib.hid kb; have HZ := Lib.hid kz
    clear kx ky kf kb kz h1
    go_wp2_with fail
    refine (made_no 2 m _ _ (by omega)).mono ?_
    rintro e w2 ⟨rfl, h2⟩
    have y0 := kept h2 (HY.out 0 _ rfl); have y1 := kept h2 (HY.out 1 _ rfl); have y2 := kept h2 (HY.out 2 _ rfl); have y3 := kept h2 (HY.out 3 _ rfl)
    have f0' := kept_fz h2 HZ.out (HF.out 0); have f1' := kept_fz h2 HZ.out (HF.out 1); have f2' := kept_fz h2 HZ.out (HF.out 2); have f3' := kept_fz h2 HZ.out (HF.out 3)
    have hb3 : Below w.heap.size w w2 := HB.out.trans (h2.mono HB.out.size)
    have HB3 := Lib.hid hb3; clear hb3 h2
    go_wp2_with fail
    refine bodyPost_ret (v := .tuple #[.agg #[.int .i64 0, .int .i64 0, .int .i64 0, .int .i64 0], .int .i64 2]) (by simp [results, Tryz.results9, go_sem, y0, y1, y2, y3]) rfl ⟨rfl, ?_⟩
    exact (((HB3.out.setCell (Nat.le_succ _) _).setCell (Nat.le_succ _) _).setCell (Nat.le_succ _) _).setCell (Nat.le_succ _) _
end Go.Proofs.YthdilefgacgbdaaGreatDoor
