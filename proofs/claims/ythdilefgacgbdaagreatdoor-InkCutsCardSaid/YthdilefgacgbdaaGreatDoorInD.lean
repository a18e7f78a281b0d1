/- Contracts of ink: amounts within bounds, Total, Cut. -/
import Derived.Test.YthdilefgacgbdaaGreatDoorInC
import Derived.Test.YthdilefgacgbdaaGreatDoorArr
import Derived.Handy
namespace Go.Proofs.YthdilefgacgbdaaGreatDoor
open Go.RowKit
set_option maxRecDepth 20000
set_option maxHeartbeats 3200000

theorem am_guard : Tryz.prog.eqGuardType Tryz.prog.depth 50 = false := by kernel_rfl
theorem am_cells : Tryz.prog.cellsOf 3 = 1 := by kernel_rfl
theorem am_eq (a b c d a' b' c' d' : Int) (W : World) : (Op.equalIn 10000 50 (.agg #[.int .i64 a, .int .i64 b, .int .i64 c, .int .i64 d]) (.agg #[.int .i64 a', .int .i64 b', .int .i64 c', .int .i64 d'])).run Tryz.prog W = .ok (decide (a = a' ∧ b = b' ∧ c = c' ∧ d = d')) W :=
  run_eq4 Tryz.underlying50 Tryz.underlying3 am_cells a b c d a' b' c' d' W
theorem ar_guard : Tryz.prog.eqGuardType Tryz.prog.depth 22 = false := by kernel_rfl
theorem ar_eq (a b c d a' b' c' d' : Int) (W : World) : (Op.equalIn 10000 22 (.agg #[.int .i64 a, .int .i64 b, .int .i64 c, .int .i64 d]) (.agg #[.int .i64 a', .int .i64 b', .int .i64 c', .int .i64 d'])).run Tryz.prog W = .ok (decide (a = a' ∧ b = b' ∧ c = c' ∧ d = d')) W :=
  run_eq4 Tryz.underlying22 Tryz.underlying3 am_cells a b c d a' b' c' d' W

theorem within_yes (a b c d m : Int) (w : World) (ha : Am a m) (hb : Am b m) (hc : Am c m) (hd : Am d m) :
    Calls Tryz.prog 21 #[.agg #[.int .i64 a, .int .i64 b, .int .i64 c, .int .i64 d], .int .i64 m] w fun e w' => e = .returned (.bool true) ∧ Below w.heap.size w w' := by
  obtain ⟨a0, a1⟩ := ha
  obtain ⟨b0, b1⟩ := hb
  obtain ⟨c0, c1⟩ := hc
  obtain ⟨d0, d1⟩ := hd
  have hq : ∀ W : World, (Op.equalIn 10000 50 (.agg #[.int .i64 a, .int .i64 b, .int .i64 c, .int .i64 d]) (.agg #[.int .i64 a, .int .i64 b, .int .i64 c, .int .i64 d])).run Tryz.prog W = .ok true W := fun W => by rw [am_eq]; simp
  have hg := am_guard
  go_enter Tryz.func21, Tryz.ntmps21
  go_wp2_with fail
  refine wp_loop_rounds 5 ?_
  rw [rounds_succ]; go_wp2_with fail
  rw [rounds_succ]; go_wp2_with fail
  rw [rounds_succ]; go_wp2_with fail
  rw [rounds_succ]; go_wp2_with fail
  rw [rounds_succ]; go_wp2_with fail
  go_ret
  exact ⟨rfl, ((Below.refl _ _).alloc (Nat.le_refl _) _).alloc (by simp) _⟩
theorem hold_yes (e0 : Int) (w : World) : Calls Tryz.prog 20 #[.bool true, .int .i64 e0] w fun e w' => e = .returned (.int .i64 0) ∧ w = w' := by
  go_enter Tryz.func20, Tryz.ntmps20
  go_wp2_with fail
  go_ret
  exact ⟨rfl, rfl⟩
theorem hold_no (e0 : Int) (w : World) : Calls Tryz.prog 20 #[.bool false, .int .i64 e0] w fun e w' => e = .returned (.int .i64 e0) ∧ w = w' := by
  go_enter Tryz.func20, Tryz.ntmps20
  go_wp2_with fail
  go_ret
  exact ⟨rfl, rfl⟩
theorem made_ok (a b c d m : Int) (w : World) (ha : Am a 65535) (hb : Am b 65535) (hc : Am c 65535) (hd : Am d 65535) (hm : Am m 262140) :
    Calls Tryz.prog 25 #[.int .i64 0, .int .i64 m, .func (.func 26) #[.agg #[.int .i64 a, .int .i64 b, .int .i64 c, .int .i64 d]] #[]] w
      fun e w' => e = .returned (.tuple #[.agg #[.int .i64 (ct a b c d m a), .int .i64 (ct a b c d m b), .int .i64 (ct a b c d m c), .int .i64 (blk a b c d m)], .int .i64 0]) ∧ Below w.heap.size w w' := by
  go_enter Tryz.func25, Tryz.ntmps25
  go_wp2_with fail
  refine (cut_ok a b c d m _ ha hb hc hd hm).mono ?_
  rintro e w1 ⟨rfl, h1⟩
  have r0 := kept h1 (c_new w #[.int .i64 0, .int .i64 0, .int .i64 0, .int .i64 0] 22 0)
  have r1 := kept h1 (c_new w #[.int .i64 0, .int .i64 0, .int .i64 0, .int .i64 0] 22 1)
  have r2 := kept h1 (c_new w #[.int .i64 0, .int .i64 0, .int .i64 0, .int .i64 0] 22 2)
  have r3 := kept h1 (c_new w #[.int .i64 0, .int .i64 0, .int .i64 0, .int .i64 0] 22 3)
  have q (k : Nat) := kept_fz h1 (by simp) (f_new w #[.int .i64 0, .int .i64 0, .int .i64 0, .int .i64 0] 22 k)
  have q0 := q 0; have q1 := q 1; have q2 := q 2; have q3 := q 3
  clear q
  have hb1 : Below w.heap.size w w1 := (below_new w _).trans (h1.mono (by simp))
  have HB := Lib.hid hb1; clear hb1 h1
  go_wp2_with fail
  refine bodyPost_ret (v := .tuple #[.agg #[.int .i64 (ct a b c d m a), .int .i64 (ct a b c d m b), .int .i64 (ct a b c d m c), .int .i64 (blk a b c d m)], .int .i64 0]) (by simp [results, Tryz.results25, go_sem, r0, r1, r2, r3]) rfl ⟨rfl, ?_⟩
  exact (((HB.out.setCell (Nat.le_refl _) _).setCell (Nat.le_refl _) _).setCell (Nat.le_refl _) _).setCell (Nat.le_refl _) _
theorem made_no (e0 m : Int) (f : Value) (w : World) (he : e0 ≠ 0) :
    Calls Tryz.prog 25 #[.int .i64 e0, .int .i64 m, f] w
      fun e w' => e = .returned (.tuple #[.agg #[.int .i64 0, .int .i64 0, .int .i64 0, .int .i64 0], .int .i64 e0]) ∧ Below w.heap.size w w' := by
  have h1 : (e0 == 0) = false := by simpa using he
  have h2 : (e0 != 0) = true := by simpa using he
  go_enter Tryz.func25, Tryz.ntmps25
  go_wp2_with fail
  refine bodyPost_ret (v := .tuple #[.agg #[.int .i64 0, .int .i64 0, .int .i64 0, .int .i64 0], .int .i64 e0]) (by simp [results, Tryz.results25, go_sem]) rfl ⟨rfl, ?_⟩
  go_grown
/-- A box with the argument, and one for the result, behind a call. -/
theorem box44 (w w1 : World) (x y : Array Value) (t u : TypeId) (h1 : Below ((w.alloc (.cells x t)).alloc (.cells y u)).heap.size ((w.alloc (.cells x t)).alloc (.cells y u)) w1) :
    (∀ k v, x[k]? = some v → w1.cell? ⟨w.heap.size, k, none⟩ = some v) ∧ (∀ k v, y[k]? = some v → w1.cell? ⟨w.heap.size + 1, k, none⟩ = some v) ∧ (∀ k, w1.frozen? ⟨w.heap.size + 1, k, none⟩ = false) ∧ w.heap.size + 1 < w1.heap.size ∧ Below w.heap.size w w1 := by
  refine ⟨fun k v h => kept h1 (c_old _ ((c_new w x t k).trans h)), fun k v h => ?_, fun k => ?_, ?_, ?_⟩
  · have := c_new (w.alloc (.cells x t)) y u k
    rw [World.size_alloc] at this
    exact kept h1 (this.trans h)
  · have := f_new (w.alloc (.cells x t)) y u k
    rw [World.size_alloc] at this
    exact kept_fz h1 (by simp) this
  · have := h1.size
    simp at this
    omega
  · exact ((below_new w _).alloc (by simp) _).trans (h1.mono (by simp; omega))

theorem cutx_ok (a b c d m : Int) (w : World) (ha : Am a 65535) (hb : Am b 65535) (hc : Am c 65535) (hd : Am d 65535) (hm : Am m 262140) :
    Calls Tryz.prog 9 #[.agg #[.int .i64 a, .int .i64 b, .int .i64 c, .int .i64 d], .int .i64 m] w
      fun e w' => e = .returned (.tuple #[.agg #[.int .i64 (ct a b c d m a), .int .i64 (ct a b c d m b), .int .i64 (ct a b c d m c), .int .i64 (blk a b c d m)], .int .i64 0]) ∧ Below w.heap.size w w' := by
  have m0 := hm.1
  have m1 := hm.2
  go_enter Tryz.func9, Tryz.ntmps9
  go_wp2_with fail
  refine (within_yes a b c d 65535 _ ha hb hc hd).mono ?_
  rintro e w1 ⟨rfl, h1⟩
  go_wp2_with fail
  refine (hold_yes 2 _).mono ?_
  rintro e w2 ⟨rfl, rfl⟩
  obtain ⟨kx, ky, kf, kz, kb⟩ := box44 _ _ _ _ _ _ h1
  have x0 := kx 0 _ rfl; have x1 := kx 1 _ rfl; have x2 := kx 2 _ rfl; have x3 := kx 3 _ rfl
  have HY := Lib.hid ky; have HF := Lib.hid kf; have HB := Lib.hid kb; have HZ := Lib.hid kz
  clear kx ky kf kb kz h1
  go_wp2_with fail
  refine (made_ok a b c d m _ ha hb hc hd hm).mono ?_
  rintro e w2 ⟨rfl, h2⟩
  have y0 := kept h2 (HY.out 0 _ rfl); have y1 := kept h2 (HY.out 1 _ rfl); have y2 := kept h2 (HY.out 2 _ rfl); have y3 := kept h2 (HY.out 3 _ rfl)
  have f0 := kept_fz h2 HZ.out (HF.out 0); have f1 := kept_fz h2 HZ.out (HF.out 1); have f2 := kept_fz h2 HZ.out (HF.out 2); have f3 := kept_fz h2 HZ.out (HF.out 3)
  have hb3 : Below w.heap.size w w2 := HB.out.trans (h2.mono HB.out.size)
  have HB3 := Lib.hid hb3; clear hb3 h2
  go_wp2_with fail
  refine bodyPost_ret (v := .tuple #[.agg #[.int .i64 (ct a b c d m a), .int .i64 (ct a b c d m b), .int .i64 (ct a b c d m c), .int .i64 (blk a b c d m)], .int .i64 0]) (by simp [results, Tryz.results9, go_sem, y0, y1, y2, y3]) rfl ⟨rfl, ?_⟩
  exact (((HB3.out.setCell (Nat.le_succ _) _).setCell (Nat.le_succ _) _).setCell (Nat.le_succ _) _).setCell (Nat.le_succ _) _
theorem total1_ok (a b c d : Int) (w : World) (ha : Am a 65535) (hb : Am b 65535) (hc : Am c 65535) (hd : Am d 65535) :
    Calls Tryz.prog 22 #[.agg #[.int .i64 a, .int .i64 b, .int .i64 c, .int .i64 d]] w fun e w' => e = .returned (.int .i64 (a + b + c + d)) ∧ Below w.heap.size w w' := by
  go_enter Tryz.func22, Tryz.ntmps22
  go_wp2_with fail
  refine (total_ok a b c d _ ha hb hc hd).mono ?_
  rintro e w1 ⟨rfl, h1⟩
  go_wp2_with fail
  go_ret
  exact ⟨rfl, (below_new w _).trans (h1.mono (by simp))⟩
theorem madet_ok (a b c d : Int) (w : World) (ha : Am a 65535) (hb : Am b 65535) (hc : Am c 65535) (hd : Am d 65535) :
    Calls Tryz.prog 19 #[.int .i64 0, .agg #[.int .i64 a, .int .i64 b, .int .i64 c, .int .i64 d], .func (.func 22) #[] #[]] w
      fun e w' => e = .returned (.tuple #[.int .i64 (a + b + c + d), .int .i64 0]) ∧ Below w.heap.size w w' := by
  go_enter Tryz.func19, Tryz.ntmps19
  go_wp2_with fail
  refine (total1_ok a b c d _ ha hb hc hd).mono ?_
  rintro e w1 ⟨rfl, h1⟩
  go_wp2_with fail
  go_ret2
  exact ⟨rfl, (below_new w _).trans (h1.mono (by simp))⟩
theorem madet_no (e0 : Int) (x f : Value) (w : World) (he : e0 ≠ 0) (hx : ∃ a b c d : Int, x = .agg #[.int .i64 a, .int .i64 b, .int .i64 c, .int .i64 d]) :
    Calls Tryz.prog 19 #[.int .i64 e0, x, f] w fun e w' => e = .returned (.tuple #[.int .i64 0, .int .i64 e0]) ∧ Below w.heap.size w w' := by
  obtain ⟨a, b, c, d, rfl⟩ := hx
  have h1 : (e0 == 0) = false := by simpa using he
  have h2 : (e0 != 0) = true := by simpa using he
  go_enter Tryz.func19, Tryz.ntmps19
  go_wp2_with fail
  go_ret2
  exact ⟨rfl, below_new w _⟩
end Go.Proofs.YthdilefgacgbdaaGreatDoor
