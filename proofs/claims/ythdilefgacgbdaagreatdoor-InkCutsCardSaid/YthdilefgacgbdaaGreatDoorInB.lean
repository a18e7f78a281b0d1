/- Contracts of ink: cutting. -/
import Derived.Test.YthdilefgacgbdaaGreatDoorInA
import Derived.Test.YthdilefgacgbdaaGreatDoorUt
import Derived.RegionCalls
import Derived.Deep.RegionHeld3
import Derived.Deep.DeepCutAuto
namespace Go.Proofs.YthdilefgacgbdaaGreatDoor
open Go.RowKit
set_option maxRecDepth 20000
set_option maxHeartbeats 3200000

/-- The four amounts in a block. -/
def Four (w : World) (g : Nat) (a b c d : Int) : Prop := w.cell? ⟨g, 0, none⟩ = some (.int .i64 a) ∧ w.cell? ⟨g, 1, none⟩ = some (.int .i64 b) ∧ w.cell? ⟨g, 2, none⟩ = some (.int .i64 c) ∧ w.cell? ⟨g, 3, none⟩ = some (.int .i64 d)

theorem total_keep (a b c d m : Int) (g : Nat) (w : World) (ha : Am a 65535) (hb : Am b 65535) (hc : Am c 65535) (hd : Am d 65535)
    (h0 : w.cell? ⟨g, 0, none⟩ = some (.int .i64 a)) (h1 : w.cell? ⟨g, 1, none⟩ = some (.int .i64 b)) (h2 : w.cell? ⟨g, 2, none⟩ = some (.int .i64 c)) (h3 : w.cell? ⟨g, 3, none⟩ = some (.int .i64 d)) (h4 : w.cell? ⟨g + 1, 0, none⟩ = some (.int .i64 m)) :
    Calls Tryz.prog 23 #[.agg #[.int .i64 a, .int .i64 b, .int .i64 c, .int .i64 d]] w fun e w' => e = .returned (.int .i64 (a + b + c + d)) ∧
      w'.cell? ⟨g, 0, none⟩ = some (.int .i64 a) ∧ w'.cell? ⟨g, 1, none⟩ = some (.int .i64 b) ∧ w'.cell? ⟨g, 2, none⟩ = some (.int .i64 c) ∧ w'.cell? ⟨g, 3, none⟩ = some (.int .i64 d) ∧ w'.cell? ⟨g + 1, 0, none⟩ = some (.int .i64 m) ∧ Below w.heap.size w w' :=
  (total_ok a b c d w ha hb hc hd).mono fun _ _ ⟨he, hb⟩ => ⟨he, kept hb h0, kept hb h1, kept hb h2, kept hb h3, kept hb h4, hb⟩

theorem boxed3 (w : World) (a b c d m : Int) (t1 t2 t3 : TypeId) (o : Array Value) : ∃ W, (((w.alloc (.cells #[.int .i64 a, .int .i64 b, .int .i64 c, .int .i64 d] t1)).alloc (.cells #[.int .i64 m] t2)).alloc (.cells o t3)) = W ∧
    Below w.heap.size w W ∧ W.heap.size = w.heap.size + 3 ∧ W.cell? ⟨w.heap.size, 0, none⟩ = some (.int .i64 a) ∧ W.cell? ⟨w.heap.size, 1, none⟩ = some (.int .i64 b) ∧ W.cell? ⟨w.heap.size, 2, none⟩ = some (.int .i64 c) ∧
    W.cell? ⟨w.heap.size, 3, none⟩ = some (.int .i64 d) ∧ W.cell? ⟨w.heap.size + 1, 0, none⟩ = some (.int .i64 m) ∧ (∀ k, W.cell? ⟨w.heap.size + 1 + 1, k, none⟩ = o[k]?) ∧ (∀ k, W.frozen? ⟨w.heap.size + 1 + 1, k, none⟩ = false) := by
  refine ⟨_, rfl, (((Below.refl _ _).alloc (Nat.le_refl _) _).alloc (by simp) _).alloc (by simp; omega) _, by simp, ?_, ?_, ?_, ?_, ?_, fun k => ?_, fun k => ?_⟩
  · exact c_old _ (c_old _ (c_new w _ _ 0))
  · exact c_old _ (c_old _ (c_new w _ _ 1))
  · exact c_old _ (c_old _ (c_new w _ _ 2))
  · exact c_old _ (c_old _ (c_new w _ _ 3))
  · have := c_new (w.alloc (.cells #[.int .i64 a, .int .i64 b, .int .i64 c, .int .i64 d] t1)) #[.int .i64 m] t2 0
    rw [World.size_alloc] at this
    exact c_old _ this
  · have := c_new ((w.alloc (.cells #[.int .i64 a, .int .i64 b, .int .i64 c, .int .i64 d] t1)).alloc (.cells #[.int .i64 m] t2)) o t3 k
    rw [World.size_alloc, World.size_alloc] at this
    exact this
  · have := f_new ((w.alloc (.cells #[.int .i64 a, .int .i64 b, .int .i64 c, .int .i64 d] t1)).alloc (.cells #[.int .i64 m] t2)) o t3 k
    rw [World.size_alloc, World.size_alloc] at this
    exact this

theorem cut_whole (a b c d m : Int) (w : World) (ha : Am a 65535) (hb : Am b 65535) (hc : Am c 65535) (hd : Am d 65535) (h : a + b + c + d ≤ m) :
    Calls Tryz.prog 26 #[.agg #[.int .i64 a, .int .i64 b, .int .i64 c, .int .i64 d], .int .i64 m] w fun e w' => e = .returned (.agg #[.int .i64 a, .int .i64 b, .int .i64 c, .int .i64 d]) ∧ Below w.heap.size w w' := by
  go_enter Tryz.func26, Tryz.ntmps26
  go_wp2_with fail
  obtain ⟨W, hW, hbw, hz, c0, c1, c2, c3, c4, co, fo⟩ := boxed3 w a b c d m 50 3 22 #[.int .i64 0, .int .i64 0, .int .i64 0, .int .i64 0]
  rw [hW]
  clear hW
  obtain ⟨g, hg⟩ : ∃ g, w.heap.size = g := ⟨_, rfl⟩
  rw [hg] at hbw hz c0 c1 c2 c3 c4 co fo ⊢
  have HG := Lib.hid hg; clear hg
  have HZ := Lib.hid hz; clear hz
  have CO := Lib.hid co; clear co
  have FO := Lib.hid fo; clear fo
  go_region_held3 (fun w' => w'.cell? ⟨g, 0, none⟩ = some (.int .i64 a) ∧ w'.cell? ⟨g, 1, none⟩ = some (.int .i64 b) ∧ w'.cell? ⟨g, 2, none⟩ = some (.int .i64 c) ∧ w'.cell? ⟨g, 3, none⟩ = some (.int .i64 d) ∧ w'.cell? ⟨g + 1, 0, none⟩ = some (.int .i64 m)) (go_keep)
    (first | (go_at_call 23; refine (total_keep a b c d m g _ ha hb hc hd ?_ ?_ ?_ ?_ ?_).mono ?_; (simp [*]); (simp [*]); (simp [*]); (simp [*]); (simp [*]); rintro e w1 ⟨rfl, d0, d1, d2, d3, d4, hb1⟩))
  have hbd : Below W.heap.size W w1 := (Below.refl _ _).drew.trans (hb1.mono (by simp))
  have z1 := hbd.size
  have hz := HZ.out
  have r0 := kept hbd ((CO.out 0).trans (by rfl) : W.cell? ⟨g + 1 + 1, 0, none⟩ = some (.int .i64 0))
  have r1 := kept hbd ((CO.out 1).trans (by rfl) : W.cell? ⟨g + 1 + 1, 1, none⟩ = some (.int .i64 0))
  have r2 := kept hbd ((CO.out 2).trans (by rfl) : W.cell? ⟨g + 1 + 1, 2, none⟩ = some (.int .i64 0))
  have r3 := kept hbd ((CO.out 3).trans (by rfl) : W.cell? ⟨g + 1 + 1, 3, none⟩ = some (.int .i64 0))
  have q0 := kept_fz hbd (by show g + 1 + 1 < _; omega) (FO.out 0)
  have q1 := kept_fz hbd (by show g + 1 + 1 < _; omega) (FO.out 1)
  have q2 := kept_fz hbd (by show g + 1 + 1 < _; omega) (FO.out 2)
  have q3 := kept_fz hbd (by show g + 1 + 1 < _; omega) (FO.out 3)
  have HB := Lib.hid hbd; clear hbd hb1
  have HZ' := Lib.hid hz; clear hz z1
  go_wp2_with fail
  refine bodyPost_ret (v := .agg #[.int .i64 a, .int .i64 b, .int .i64 c, .int .i64 d]) (by simp [results, Tryz.results26, go_sem, r0, r1, r2, r3]) rfl ⟨rfl, ?_⟩
  have hb2 : Below w.heap.size w w1 := by rw [HG.out]; exact hbw.trans (HB.out.mono (by rw [HZ.out]; omega))
  exact (((hb2.setCell (by rw [HG.out]; show g ≤ g + 1 + 1; omega) _).setCell (by rw [HG.out]; show g ≤ g + 1 + 1; omega) _).setCell (by rw [HG.out]; show g ≤ g + 1 + 1; omega) _).setCell (by rw [HG.out]; show g ≤ g + 1 + 1; omega) _
end Go.Proofs.YthdilefgacgbdaaGreatDoor
