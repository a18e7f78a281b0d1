/- Contracts of cross: seeds, what is drawn. -/
import Derived.Test.YtccjmmdppjialaaGreatDoorProg
import Derived.Test.YtccjmmdppjialaaGreatDoorUt
import Derived.Test.YtccjmmdppjialaaGreatDoorCrP
import Derived.WalkKit
import Derived.LoopN
import Derived.Lib.Hide
import Derived.IntWalk
import Derived.BigQuiet
import Derived.Handy
import Derived.Deep.MidRow
import Derived.KernelRfl
import Derived.Deep.QuietTactic
namespace Go.Proofs.YtccjmmdppjialaaGreatDoor
open Go.RowKit
set_option maxRecDepth 20000
set_option maxHeartbeats 1600000

theorem sound_yes (n : Int) (w : World) (h1 : 1 ≤ n) (h2 : n ≤ 2147483646) :
    Calls Tryz.prog 27 #[.agg #[.int .i64 n]] w fun e w' => e = .returned (.bool true) ∧ Bl w w' := by
  go_enter Tryz.func27, Tryz.ntmps27
  go_wp2_with fail
  go_ret
  exact ⟨by simp [*], Bl.new w _⟩
theorem sound_no (n : Int) (w : World) (h : ¬ (1 ≤ n ∧ n ≤ 2147483646)) :
    Calls Tryz.prog 27 #[.agg #[.int .i64 n]] w fun e w' => e = .returned (.bool false) ∧ Bl w w' := by
  by_cases h1 : 1 ≤ n
  · have h2 : ¬ n ≤ 2147483646 := fun h2 => h ⟨h1, h2⟩
    go_enter Tryz.func27, Tryz.ntmps27
    go_wp2_with fail
    go_ret
    exact ⟨by simp [*], Bl.new w _⟩
  · go_enter Tryz.func27, Tryz.ntmps27
    go_wp2_with fail
    go_ret
    exact ⟨by simp [*], Bl.new w _⟩
theorem following_ok (n : Int) (w : World) (h1 : 1 ≤ n) (h2 : n ≤ 2147483646) :
    Calls Tryz.prog 28 #[.agg #[.int .i64 n]] w fun e w' => e = .returned (.agg #[.int .i64 (nx n)]) ∧ Bl w w' := by
  have E := Lib.hid (show nx n = 48271 * n % 2147483647 from rfl)
  go_enter Tryz.func28, Tryz.ntmps28
  go_wp2_with fail
  refine bodyPost_ret (v := .agg #[.int .i64 (nx n)]) (by rw [E.out]; simp [results, Tryz.results28, go_sem]) rfl ⟨rfl, ?_⟩
  unfold Bl
  go_grown
theorem fld (v : Value) (w : World) : (Instr.field 65 (.agg #[v]) 0).run Tryz.prog w = .ok v w := by kernel_rfl
theorem next_yes (s : Int) (w : World) (h1 : 1 ≤ s) (h2 : s ≤ 2147483646) :
    Calls Tryz.prog 8 #[.int .i64 s] w fun e w' => e = .returned (.tuple #[.int .i64 (nx s), .int .i64 0]) ∧ Bl w w' := by
  go_enter Tryz.func8, Tryz.ntmps8
  go_wp2_with fail
  refine (sound_yes s _ h1 h2).mono ?_
  rintro e w1 ⟨rfl, hb⟩
  have c1 := hb.cell (c_new w #[.int .i64 s] 65 0)
  have hb1 := (Bl.new w (.cells #[.int .i64 s] 65)).trans hb
  clear hb
  go_wp2_with fail
  refine (following_ok s _ h1 h2).mono ?_
  rintro e w2 ⟨rfl, hb⟩
  have hb2 := hb1.trans hb
  clear hb hb1 c1
  have hfld := fld (.int .i64 (nx s))
  go_wp2_with fail
  go_ret2
  exact ⟨rfl, hb2⟩
theorem next_no (s : Int) (w : World) (h : ¬ (1 ≤ s ∧ s ≤ 2147483646)) :
    Calls Tryz.prog 8 #[.int .i64 s] w fun e w' => e = .returned (.tuple #[.int .i64 0, .int .i64 2]) ∧ Bl w w' := by
  go_enter Tryz.func8, Tryz.ntmps8
  go_wp2_with fail
  refine (sound_no s _ h).mono ?_
  rintro e w1 ⟨rfl, hb⟩
  have hb1 := (Bl.new w (.cells #[.int .i64 s] 65)).trans hb
  clear hb
  go_wp2_with fail
  go_ret2
  exact ⟨rfl, hb1⟩
/-- The generator turns to its next seed. -/
theorem draw_ok (g : Nat) (s n : Int) (w : World) (h1 : 1 ≤ s) (h2 : s ≤ 2147483646) (hn : 1 ≤ n) (hn2 : n ≤ 1000000) (hc : w.cell? ⟨g, 0, none⟩ = some (.int .i64 s)) (hf : w.frozen? ⟨g, 0, none⟩ = false) :
    Calls Tryz.prog 29 #[.pointer (some ⟨g, 0, none⟩), .int .i64 n] w fun e w' => e = .returned (.int .i64 (nx s % n)) ∧ ∃ w1, Bl w w1 ∧ w' = w1.setCell ⟨g, 0, none⟩ (.int .i64 (nx s)) := by
  obtain ⟨_, x1, x2⟩ := nx_range h1 h2
  obtain ⟨x, hx⟩ : ∃ x, nx s = x := ⟨_, rfl⟩
  have F := following_ok s
  rw [hx] at x1 x2 F ⊢
  clear hx
  go_enter Tryz.func29, Tryz.ntmps29
  go_wp2_with fail
  refine (F _ h1 h2).mono ?_
  rintro e w1 ⟨rfl, hb⟩
  have c1 := hb.cell hc
  have f1 := kept_fz hb (by show g < _; exact World.block_lt_of_cell? w _ hc) hf
  go_wp2_with fail
  go_ret
  exact ⟨rfl, w1, hb, rfl⟩
theorem drawf_yes (s n : Int) (w : World) (h1 : 1 ≤ s) (h2 : s ≤ 2147483646) (hn : 1 ≤ n) (hn2 : n ≤ 1000000) :
    Calls Tryz.prog 10 #[.int .i64 s, .int .i64 n] w fun e w' => e = .returned (.tuple #[.int .i64 (nx s % n), .int .i64 (nx s), .int .i64 0]) ∧ Bl w w' := by
  obtain ⟨_, x1, x2⟩ := nx_range h1 h2
  obtain ⟨x, hx⟩ : ∃ x, nx s = x := ⟨_, rfl⟩
  have D := fun g w => draw_ok g s n w h1 h2 hn hn2
  rw [hx] at x1 x2 D ⊢
  clear hx
  go_enter Tryz.func10, Tryz.ntmps10
  go_wp2_with fail
  refine (sound_yes s _ h1 h2).mono ?_
  rintro e w1 ⟨rfl, hb⟩
  have c1 := hb.cell (c_new w #[.int .i64 s] 69 0)
  have f1 := kept_fz hb (by simp) (f_new w #[.int .i64 s] 69 0)
  have hb1 := (Bl.new w (.cells #[.int .i64 s] 69)).trans hb
  clear hb
  go_wp2_with fail
  refine (D _ _ c1 f1).mono ?_
  rintro e w3 ⟨rfl, w2, hb2, rfl⟩
  have c2 := World.cell?_setCell_same' w2 ⟨w.heap.size, 0, none⟩ (.int .i64 x) (by rw [hb2.cell c1]; rfl)
  have hb3 : Bl w (w2.setCell ⟨w.heap.size, 0, none⟩ (.int .i64 x)) := Below.setCell (hb1.trans hb2) (Nat.le_refl _) _
  clear c1 f1 hb1 hb2
  go_wp2_with fail
  go_quiet (fail)
  go_wp2_with fail
  refine bodyPost_ret (v := .tuple #[.int .i64 (x % n), .int .i64 x, .int .i64 0]) (by simp [results, Tryz.results10, go_sem]) rfl ⟨rfl, hb3.drewN nq⟩
end Go.Proofs.YtccjmmdppjialaaGreatDoor
