/- Contracts of ink: Total. -/
import Derived.Test.YthdilefgacgbdaaGreatDoorInD
namespace Go.Proofs.YthdilefgacgbdaaGreatDoor
open Go.RowKit
set_option maxRecDepth 20000
set_option maxHeartbeats 3200000

/-- A box of four cells lies there. -/
theorem four_keep {P : Program} {f : FuncId} {xs : Array Value} {w : World} {v : Ending} {g : Nat} {a b c d : Int} (h : Calls P f xs w fun e w' => e = v ∧ Below w.heap.size w w')
    (h0 : w.cell? ⟨g, 0, none⟩ = some (.int .i64 a)) (h1 : w.cell? ⟨g, 1, none⟩ = some (.int .i64 b)) (h2 : w.cell? ⟨g, 2, none⟩ = some (.int .i64 c)) (h3 : w.cell? ⟨g, 3, none⟩ = some (.int .i64 d)) :
    Calls P f xs w fun e w' => e = v ∧ w'.cell? ⟨g, 0, none⟩ = some (.int .i64 a) ∧ w'.cell? ⟨g, 1, none⟩ = some (.int .i64 b) ∧ w'.cell? ⟨g, 2, none⟩ = some (.int .i64 c) ∧ w'.cell? ⟨g, 3, none⟩ = some (.int .i64 d) ∧ Bl w w' :=
  h.mono fun _ _ ⟨he, hb⟩ => ⟨he, kept hb h0, kept hb h1, kept hb h2, kept hb h3, hb⟩

theorem totalx_ok (a b c d : Int) (w : World) (ha : Am a 65535) (hb : Am b 65535) (hc : Am c 65535) (hd : Am d 65535) :
    Calls Tryz.prog 7 #[.agg #[.int .i64 a, .int .i64 b, .int .i64 c, .int .i64 d]] w fun e w' => e = .returned (.tuple #[.int .i64 (a + b + c + d), .int .i64 0]) ∧ Bl w w' := by
  go_enter Tryz.func7, Tryz.ntmps7
  go_wp2_with fail
  have hbw := Bl.new w (.cells #[.int .i64 a, .int .i64 b, .int .i64 c, .int .i64 d] 22)
  have c0 := c_new w #[.int .i64 a, .int .i64 b, .int .i64 c, .int .i64 d] 22 0
  have c1 := c_new w #[.int .i64 a, .int .i64 b, .int .i64 c, .int .i64 d] 22 1
  have c2 := c_new w #[.int .i64 a, .int .i64 b, .int .i64 c, .int .i64 d] 22 2
  have c3 := c_new w #[.int .i64 a, .int .i64 b, .int .i64 c, .int .i64 d] 22 3
  generalize w.alloc (.cells #[.int .i64 a, .int .i64 b, .int .i64 c, .int .i64 d] 22) = W at hbw c0 c1 c2 c3 ⊢
  obtain ⟨g, hg⟩ : ∃ g, w.heap.size = g := ⟨_, rfl⟩
  rw [hg] at c0 c1 c2 c3 ⊢
  have HG := Lib.hid hg; clear hg
  simp only [List.getElem?_toArray, List.getElem?_cons_zero, List.getElem?_cons_succ] at c0 c1 c2 c3
  go_region_held3 (fun w' => w'.cell? ⟨g, 0, none⟩ = some (.int .i64 a) ∧ w'.cell? ⟨g, 1, none⟩ = some (.int .i64 b) ∧ w'.cell? ⟨g, 2, none⟩ = some (.int .i64 c) ∧ w'.cell? ⟨g, 3, none⟩ = some (.int .i64 d) ∧ Bl w w')
    ((go_split_ands; refine ⟨?_, ?_, ?_, ?_, ?_⟩ <;> first | assumption | exact Bl.drew (by assumption) | exact Bl.trans (by assumption) (by assumption) | (simp [*]; done)))
    (first
      | (go_at_call 21; go_split_ands; refine (four_keep (within_yes a b c d 65535 _ ha hb hc hd) (by assumption) (by assumption) (by assumption) (by assumption)).mono ?_; rintro e w1 ⟨rfl, d0, d1, d2, d3, hb1⟩)
      | (go_at_call 20; refine (hold_yes 2 _).mono ?_; rintro e w1 ⟨rfl, rfl⟩)
      | (go_at_call 19; go_split_ands; refine (four_keep (madet_ok a b c d _ ha hb hc hd) (by assumption) (by assumption) (by assumption) (by assumption)).mono ?_; rintro e w1 ⟨rfl, d0, d1, d2, d3, hb1⟩))
  all_goals
    go_wp2_with fail
    go_ret2
    exact ⟨rfl, by go_split_ands; assumption⟩
theorem ix0 (x0 x1 x2 x3 : Value) (w : World) : (Instr.index 24 (.agg #[x0, x1, x2, x3]) (.int .i64 0)).run Tryz.prog w = .ok x0 w := by kernel_rfl
theorem ix1 (x0 x1 x2 x3 : Value) (w : World) : (Instr.index 24 (.agg #[x0, x1, x2, x3]) (.int .i64 1)).run Tryz.prog w = .ok x1 w := by kernel_rfl
theorem ix2 (x0 x1 x2 x3 : Value) (w : World) : (Instr.index 24 (.agg #[x0, x1, x2, x3]) (.int .i64 2)).run Tryz.prog w = .ok x2 w := by kernel_rfl
theorem ix3 (x0 x1 x2 x3 : Value) (w : World) : (Instr.index 24 (.agg #[x0, x1, x2, x3]) (.int .i64 3)).run Tryz.prog w = .ok x3 w := by kernel_rfl
theorem amounts_ok (a b c d : Int) (w : World) (ha : Am a 65535) (hb : Am b 65535) (hc : Am c 65535) (hd : Am d 65535) :
    Calls Tryz.prog 13 #[.agg #[.int .u16 a, .int .u16 b, .int .u16 c, .int .u16 d]] w fun e w' => e = .returned (.agg #[.int .i64 a, .int .i64 b, .int .i64 c, .int .i64 d]) ∧ Bl w w' := by
  obtain ⟨a0, a1⟩ := ha
  obtain ⟨b0, b1⟩ := hb
  obtain ⟨c0, c1⟩ := hc
  obtain ⟨d0, d1⟩ := hd
  have i0 := ix0; have i1 := ix1; have i2 := ix2; have i3 := ix3
  go_enter Tryz.func13, Tryz.ntmps13
  go_wp2_with fail
  refine wp_loop_rounds 5 ?_
  rw [rounds_succ]; go_wp2_with fail
  rw [rounds_succ]; go_wp2_with fail
  rw [rounds_succ]; go_wp2_with fail
  rw [rounds_succ]; go_wp2_with fail
  rw [rounds_succ]; go_wp2_with fail
  refine bodyPost_ret (v := .agg #[.int .i64 a, .int .i64 b, .int .i64 c, .int .i64 d]) (by simp [results, Tryz.results13, go_sem]) rfl ⟨rfl, ?_⟩
  unfold Bl
  go_grown
theorem is_ok (a b c d : Int) (w : World) :
    Calls Tryz.prog 14 #[.agg #[.int .i64 a, .int .i64 b, .int .i64 c, .int .i64 d]] w fun e w' => e = .returned (.func (.func 29) #[] #[.pointer (some ⟨w.heap.size, 0, none⟩)]) ∧ w' = w.alloc (.cells #[.int .i64 a, .int .i64 b, .int .i64 c, .int .i64 d] 22) := by
  go_enter Tryz.func14, Tryz.ntmps14
  go_wp2_with fail
  go_ret
  exact ⟨rfl, rfl⟩
theorem is1_yes (a b c d : Int) (g : Nat) (w : World) (h0 : w.cell? ⟨g, 0, none⟩ = some (.int .i64 a)) (h1 : w.cell? ⟨g, 1, none⟩ = some (.int .i64 b)) (h2 : w.cell? ⟨g, 2, none⟩ = some (.int .i64 c)) (h3 : w.cell? ⟨g, 3, none⟩ = some (.int .i64 d)) :
    Calls Tryz.prog 29 #[.agg #[.int .i64 a, .int .i64 b, .int .i64 c, .int .i64 d], .int .i64 0, .pointer (some ⟨g, 0, none⟩)] w fun e w' => e = .returned (.bool true) ∧ Bl w w' := by
  have hq : ∀ W : World, (Op.equalIn 10000 22 (.agg #[.int .i64 a, .int .i64 b, .int .i64 c, .int .i64 d]) (.agg #[.int .i64 a, .int .i64 b, .int .i64 c, .int .i64 d])).run Tryz.prog W = .ok true W := fun W => by rw [ar_eq]; simp
  have hg := ar_guard
  have l := World.block_lt_of_cell? w _ h0
  go_enter Tryz.func29, Tryz.ntmps29
  go_wp2_with fail
  go_ret
  exact ⟨rfl, Bl.new w _⟩
end Go.Proofs.YthdilefgacgbdaaGreatDoor
