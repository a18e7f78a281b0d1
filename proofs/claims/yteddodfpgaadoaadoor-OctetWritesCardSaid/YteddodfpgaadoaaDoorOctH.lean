/- The chapter's examples hold: works returns true. -/
import Derived.Test.YteddodfpgaadoaaDoorOctG
namespace Go.Proofs.YteddodfpgaadoaaDoor
open Go.RowKit
set_option maxRecDepth 20000

theorem ex0 (w : World) : Calls Tryd.prog 21 #[.string ⟨#[1, 2, 3]⟩, .int .i64 1] w fun e w' => e = .returned (.tuple #[.int .i64 515, .int .i64 0]) ∧ Below w.heap.size w w' :=
  u16_ok ⟨#[1, 2, 3]⟩ 1 w 2 3 (by decide) (by decide) rfl
theorem ex1 (w : World) : Calls Tryd.prog 22 #[.string ⟨#[255, 255, 255, 254]⟩, .int .i64 0] w fun e w' => e = .returned (.tuple #[.int .i64 4294967294, .int .i64 0]) ∧ Below w.heap.size w w' :=
  u32_ok ⟨#[255, 255, 255, 254]⟩ 0 w 255 255 255 254 (by decide) (by decide) rfl
theorem ex2 (w : World) : Calls Tryd.prog 24 #[.string ⟨#[255, 255, 255, 254]⟩, .int .i64 0] w fun e w' => e = .returned (.tuple #[.int .i64 (-2), .int .i64 0]) ∧ Below w.heap.size w w' :=
  by
  have h := s32_ok ⟨#[255, 255, 255, 254]⟩ 0 w 255 255 255 254 (by decide) (by decide) rfl
  rw [show wrap32 ((num4 255 255 255 254 : Nat) : Int) = -2 from by have e : num4 255 255 255 254 = 4294967294 := rfl; rw [e]; simp only [wrap32]; omega] at h
  exact h
theorem ex3 (w : World) : Calls Tryd.prog 20 #[.string ⟨#[]⟩, .int .i64 0] w fun e w' => e = .returned (.tuple #[.int .i64 0, .int .i64 70]) ∧ Below w.heap.size w w' :=
  (u8_short ⟨#[]⟩ 0 w (by decide) (by decide) (by decide) (by decide)).mono fun _ _ ⟨h, hw⟩ => ⟨h, hw ▸ Below.refl _ _⟩
theorem ex4 (w : World) : Calls Tryd.prog 21 #[.string ⟨#[1, 2, 3]⟩, .int .i64 2] w fun e w' => e = .returned (.tuple #[.int .i64 0, .int .i64 70]) ∧ Below w.heap.size w w' :=
  (u16_short ⟨#[1, 2, 3]⟩ 2 w (by decide) (by decide) (by decide) (by decide)).mono fun _ _ ⟨h, hw⟩ => ⟨h, hw ▸ Below.refl _ _⟩
theorem ex5 (w : World) : Calls Tryd.prog 20 #[.string ⟨#[1]⟩, .int .i64 (-1)] w fun e w' => e = .returned (.tuple #[.int .i64 0, .int .i64 2]) ∧ Below w.heap.size w w' :=
  (u8_arg ⟨#[1]⟩ (-1) w (by decide) (by decide)).mono fun _ _ ⟨h, hw⟩ => ⟨h, hw ▸ Below.refl _ _⟩
theorem ex6 (w : World) : Calls Tryd.prog 8 #[.int .i64 515] w fun e w' => e = .returned (.tuple #[.string ⟨#[2, 3]⟩, .int .i64 0]) ∧ Below w.heap.size w w' :=
  putU16_ok 515 w (by decide) (by decide)
theorem ex7 (w : World) : Calls Tryd.prog 10 #[.int .i64 (-2)] w fun e w' => e = .returned (.tuple #[.string ⟨#[255, 255, 255, 254]⟩, .int .i64 0]) ∧ Below w.heap.size w w' :=
  putS32_ok (-2) w (by decide) (by decide)
theorem ex8 (w : World) : Calls Tryd.prog 7 #[.int .i64 256] w fun e w' => e = .returned (.tuple #[.string ⟨#[]⟩, .int .i64 2]) ∧ Below w.heap.size w w' :=
  putU8_high 256 w (by decide)
theorem ex9 (w : World) : Calls Tryd.prog 29 #[.string ⟨#[97, 98, 0, 0]⟩, .int .i64 0, .int .i64 4] w fun e w' => e = .returned (.tuple #[.string ⟨#[97, 98]⟩, .int .i64 0]) ∧ Below w.heap.size w w' :=
  text_nul ⟨#[97, 98, 0, 0]⟩ ⟨#[97, 98, 0, 0]⟩ 0 4 4 2 w (by decide) rfl (by decide) rfl (by decide) (by decide) (by decide) (by decide) (by decide)
theorem ex10 (w : World) : Calls Tryd.prog 29 #[.string ⟨#[97, 0, 98, 0]⟩, .int .i64 0, .int .i64 4] w fun e w' => e = .returned (.tuple #[.string ⟨#[]⟩, .int .i64 5]) ∧ Below w.heap.size w w' :=
  text_rest ⟨#[97, 0, 98, 0]⟩ ⟨#[97, 0, 98, 0]⟩ 0 4 4 1 w (by decide) rfl (by decide) rfl (by decide) (by decide) (by decide) (by decide) (by decide)
theorem ex11 (w : World) : Calls Tryd.prog 29 #[.string ⟨#[97, 10, 0, 0]⟩, .int .i64 0, .int .i64 4] w fun e w' => e = .returned (.tuple #[.string ⟨#[]⟩, .int .i64 5]) ∧ Below w.heap.size w w' :=
  text_bad ⟨#[97, 10, 0, 0]⟩ ⟨#[97, 10, 0, 0]⟩ 0 4 4 2 w (by decide) rfl (by decide) rfl (by decide) (by decide) (by decide)
theorem ex12 (w : World) : Calls Tryd.prog 29 #[.string ⟨#[97, 98]⟩, .int .i64 0, .int .i64 2] w fun e w' => e = .returned (.tuple #[.string ⟨#[97, 98]⟩, .int .i64 0]) ∧ Below w.heap.size w w' :=
  text_whole ⟨#[97, 98]⟩ ⟨#[97, 98]⟩ 0 2 2 w (by decide) rfl (by decide) rfl (by decide) (by decide)
theorem ex13 (w : World) : Calls Tryd.prog 16 #[.string ⟨#[97, 98]⟩, .int .i64 4] w fun e w' => e = .returned (.tuple #[.string ⟨#[97, 98, 0, 0]⟩, .int .i64 0]) ∧ Below w.heap.size w w' :=
  putText_ok ⟨#[97, 98]⟩ 4 w (by decide) (by decide) (by decide)
theorem ex14 (w : World) : Calls Tryd.prog 16 #[.string ⟨#[97, 98, 99]⟩, .int .i64 2] w fun e w' => e = .returned (.tuple #[.string ⟨#[]⟩, .int .i64 3]) ∧ Below w.heap.size w w' :=
  putText_long ⟨#[97, 98, 99]⟩ 2 w (by decide) (by decide) (by decide)
theorem ex15 (w : World) : Calls Tryd.prog 18 #[.string ⟨#[97, 98, 99]⟩, .int .i64 4] w fun e w' => e = .returned (.tuple #[.string ⟨#[97, 98, 99, 0]⟩, .int .i64 0]) ∧ Below w.heap.size w w' :=
  pad_ok ⟨#[97, 98, 99]⟩ 4 w (by decide) (by decide) (by decide) (by decide)
theorem ex16 (w : World) : Calls Tryd.prog 18 #[.string ⟨#[97, 98, 99, 100]⟩, .int .i64 4] w fun e w' => e = .returned (.tuple #[.string ⟨#[97, 98, 99, 100]⟩, .int .i64 0]) ∧ Below w.heap.size w w' :=
  pad_ok ⟨#[97, 98, 99, 100]⟩ 4 w (by decide) (by decide) (by decide) (by decide)
theorem ex17 (w : World) : Calls Tryd.prog 30 #[.string ⟨#[97, 98, 99]⟩, .int .i64 1, .int .i64 1] w fun e w' => e = .returned (.tuple #[.string ⟨#[98]⟩, .int .i64 0]) ∧ Below w.heap.size w w' :=
  (part_ok ⟨#[97, 98, 99]⟩ 1 1 w (by decide) (by decide)).mono fun _ _ ⟨h, hw⟩ => ⟨h, hw ▸ Below.refl _ _⟩

theorem fails_yes' (n : Int) (a : Addr) (w : World) (hc : w.cell? a = some (.int .i64 n)) :
    Calls Tryd.prog 41 #[.string ⟨#[]⟩, .int .i64 n, .pointer (some a)] w fun e w' => e = .returned (.bool true) ∧ w = w' := fails_yes n a w hc

set_option maxHeartbeats 3200000 in
theorem works_true (w : World) : Calls Tryd.prog 6 #[] w fun e w' => e = .returned (.bool true) ∧ Below w.heap.size w w' := by
  have hB : Below w.heap.size w w := Below.refl _ _
  go_enter Tryd.func6, Tryd.ntmps6
  go_wp2_with fail
  refine (says_any (515) _).mono ?_
  rintro e u ⟨rfl, rfl⟩
  go_wp2_with fail
  refine (ex0 _).mono ?_
  rintro e w1 ⟨rfl, hb⟩
  have hc : w1.cell? ⟨w.heap.size, 0, none⟩ = some (.int .i64 (515)) := cell_kept hb (by simp [World.cell?_alloc_new])
  have hB' : Below w.heap.size w w1 := (hB.alloc hB.size _).trans (hb.mono (Nat.le_trans hB.size (by simp)))
  clear hb hB
  have hB := hB'
  clear hB'
  go_wp2_with fail
  refine (says_yes (515) _ _ hc).mono ?_
  rintro e u ⟨rfl, rfl⟩
  clear hc
  go_wp2_with fail
  refine (says_any (4294967294) _).mono ?_
  rintro e u ⟨rfl, rfl⟩
  go_wp2_with fail
  refine (ex1 _).mono ?_
  rintro e w2 ⟨rfl, hb⟩
  have hc : w2.cell? ⟨w1.heap.size, 0, none⟩ = some (.int .i64 (4294967294)) := cell_kept hb (by simp [World.cell?_alloc_new])
  have hB' : Below w.heap.size w w2 := (hB.alloc hB.size _).trans (hb.mono (Nat.le_trans hB.size (by simp)))
  clear hb hB
  have hB := hB'
  clear hB'
  go_wp2_with fail
  refine (says_yes (4294967294) _ _ hc).mono ?_
  rintro e u ⟨rfl, rfl⟩
  clear hc
  go_wp2_with fail
  refine (says_any (-2) _).mono ?_
  rintro e u ⟨rfl, rfl⟩
  go_wp2_with fail
  refine (ex2 _).mono ?_
  rintro e w3 ⟨rfl, hb⟩
  have hc : w3.cell? ⟨w2.heap.size, 0, none⟩ = some (.int .i64 (-2)) := cell_kept hb (by simp [World.cell?_alloc_new])
  have hB' : Below w.heap.size w w3 := (hB.alloc hB.size _).trans (hb.mono (Nat.le_trans hB.size (by simp)))
  clear hb hB
  have hB := hB'
  clear hB'
  go_wp2_with fail
  refine (says_yes (-2) _ _ hc).mono ?_
  rintro e u ⟨rfl, rfl⟩
  clear hc
  go_wp2_with fail
  refine (stops_any 70 _).mono ?_
  rintro e u ⟨rfl, rfl⟩
  go_wp2_with fail
  refine (ex3 _).mono ?_
  rintro e w4 ⟨rfl, hb⟩
  have hc : w4.cell? ⟨w3.heap.size, 0, none⟩ = some (.int .i64 70) := cell_kept hb (by simp [World.cell?_alloc_new])
  have hB' : Below w.heap.size w w4 := (hB.alloc hB.size _).trans (hb.mono (Nat.le_trans hB.size (by simp)))
  clear hb hB
  have hB := hB'
  clear hB'
  go_wp2_with fail
  refine (stops_yes 70 _ _ hc).mono ?_
  rintro e u ⟨rfl, rfl⟩
  clear hc
  go_wp2_with fail
  refine (stops_any 70 _).mono ?_
  rintro e u ⟨rfl, rfl⟩
  go_wp2_with fail
  refine (ex4 _).mono ?_
  rintro e w5 ⟨rfl, hb⟩
  have hc : w5.cell? ⟨w4.heap.size, 0, none⟩ = some (.int .i64 70) := cell_kept hb (by simp [World.cell?_alloc_new])
  have hB' : Below w.heap.size w w5 := (hB.alloc hB.size _).trans (hb.mono (Nat.le_trans hB.size (by simp)))
  clear hb hB
  have hB := hB'
  clear hB'
  go_wp2_with fail
  refine (stops_yes 70 _ _ hc).mono ?_
  rintro e u ⟨rfl, rfl⟩
  clear hc
  go_wp2_with fail
  refine (stops_any 2 _).mono ?_
  rintro e u ⟨rfl, rfl⟩
  go_wp2_with fail
  refine (ex5 _).mono ?_
  rintro e w6 ⟨rfl, hb⟩
  have hc : w6.cell? ⟨w5.heap.size, 0, none⟩ = some (.int .i64 2) := cell_kept hb (by simp [World.cell?_alloc_new])
  have hB' : Below w.heap.size w w6 := (hB.alloc hB.size _).trans (hb.mono (Nat.le_trans hB.size (by simp)))
  clear hb hB
  have hB := hB'
  clear hB'
  go_wp2_with fail
  refine (stops_yes 2 _ _ hc).mono ?_
  rintro e u ⟨rfl, rfl⟩
  clear hc
  go_wp2_with fail
  refine (is_any ⟨#[2, 3]⟩ _).mono ?_
  rintro e u ⟨rfl, rfl⟩
  go_wp2_with fail
  refine (ex6 _).mono ?_
  rintro e w7 ⟨rfl, hb⟩
  have hc : w7.cell? ⟨w6.heap.size, 0, none⟩ = some (.string ⟨#[2, 3]⟩) := cell_kept hb (by simp [World.cell?_alloc_new])
  have hB' : Below w.heap.size w w7 := (hB.alloc hB.size _).trans (hb.mono (Nat.le_trans hB.size (by simp)))
  clear hb hB
  have hB := hB'
  clear hB'
  go_wp2_with fail
  refine (is_yes ⟨#[2, 3]⟩ _ _ hc).mono ?_
  rintro e u ⟨rfl, rfl⟩
  clear hc
  go_wp2_with fail
  refine (is_any ⟨#[255, 255, 255, 254]⟩ _).mono ?_
  rintro e u ⟨rfl, rfl⟩
  go_wp2_with fail
  refine (ex7 _).mono ?_
  rintro e w8 ⟨rfl, hb⟩
  have hc : w8.cell? ⟨w7.heap.size, 0, none⟩ = some (.string ⟨#[255, 255, 255, 254]⟩) := cell_kept hb (by simp [World.cell?_alloc_new])
  have hB' : Below w.heap.size w w8 := (hB.alloc hB.size _).trans (hb.mono (Nat.le_trans hB.size (by simp)))
  clear hb hB
  have hB := hB'
  clear hB'
  go_wp2_with fail
  refine (is_yes ⟨#[255, 255, 255, 254]⟩ _ _ hc).mono ?_
  rintro e u ⟨rfl, rfl⟩
  clear hc
  go_wp2_with fail
  refine (fails_any 2 _).mono ?_
  rintro e u ⟨rfl, rfl⟩
  go_wp2_with fail
  refine (ex8 _).mono ?_
  rintro e w9 ⟨rfl, hb⟩
  have hc : w9.cell? ⟨w8.heap.size, 0, none⟩ = some (.int .i64 2) := cell_kept hb (by simp [World.cell?_alloc_new])
  have hB' : Below w.heap.size w w9 := (hB.alloc hB.size _).trans (hb.mono (Nat.le_trans hB.size (by simp)))
  clear hb hB
  have hB := hB'
  clear hB'
  go_wp2_with fail
  refine (fails_yes' 2 _ _ hc).mono ?_
  rintro e u ⟨rfl, rfl⟩
  clear hc
  go_wp2_with fail
  refine (is_any ⟨#[97, 98]⟩ _).mono ?_
  rintro e u ⟨rfl, rfl⟩
  go_wp2_with fail
  refine (ex9 _).mono ?_
  rintro e w10 ⟨rfl, hb⟩
  have hc : w10.cell? ⟨w9.heap.size, 0, none⟩ = some (.string ⟨#[97, 98]⟩) := cell_kept hb (by simp [World.cell?_alloc_new])
  have hB' : Below w.heap.size w w10 := (hB.alloc hB.size _).trans (hb.mono (Nat.le_trans hB.size (by simp)))
  clear hb hB
  have hB := hB'
  clear hB'
  go_wp2_with fail
  refine (is_yes ⟨#[97, 98]⟩ _ _ hc).mono ?_
  rintro e u ⟨rfl, rfl⟩
  clear hc
  go_wp2_with fail
  refine (fails_any 5 _).mono ?_
  rintro e u ⟨rfl, rfl⟩
  go_wp2_with fail
  refine (ex10 _).mono ?_
  rintro e w11 ⟨rfl, hb⟩
  have hc : w11.cell? ⟨w10.heap.size, 0, none⟩ = some (.int .i64 5) := cell_kept hb (by simp [World.cell?_alloc_new])
  have hB' : Below w.heap.size w w11 := (hB.alloc hB.size _).trans (hb.mono (Nat.le_trans hB.size (by simp)))
  clear hb hB
  have hB := hB'
  clear hB'
  go_wp2_with fail
  refine (fails_yes' 5 _ _ hc).mono ?_
  rintro e u ⟨rfl, rfl⟩
  clear hc
  go_wp2_with fail
  refine (fails_any 5 _).mono ?_
  rintro e u ⟨rfl, rfl⟩
  go_wp2_with fail
  refine (ex11 _).mono ?_
  rintro e w12 ⟨rfl, hb⟩
  have hc : w12.cell? ⟨w11.heap.size, 0, none⟩ = some (.int .i64 5) := cell_kept hb (by simp [World.cell?_alloc_new])
  have hB' : Below w.heap.size w w12 := (hB.alloc hB.size _).trans (hb.mono (Nat.le_trans hB.size (by simp)))
  clear hb hB
  have hB := hB'
  clear hB'
  go_wp2_with fail
  refine (fails_yes' 5 _ _ hc).mono ?_
  rintro e u ⟨rfl, rfl⟩
  clear hc
  go_wp2_with fail
  refine (is_any ⟨#[97, 98]⟩ _).mono ?_
  rintro e u ⟨rfl, rfl⟩
  go_wp2_with fail
  refine (ex12 _).mono ?_
  rintro e w13 ⟨rfl, hb⟩
  have hc : w13.cell? ⟨w12.heap.size, 0, none⟩ = some (.string ⟨#[97, 98]⟩) := cell_kept hb (by simp [World.cell?_alloc_new])
  have hB' : Below w.heap.size w w13 := (hB.alloc hB.size _).trans (hb.mono (Nat.le_trans hB.size (by simp)))
  clear hb hB
  have hB := hB'
  clear hB'
  go_wp2_with fail
  refine (is_yes ⟨#[97, 98]⟩ _ _ hc).mono ?_
  rintro e u ⟨rfl, rfl⟩
  clear hc
  go_wp2_with fail
  refine (is_any ⟨#[97, 98, 0, 0]⟩ _).mono ?_
  rintro e u ⟨rfl, rfl⟩
  go_wp2_with fail
  refine (ex13 _).mono ?_
  rintro e w14 ⟨rfl, hb⟩
  have hc : w14.cell? ⟨w13.heap.size, 0, none⟩ = some (.string ⟨#[97, 98, 0, 0]⟩) := cell_kept hb (by simp [World.cell?_alloc_new])
  have hB' : Below w.heap.size w w14 := (hB.alloc hB.size _).trans (hb.mono (Nat.le_trans hB.size (by simp)))
  clear hb hB
  have hB := hB'
  clear hB'
  go_wp2_with fail
  refine (is_yes ⟨#[97, 98, 0, 0]⟩ _ _ hc).mono ?_
  rintro e u ⟨rfl, rfl⟩
  clear hc
  go_wp2_with fail
  refine (fails_any 3 _).mono ?_
  rintro e u ⟨rfl, rfl⟩
  go_wp2_with fail
  refine (ex14 _).mono ?_
  rintro e w15 ⟨rfl, hb⟩
  have hc : w15.cell? ⟨w14.heap.size, 0, none⟩ = some (.int .i64 3) := cell_kept hb (by simp [World.cell?_alloc_new])
  have hB' : Below w.heap.size w w15 := (hB.alloc hB.size _).trans (hb.mono (Nat.le_trans hB.size (by simp)))
  clear hb hB
  have hB := hB'
  clear hB'
  go_wp2_with fail
  refine (fails_yes' 3 _ _ hc).mono ?_
  rintro e u ⟨rfl, rfl⟩
  clear hc
  go_wp2_with fail
  refine (is_any ⟨#[97, 98, 99, 0]⟩ _).mono ?_
  rintro e u ⟨rfl, rfl⟩
  go_wp2_with fail
  refine (ex15 _).mono ?_
  rintro e w16 ⟨rfl, hb⟩
  have hc : w16.cell? ⟨w15.heap.size, 0, none⟩ = some (.string ⟨#[97, 98, 99, 0]⟩) := cell_kept hb (by simp [World.cell?_alloc_new])
  have hB' : Below w.heap.size w w16 := (hB.alloc hB.size _).trans (hb.mono (Nat.le_trans hB.size (by simp)))
  clear hb hB
  have hB := hB'
  clear hB'
  go_wp2_with fail
  refine (is_yes ⟨#[97, 98, 99, 0]⟩ _ _ hc).mono ?_
  rintro e u ⟨rfl, rfl⟩
  clear hc
  go_wp2_with fail
  refine (is_any ⟨#[97, 98, 99, 100]⟩ _).mono ?_
  rintro e u ⟨rfl, rfl⟩
  go_wp2_with fail
  refine (ex16 _).mono ?_
  rintro e w17 ⟨rfl, hb⟩
  have hc : w17.cell? ⟨w16.heap.size, 0, none⟩ = some (.string ⟨#[97, 98, 99, 100]⟩) := cell_kept hb (by simp [World.cell?_alloc_new])
  have hB' : Below w.heap.size w w17 := (hB.alloc hB.size _).trans (hb.mono (Nat.le_trans hB.size (by simp)))
  clear hb hB
  have hB := hB'
  clear hB'
  go_wp2_with fail
  refine (is_yes ⟨#[97, 98, 99, 100]⟩ _ _ hc).mono ?_
  rintro e u ⟨rfl, rfl⟩
  clear hc
  go_wp2_with fail
  refine (is_any ⟨#[98]⟩ _).mono ?_
  rintro e u ⟨rfl, rfl⟩
  go_wp2_with fail
  refine (ex17 _).mono ?_
  rintro e w18 ⟨rfl, hb⟩
  have hc : w18.cell? ⟨w17.heap.size, 0, none⟩ = some (.string ⟨#[98]⟩) := cell_kept hb (by simp [World.cell?_alloc_new])
  have hB' : Below w.heap.size w w18 := (hB.alloc hB.size _).trans (hb.mono (Nat.le_trans hB.size (by simp)))
  clear hb hB
  have hB := hB'
  clear hB'
  go_wp2_with fail
  refine (is_yes ⟨#[98]⟩ _ _ hc).mono ?_
  rintro e u ⟨rfl, rfl⟩
  clear hc
  go_wp2_with fail
  go_ret
  exact ⟨rfl, hB⟩
end Go.Proofs.YteddodfpgaadoaaDoor
