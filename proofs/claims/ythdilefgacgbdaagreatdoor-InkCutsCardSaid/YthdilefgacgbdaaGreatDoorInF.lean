/- InkKeeps: for every input the law returns true and leaves what was there as it was. -/
import Derived.Test.YthdilefgacgbdaaGreatDoorInE
import Derived.Deep.DeepCutAuto
import Derived.BigQuiet
import Derived.Deep.QuietTactic
namespace Go.Proofs.YthdilefgacgbdaaGreatDoor
open Go.RowKit
set_option maxRecDepth 100000
set_option maxHeartbeats 6400000

/-- The cells of a box of amounts. -/
def Box (w : World) (g : Nat) (a b c d : Int) : Prop := w.cell? ⟨g, 0, none⟩ = some (.int .i64 a) ∧ w.cell? ⟨g, 1, none⟩ = some (.int .i64 b) ∧ w.cell? ⟨g, 2, none⟩ = some (.int .i64 c) ∧ w.cell? ⟨g, 3, none⟩ = some (.int .i64 d)
theorem Box.keep {w w' : World} {g : Nat} {a b c d : Int} (hb : Bl w w') (h : Box w g a b c d) : Box w' g a b c d := ⟨hb.cell h.1, hb.cell h.2.1, hb.cell h.2.2.1, hb.cell h.2.2.2⟩
theorem Box.new (w : World) (a b c d : Int) (t : TypeId) : Box (w.alloc (.cells #[.int .i64 a, .int .i64 b, .int .i64 c, .int .i64 d] t)) w.heap.size a b c d :=
  ⟨c_new w _ t 0, c_new w _ t 1, c_new w _ t 2, c_new w _ t 3⟩

theorem is_keep (a b c d : Int) (g : Nat) (w : World) (h : Box w g a b c d) :
    Calls Tryz.prog 14 #[.agg #[.int .i64 a, .int .i64 b, .int .i64 c, .int .i64 d]] w fun e w' => e = .returned (.func (.func 29) #[] #[.pointer (some ⟨w.heap.size, 0, none⟩)]) ∧ Bl w w' ∧ Box w' g a b c d ∧ Box w' w.heap.size a b c d :=
  (is_ok a b c d w).mono fun _ w' ⟨he, hw⟩ => by
    subst hw
    exact ⟨he, Bl.new _ _, h.keep (Bl.new _ _), Box.new _ _ _ _ _ _⟩
theorem cut_same (a b c d m : Int) (g : Nat) (w : World) (ha : Am a 65535) (hb : Am b 65535) (hc : Am c 65535) (hd : Am d 65535) (hm : Am m 262140) (h : a + b + c + d ≤ m) (hg : Box w g a b c d) :
    Calls Tryz.prog 9 #[.agg #[.int .i64 a, .int .i64 b, .int .i64 c, .int .i64 d], .int .i64 m] w
      fun e w' => e = .returned (.tuple #[.agg #[.int .i64 a, .int .i64 b, .int .i64 c, .int .i64 d], .int .i64 0]) ∧ Bl w w' ∧ Box w' g a b c d ∧ Hid (∀ h a b c d, Box w h a b c d → Box w' h a b c d) :=
  (cutx_ok a b c d m w ha hb hc hd hm).mono fun _ w' ⟨he, hw⟩ => by
    simp only [ct, blk, if_pos h] at he
    exact ⟨he, hw, hg.keep hw, Lib.hid fun _ _ _ _ _ hx => hx.keep hw⟩
theorem is1_keep (a b c d : Int) (g h : Nat) (w : World) (hg : Box w g a b c d) (hh : Box w h a b c d) :
    Calls Tryz.prog 29 #[.agg #[.int .i64 a, .int .i64 b, .int .i64 c, .int .i64 d], .int .i64 0, .pointer (some ⟨h, 0, none⟩)] w fun e w' => e = .returned (.bool true) ∧ Bl w w' ∧ Box w' g a b c d :=
  (is1_yes a b c d h w hh.1 hh.2.1 hh.2.2.1 hh.2.2.2).mono fun _ _ ⟨he, hb⟩ => ⟨he, hb, hg.keep hb⟩

theorem keeps_walk (a b c d l : Int) (w : World) (ha : Am a 65535) (hb : Am b 65535) (hc : Am c 65535) (hd : Am d 65535) (hl : Am l 4294967295)
    (hw : ∀ v : World, Bl w v → Calls Tryz.prog 6 #[] v fun e w' => e = .returned (.bool true) ∧ Bl v w') :
    Calls Tryz.prog 4 #[.agg #[.int .u16 a, .int .u16 b, .int .u16 c, .int .u16 d], .int .u32 l] w fun e w' => e = .returned (.bool true) ∧ Bl w w' := by
  obtain ⟨l0, l1⟩ := hl
  have HW := Lib.hid hw; clear hw
  go_enter Tryz.func4, Tryz.ntmps4
  go_wp2_with fail
  refine (HW.out _ (Bl.new w _)).mono ?_
  rintro e w1 ⟨rfl, h1⟩
  have e0 := h1.cell (c_new w #[.int .u16 a, .int .u16 b, .int .u16 c, .int .u16 d] 24 0)
  have e1 := h1.cell (c_new w #[.int .u16 a, .int .u16 b, .int .u16 c, .int .u16 d] 24 1)
  have e2 := h1.cell (c_new w #[.int .u16 a, .int .u16 b, .int .u16 c, .int .u16 d] 24 2)
  have e3 := h1.cell (c_new w #[.int .u16 a, .int .u16 b, .int .u16 c, .int .u16 d] 24 3)
  have hb1 : Bl w w1 := (Bl.new w _).trans h1
  clear h1
  go_wp2_with fail
  refine (amounts_ok a b c d _ ha hb hc hd).mono ?_
  rintro e w2 ⟨rfl, h2⟩
  have hb2 := hb1.trans h2
  clear hb1 h2 e0 e1 e2 e3
  go_wp2_with fail
  obtain ⟨m, hm0⟩ : ∃ m : Int, l % 262141 = m := ⟨_, rfl⟩
  have hm : Am m 262140 := ⟨by omega, by omega⟩
  rw [hm0]
  clear hm0
  refine (cutx_ok a b c d m _ ha hb hc hd hm).mono ?_
  rintro e w3 ⟨rfl, h3⟩
  have A3 : Box w3 w2.heap.size a b c d := (Box.new w2 a b c d _).keep h3
  have hb3 := hb2.trans ((Bl.new _ _).trans h3)
  have l3 : w2.heap.size < w3.heap.size := World.block_lt_of_cell? w3 _ A3.1
  clear hb2 h3
  have k0 := ct_ok (a := a) (b := b) (c := c) (d := d) (m := m) ha.1 hb.1 hc.1 ha.1
  have k1 := ct_ok (a := a) (b := b) (c := c) (d := d) (m := m) ha.1 hb.1 hc.1 hb.1
  have k2 := ct_ok (a := a) (b := b) (c := c) (d := d) (m := m) ha.1 hb.1 hc.1 hc.1
  have k3 := blk_ok (a := a) (b := b) (c := c) (d := d) (m := m) hd.1 hm.1
  have k4 := cut_le (a := a) (b := b) (c := c) (d := d) (m := m) ha.1 hb.1 hc.1
  have k5 := @cut_ge a b c d m ha.1 hb.1 hc.1
  obtain ⟨x, hx⟩ : ∃ x, ct a b c d m a = x := ⟨_, rfl⟩
  obtain ⟨y, hy⟩ : ∃ y, ct a b c d m b = y := ⟨_, rfl⟩
  obtain ⟨z, hz⟩ : ∃ z, ct a b c d m c = z := ⟨_, rfl⟩
  obtain ⟨u, hu⟩ : ∃ u, blk a b c d m = u := ⟨_, rfl⟩
  rw [hx] at k0 k4 k5 ⊢
  rw [hy] at k1 k4 k5 ⊢
  rw [hz] at k2 k4 k5 ⊢
  rw [hu] at k3 k4 k5 ⊢
  have HX := Lib.hid hx; have HY := Lib.hid hy; have HZ := Lib.hid hz; have HU := Lib.hid hu; have K5 := Lib.hid k5
  clear hx hy hz hu k5
  have xA : Am x 65535 := ⟨k0.1, by have := ha.2; omega⟩
  have yA : Am y 65535 := ⟨k1.1, by have := hb.2; omega⟩
  have zA : Am z 65535 := ⟨k2.1, by have := hc.2; omega⟩
  have uA : Am u 65535 := ⟨k3.1, by have := hd.2; omega⟩
  go_wp2_with fail
  refine (totalx_ok x y z u _ xA yA zA uA).mono ?_
  rintro e w4 ⟨rfl, h4⟩
  have B4 : Box w4 w3.heap.size x y z u := (Box.new w3 x y z u _).keep h4
  have A4 : Box w4 w2.heap.size a b c d := (A3.keep (Bl.new _ _)).keep h4
  have hb4 := hb3.trans ((Bl.new _ _).trans h4)
  clear hb3 h4 A3
  obtain ⟨a0, a1, a2, a3⟩ := A4
  go_wp2_with fail
  refine (totalx_ok a b c d _ ha hb hc hd).mono ?_
  rintro e w5 ⟨rfl, h5⟩
  have B5 := B4.keep h5
  have A5 : Box w5 w2.heap.size a b c d := Box.keep h5 ⟨a0, a1, a2, a3⟩
  have hb5 := hb4.trans h5
  clear hb4 h5 B4 a0 a1 a2 a3
  obtain ⟨ga, hga⟩ : ∃ g, w2.heap.size = g := ⟨_, rfl⟩
  obtain ⟨gb, hgb⟩ : ∃ g, w3.heap.size = g := ⟨_, rfl⟩
  rw [hga] at A5 ⊢
  rw [hgb] at B5 ⊢
  rw [hga, hgb] at l3
  clear hga hgb
  obtain ⟨b0, b1, b2, b3⟩ := B5
  go_wp2_with fail
  have hq0 : Bl w5 w5.drew := Bl.drew (Bl.refl _)
  have hsum : x + y + z + u ≤ m := k4
  have hgt : decide (m < x + y + z + u) = false := by simpa using hsum
  have KA := Lib.hid A5; clear A5
  have KH := Lib.hid hb5; clear hb5
  have K0 := Lib.hid k0; have K1 := Lib.hid k1; have K2 := Lib.hid k2; have K3 := Lib.hid k3
  clear k0 k1 k2 k3 k4
  go_cut [62] (fun v wz => v = .bool false ∧ Box wz gb x y z u ∧ Bl w5 wz)
  case first =>
    go_region_held3 (fun w' => w'.cell? ⟨gb, 0, none⟩ = some (.int .i64 x) ∧ w'.cell? ⟨gb, 1, none⟩ = some (.int .i64 y) ∧ w'.cell? ⟨gb, 2, none⟩ = some (.int .i64 z) ∧ w'.cell? ⟨gb, 3, none⟩ = some (.int .i64 u) ∧ Bl w5 w')
      ((go_split_ands; refine ⟨?_, ?_, ?_, ?_, ?_⟩ <;> first | assumption | exact Bl.drew (Bl.refl _) | exact Bl.drew (by assumption) | exact Bl.trans (by assumption) (by assumption) | (simp [*]; done)))
      (first
        | (go_at_call 14; go_split_ands; refine (is_keep x y z u gb _ ⟨by assumption, by assumption, by assumption, by assumption⟩).mono ?_; rintro e w6 ⟨rfl, hb6, ⟨d0, d1, d2, d3⟩, hnew⟩)
        | (go_at_call 9; go_split_ands; refine (cut_same x y z u m gb _ xA yA zA uA hm hsum ⟨by assumption, by assumption, by assumption, by assumption⟩).mono ?_; rintro e w6 ⟨rfl, hb6, ⟨d0, d1, d2, d3⟩, HKK⟩)
        | (go_at_call 29; go_split_ands; refine (is1_keep x y z u gb _ _ ⟨by assumption, by assumption, by assumption, by assumption⟩ (by first | assumption | exact HKK.out _ _ _ _ _ (by assumption))).mono ?_; rintro e w6 ⟨rfl, hb6, ⟨d0, d1, d2, d3⟩⟩))
    go_wp2_with fail
    go_meet
    exact ⟨rfl, by go_split_ands; exact ⟨by assumption, by assumption, by assumption, by assumption⟩, by go_split_ands; assumption⟩
  case rest =>
    obtain ⟨rfl, B6, hb6⟩ := hcut
    have A6 := KA.out.keep hb6
    have hb7 := KH.out.trans hb6
    clear hb6 b0 b1 b2 b3 hq0
    obtain ⟨b0, b1, b2, b3⟩ := B6
    obtain ⟨a0, a1, a2, a3⟩ := A6
    obtain ⟨k0, k0'⟩ := K0.out
    obtain ⟨k1, k1'⟩ := K1.out
    obtain ⟨k2, k2'⟩ := K2.out
    obtain ⟨k3, k3'⟩ := K3.out
    have g0 : decide (a < x) = false := by simpa using k0'
    have g1 : decide (b < y) = false := by simpa using k1'
    have g2 : decide (c < z) = false := by simpa using k2'
    have g3 : decide (d < u) = false := by simpa using k3'
    have n0 : decide (x < 0) = false := by simpa using k0
    have n1 : decide (y < 0) = false := by simpa using k1
    have n2 : decide (z < 0) = false := by simpa using k2
    have n3 : decide (u < 0) = false := by simpa using k3
    go_wp2_with fail
    refine wp_loop_rounds 5 ?_
    rw [rounds_succ]; go_wp2_with fail
    go_quiet (fail)
    go_wp2_with fail
    rw [rounds_succ]; go_wp2_with fail
    go_quiet (fail)
    go_wp2_with fail
    rw [rounds_succ]; go_wp2_with fail
    go_quiet (fail)
    go_wp2_with fail
    rw [rounds_succ]; go_wp2_with fail
    go_quiet (fail)
    go_wp2_with fail
    rw [rounds_succ]
    by_cases h : a + b + c + d ≤ m
    · obtain rfl : x = a := by have e := HX.out; unfold ct at e; rw [if_pos h] at e; exact e.symm
      obtain rfl : y = b := by have e := HY.out; unfold ct at e; rw [if_pos h] at e; exact e.symm
      obtain rfl : z = c := by have e := HZ.out; unfold ct at e; rw [if_pos h] at e; exact e.symm
      obtain rfl : u = d := by have e := HU.out; unfold blk at e; rw [if_pos h] at e; exact e.symm
      have hq : ∀ W : World, (Op.equalIn 10000 22 (.agg #[.int .i64 x, .int .i64 y, .int .i64 z, .int .i64 u]) (.agg #[.int .i64 x, .int .i64 y, .int .i64 z, .int .i64 u])).run Tryz.prog W = .ok true W := fun W => by rw [ar_eq]; simp
      have hg := ar_guard
      go_wp2_with fail
      go_ret
      exact ⟨rfl, hb7.drewN _⟩
    · have hu : u = min d m := by have e := HU.out; unfold blk at e; rw [if_neg h] at e; exact e.symm
      have hk := K5.out (by omega)
      have ua := ha.1; have ua' := ha.2; have ub := hb.1; have ub' := hb.2; have uc := hc.1; have uc' := hc.2; have um := hm.1; have um' := hm.2
      have hd3 : decide (a + b + c + d ≤ m) = false := by simpa using h
      by_cases s0 : a + b + c = 0
      · have s1 : (a + b + c == 0) = true := by simpa using s0
        have S0 := Lib.hid s0; clear s0 hk
        by_cases h5 : d ≤ m
        · obtain rfl : u = d := by omega
          clear hu
          go_wp2_with fail
          go_ret
          exact ⟨rfl, hb7.drewN _⟩
        · obtain rfl : u = m := by omega
          clear hu
          go_wp2_with fail
          go_ret
          exact ⟨rfl, hb7.drewN _⟩
      · have s1 : (a + b + c == 0) = false := by simpa using s0
        have s2 : decide (m - 3 ≤ x + y + z + u) = true := by simpa using hk s0
        have S0 := Lib.hid s0; clear s0 hk
        by_cases h5 : d ≤ m
        · obtain rfl : u = d := by omega
          clear hu
          go_wp2_with fail
          go_ret
          exact ⟨rfl, hb7.drewN _⟩
        · obtain rfl : u = m := by omega
          clear hu
          go_wp2_with fail
          go_ret
          exact ⟨rfl, hb7.drewN _⟩
end Go.Proofs.YthdilefgacgbdaaGreatDoor
