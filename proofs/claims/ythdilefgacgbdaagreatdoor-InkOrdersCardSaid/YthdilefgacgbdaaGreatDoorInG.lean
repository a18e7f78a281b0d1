/- InkOrders: for every input the law returns true and leaves what was there as it was. -/
import Derived.Test.YthdilefgacgbdaaGreatDoorInF
import Derived.LoopTactic
namespace Go.Proofs.YthdilefgacgbdaaGreatDoor
open Go.RowKit
set_option maxRecDepth 100000
set_option maxHeartbeats 6400000

theorem mul_bd {x s X S : Int} (x0 : 0 ≤ x) (x1 : x ≤ X) (s0 : 0 ≤ s) (s1 : s ≤ S) : 0 ≤ x * s ∧ x * s ≤ X * S :=
  ⟨Int.mul_nonneg x0 s0, Int.mul_le_mul x1 s1 s0 (by omega)⟩
/-- One of the three amounts: what the law asks of it, where something is cut. -/
theorem order_one {s r x : Int} (hs : 0 ≤ s) (hx : 0 ≤ x) (hxs : x ≤ s) : decide (x * r < scl s r x * s) = false ∧ (decide ((scl s r x + 1) * s ≤ x * r) = false ∨ decide ((scl s r x + 1) * s ≤ x * r) = true ∧ decide (0 < s) = false) := by
  by_cases h : s = 0
  · subst h
    have : x = 0 := by omega
    subst this
    simp [scl]
  · have h1 := scl_mul_le (s := s) (r := r) (x := x) (by omega)
    have h2 := scl_lt_mul (s := s) (r := r) (x := x) (by omega)
    exact ⟨by simpa using h1, .inl (by simpa using h2)⟩

theorem orders_walk (a b c d l : Int) (w : World) (ha : Am a 65535) (hb : Am b 65535) (hc : Am c 65535) (hd : Am d 65535) (hl : Am l 4294967295)
    (hw : ∀ v : World, Bl w v → Calls Tryz.prog 6 #[] v fun e w' => e = .returned (.bool true) ∧ Bl v w') :
    Calls Tryz.prog 5 #[.agg #[.int .u16 a, .int .u16 b, .int .u16 c, .int .u16 d], .int .u32 l] w fun e w' => e = .returned (.bool true) ∧ Bl w w' := by
  obtain ⟨l0, l1⟩ := hl
  have HW := Lib.hid hw; clear hw
  go_enter Tryz.func5, Tryz.ntmps5
  go_wp2_with fail
  refine (HW.out _ (Bl.new w _)).mono ?_
  rintro e w1 ⟨rfl, h1⟩
  have e0 := h1.cell (c_new w #[.int .u16 a, .int .u16 b, .int .u16 c, .int .u16 d] 24 0)
  have e1 := h1.cell (c_new w #[.int .u16 a, .int .u16 b, .int .u16 c, .int .u16 d] 24 1)
  have e2 := h1.cell (c_new w #[.int .u16 a, .int .u16 b, .int .u16 c, .int .u16 d] 24 2)
  have e3 := h1.cell (c_new w #[.int .u16 a, .int .u16 b, .int .u16 c, .int .u16 d] 24 3)
  have hb1 : Bl w w1 := (Bl.new w _).trans h1
  clear h1
  go_wp2_with fail
  refine (amounts_ok a b c d _ ha hb hc hd).mono ?_
  rintro e w2 ⟨rfl, h2⟩
  have hb2 := hb1.trans h2
  clear hb1 h2 e0 e1 e2 e3
  go_wp2_with fail
  obtain ⟨m, hm0⟩ : ∃ m : Int, l % 262141 = m := ⟨_, rfl⟩
  have hm : Am m 262140 := ⟨by omega, by omega⟩
  rw [hm0]
  clear hm0
  refine (cutx_ok a b c d m _ ha hb hc hd hm).mono ?_
  rintro e w3 ⟨rfl, h3⟩
  have A3 : Box w3 w2.heap.size a b c d := (Box.new w2 a b c d _).keep h3
  have hb3 := hb2.trans ((Bl.new _ _).trans h3)
  have l3 : w2.heap.size < w3.heap.size := World.block_lt_of_cell? w3 _ A3.1
  clear hb2 h3
  obtain ⟨a0, a0'⟩ := ha
  obtain ⟨b0, b0'⟩ := hb
  obtain ⟨c0, c0'⟩ := hc
  obtain ⟨d0, d0'⟩ := hd
  obtain ⟨m0, m0'⟩ := hm
  have kx := ct_ok (a := a) (b := b) (c := c) (d := d) (m := m) a0 b0 c0 a0
  have ky := ct_ok (a := a) (b := b) (c := c) (d := d) (m := m) a0 b0 c0 b0
  have kz := ct_ok (a := a) (b := b) (c := c) (d := d) (m := m) a0 b0 c0 c0
  have ku := blk_ok (a := a) (b := b) (c := c) (d := d) (m := m) d0 m0
  have km := blk_m (a := a) (b := b) (c := c) (d := d) (m := m) a0 b0 c0
  have k4 := cut_le (a := a) (b := b) (c := c) (d := d) (m := m) a0 b0 c0
  have mono : ∀ p q : Int, p ≤ q → ct a b c d m p ≤ ct a b c d m q := fun p q h => ct_mono a0 b0 c0 h
  have o01 := mono a b
  have o02 := mono a c
  have o10 := mono b a
  have o12 := mono b c
  have o20 := mono c a
  have o21 := mono c b
  clear mono
  have z0 : ¬ a + b + c + d ≤ m → decide (a * (m - blk a b c d m) < ct a b c d m a * (a + b + c)) = false ∧ (decide ((ct a b c d m a + 1) * (a + b + c) ≤ a * (m - blk a b c d m)) = false ∨ decide ((ct a b c d m a + 1) * (a + b + c) ≤ a * (m - blk a b c d m)) = true ∧ decide (0 < a + b + c) = false) := fun h => by
    simp only [ct, blk, if_neg h]; exact order_one (by omega) a0 (by omega)
  have z1 : ¬ a + b + c + d ≤ m → decide (b * (m - blk a b c d m) < ct a b c d m b * (a + b + c)) = false ∧ (decide ((ct a b c d m b + 1) * (a + b + c) ≤ b * (m - blk a b c d m)) = false ∨ decide ((ct a b c d m b + 1) * (a + b + c) ≤ b * (m - blk a b c d m)) = true ∧ decide (0 < a + b + c) = false) := fun h => by
    simp only [ct, blk, if_neg h]; exact order_one (by omega) b0 (by omega)
  have z2 : ¬ a + b + c + d ≤ m → decide (c * (m - blk a b c d m) < ct a b c d m c * (a + b + c)) = false ∧ (decide ((ct a b c d m c + 1) * (a + b + c) ≤ c * (m - blk a b c d m)) = false ∨ decide ((ct a b c d m c + 1) * (a + b + c) ≤ c * (m - blk a b c d m)) = true ∧ decide (0 < a + b + c) = false) := fun h => by
    simp only [ct, blk, if_neg h]; exact order_one (by omega) c0 (by omega)
  have same : a + b + c + d ≤ m → ct a b c d m a = a ∧ ct a b c d m b = b ∧ ct a b c d m c = c ∧ blk a b c d m = d := fun h => by simp only [ct, blk, if_pos h, and_self]
  generalize ct a b c d m a = x at *
  generalize ct a b c d m b = y at *
  generalize ct a b c d m c = z at *
  generalize blk a b c d m = u at *
  have SAME : (a + b + c + d ≤ m ∧ decide (x = a ∧ y = b ∧ z = c ∧ u = d) = true) ∨ (¬ a + b + c + d ≤ m ∧ decide (x = a ∧ y = b ∧ z = c ∧ u = d) = false) := by
    by_cases h : a + b + c + d ≤ m
    · exact .inl ⟨h, by simpa using same h⟩
    · refine .inr ⟨h, ?_⟩
      simp only [decide_eq_false_iff_not]
      rintro ⟨rfl, rfl, rfl, rfl⟩
      exact h k4
  clear same
  obtain ⟨x0, x1⟩ := kx
  obtain ⟨y0, y1⟩ := ky
  obtain ⟨z0', z1'⟩ := kz
  obtain ⟨u0, u1⟩ := ku
  have O01 := Lib.hid o01; clear o01
  have O02 := Lib.hid o02; clear o02
  have O10 := Lib.hid o10; clear o10
  have O12 := Lib.hid o12; clear o12
  have O20 := Lib.hid o20; clear o20
  have O21 := Lib.hid o21; clear o21
  have Z0 := Lib.hid z0; have Z1 := Lib.hid z1; have Z2 := Lib.hid z2
  have S := Lib.hid SAME
  clear z0 z1 z2 SAME k4
  obtain ⟨ga, hga⟩ : ∃ g, w2.heap.size = g := ⟨_, rfl⟩
  rw [hga] at A3 l3 ⊢
  clear hga
  go_wp2_with fail
  have B4 : Box (w3.alloc (.cells #[.int .i64 x, .int .i64 y, .int .i64 z, .int .i64 u] 22)) w3.heap.size x y z u := Box.new w3 x y z u _
  have A4 : Box (w3.alloc (.cells #[.int .i64 x, .int .i64 y, .int .i64 z, .int .i64 u] 22)) ga a b c d := A3.keep (Bl.new _ _)
  have hb4 := hb3.trans (Bl.new w3 (.cells #[.int .i64 x, .int .i64 y, .int .i64 z, .int .i64 u] 22))
  clear A3 hb3
  generalize w3.alloc (.cells #[.int .i64 x, .int .i64 y, .int .i64 z, .int .i64 u] 22) = w4 at *
  generalize w3.heap.size = gb at *
  obtain ⟨p0, p1, p2, p3⟩ := A4
  obtain ⟨q0, q1, q2, q3⟩ := B4
  go_quiet (fail)
  have A5 : Box _ ga a b c d := Box.keep ((Bl.refl w4).drewN nq) ⟨p0, p1, p2, p3⟩
  have B5 : Box _ gb x y z u := Box.keep ((Bl.refl w4).drewN nq) ⟨q0, q1, q2, q3⟩
  have hb5 := hb4.drewN nq
  clear p0 p1 p2 p3 q0 q1 q2 q3 hb4
  generalize w4.drewN nq = w5 at *
  have s0 : 0 ≤ a + b + c := by omega
  have s1 : a + b + c ≤ 196605 := by omega
  have r0 : 0 ≤ m - u := by omega
  have r1 : m - u ≤ 262140 := by omega
  generalize a + b + c = s at *
  generalize m - u = r at *
  go_wp2_with fail
  obtain ⟨h0, hq⟩ | ⟨h0, hq⟩ := S.out
  · have hqq : ∀ W : World, (Op.equalIn 10000 22 (.agg #[.int .i64 x, .int .i64 y, .int .i64 z, .int .i64 u]) (.agg #[.int .i64 a, .int .i64 b, .int .i64 c, .int .i64 d])).run Tryz.prog W = .ok true W := fun W => by rw [ar_eq, hq]
    have hg := ar_guard
    clear hq
    go_loopw [40] (fun v wz => ∃ i : Int, 0 ≤ i ∧ i ≤ 3 ∧ v = .int .i64 i ∧ Box wz ga a b c d ∧ Box wz gb x y z u ∧ Bl w wz) (fun v _ => (3 - intOf v).toNat)
    case atStart => exact ⟨0, by omega, by omega, rfl, A5, B5, hb5⟩
    case round =>
      obtain ⟨i, i0, i3, rfl, hA, hB, hbl⟩ := hrel
      by_cases hi : i < 3
      · obtain rfl | rfl | rfl : i = 0 ∨ i = 1 ∨ i = 2 := by omega
        · go_wp2_with fail
          go_loopw [43] (fun v wz => ∃ k : Int, 0 ≤ k ∧ k ≤ 3 ∧ v = .int .i64 k ∧ Box wz ga a b c d ∧ Box wz gb x y z u ∧ Bl w wz) (fun v _ => (3 - intOf v).toNat)
          case atStart => exact ⟨0, by omega, by omega, rfl, hA, hB, hbl⟩
          case round =>
            obtain ⟨k, k0, k3, rfl, hA, hB, hbl⟩ := hrel
            by_cases hk : k < 3
            · obtain ⟨p0, p1, p2, p3⟩ := hA
              obtain ⟨q0, q1, q2, q3⟩ := hB
              obtain rfl | rfl | rfl : k = 0 ∨ k = 1 ∨ k = 2 := by omega
              · have f1 : decide (a ≤ a) = true := by simp
                have f2 : decide (x < x) = false := by simp
                go_wp2_with fail
                go_quiet (fail)
                have A5 : Box _ ga a b c d := Box.keep ((Bl.refl wr).drewN nq) ⟨p0, p1, p2, p3⟩
                have B5 : Box _ gb x y z u := Box.keep ((Bl.refl wr).drewN nq) ⟨q0, q1, q2, q3⟩
                have hb5 := hbl.drewN nq
                go_wp2_with fail
                go_roundw
                case rel => exact ⟨1, by omega, by omega, rfl, A5, B5, hb5⟩
                case measure => simp [intOf]
              · by_cases h : a ≤ b
                · have f1 : decide (a ≤ b) = true := by simpa using h
                  have f2 : decide (y < x) = false := by simpa using O01.out h
                  clear h
                  go_wp2_with fail
                  go_quiet (fail)
                  have A5 : Box _ ga a b c d := Box.keep ((Bl.refl wr).drewN nq) ⟨p0, p1, p2, p3⟩
                  have B5 : Box _ gb x y z u := Box.keep ((Bl.refl wr).drewN nq) ⟨q0, q1, q2, q3⟩
                  have hb5 := hbl.drewN nq
                  go_wp2_with fail
                  go_roundw
                  case rel => exact ⟨2, by omega, by omega, rfl, A5, B5, hb5⟩
                  case measure => simp [intOf]
                · have f1 : decide (a ≤ b) = false := by simpa using h
                  clear h
                  go_wp2_with fail
                  go_quiet (fail)
                  have A5 : Box _ ga a b c d := Box.keep ((Bl.refl wr).drewN nq) ⟨p0, p1, p2, p3⟩
                  have B5 : Box _ gb x y z u := Box.keep ((Bl.refl wr).drewN nq) ⟨q0, q1, q2, q3⟩
                  have hb5 := hbl.drewN nq
                  go_wp2_with fail
                  go_roundw
                  case rel => exact ⟨2, by omega, by omega, rfl, A5, B5, hb5⟩
                  case measure => simp [intOf]
              · by_cases h : a ≤ c
                · have f1 : decide (a ≤ c) = true := by simpa using h
                  have f2 : decide (z < x) = false := by simpa using O02.out h
                  clear h
                  go_wp2_with fail
                  go_quiet (fail)
                  have A5 : Box _ ga a b c d := Box.keep ((Bl.refl wr).drewN nq) ⟨p0, p1, p2, p3⟩
                  have B5 : Box _ gb x y z u := Box.keep ((Bl.refl wr).drewN nq) ⟨q0, q1, q2, q3⟩
                  have hb5 := hbl.drewN nq
                  go_wp2_with fail
                  go_roundw
                  case rel => exact ⟨3, by omega, by omega, rfl, A5, B5, hb5⟩
                  case measure => simp [intOf]
                · have f1 : decide (a ≤ c) = false := by simpa using h
                  clear h
                  go_wp2_with fail
                  go_quiet (fail)
                  have A5 : Box _ ga a b c d := Box.keep ((Bl.refl wr).drewN nq) ⟨p0, p1, p2, p3⟩
                  have B5 : Box _ gb x y z u := Box.keep ((Bl.refl wr).drewN nq) ⟨q0, q1, q2, q3⟩
                  have hb5 := hbl.drewN nq
                  go_wp2_with fail
                  go_roundw
                  case rel => exact ⟨3, by omega, by omega, rfl, A5, B5, hb5⟩
                  case measure => simp [intOf]
            · obtain rfl : k = 3 := by omega
              obtain ⟨p0, p1, p2, p3⟩ := hA
              obtain ⟨q0, q1, q2, q3⟩ := hB
              go_wp2_with fail
              go_quiet (fail)
              have A5 : Box _ ga a b c d := Box.keep ((Bl.refl wr).drewN nq) ⟨p0, p1, p2, p3⟩
              have B5 : Box _ gb x y z u := Box.keep ((Bl.refl wr).drewN nq) ⟨q0, q1, q2, q3⟩
              have hb5 := hbl.drewN nq
              go_wp2_with fail
              go_roundw
              case rel => exact ⟨1, by omega, by omega, rfl, A5, B5, hb5⟩
              case measure => simp [intOf]
        · go_wp2_with fail
          go_loopw [43] (fun v wz => ∃ k : Int, 0 ≤ k ∧ k ≤ 3 ∧ v = .int .i64 k ∧ Box wz ga a b c d ∧ Box wz gb x y z u ∧ Bl w wz) (fun v _ => (3 - intOf v).toNat)
          case atStart => exact ⟨0, by omega, by omega, rfl, hA, hB, hbl⟩
          case round =>
            obtain ⟨k, k0, k3, rfl, hA, hB, hbl⟩ := hrel
            by_cases hk : k < 3
            · obtain ⟨p0, p1, p2, p3⟩ := hA
              obtain ⟨q0, q1, q2, q3⟩ := hB
              obtain rfl | rfl | rfl : k = 0 ∨ k = 1 ∨ k = 2 := by omega
              · by_cases h : b ≤ a
                · have f1 : decide (b ≤ a) = true := by simpa using h
                  have f2 : decide (x < y) = false := by simpa using O10.out h
                  clear h
                  go_wp2_with fail
                  go_quiet (fail)
                  have A5 : Box _ ga a b c d := Box.keep ((Bl.refl wr).drewN nq) ⟨p0, p1, p2, p3⟩
                  have B5 : Box _ gb x y z u := Box.keep ((Bl.refl wr).drewN nq) ⟨q0, q1, q2, q3⟩
                  have hb5 := hbl.drewN nq
                  go_wp2_with fail
                  go_roundw
                  case rel => exact ⟨1, by omega, by omega, rfl, A5, B5, hb5⟩
                  case measure => simp [intOf]
                · have f1 : decide (b ≤ a) = false := by simpa using h
                  clear h
                  go_wp2_with fail
                  go_quiet (fail)
                  have A5 : Box _ ga a b c d := Box.keep ((Bl.refl wr).drewN nq) ⟨p0, p1, p2, p3⟩
                  have B5 : Box _ gb x y z u := Box.keep ((Bl.refl wr).drewN nq) ⟨q0, q1, q2, q3⟩
                  have hb5 := hbl.drewN nq
                  go_wp2_with fail
                  go_roundw
                  case rel => exact ⟨1, by omega, by omega, rfl, A5, B5, hb5⟩
                  case measure => simp [intOf]
              · have f1 : decide (b ≤ b) = true := by simp
                have f2 : decide (y < y) = false := by simp
                go_wp2_with fail
                go_quiet (fail)
                have A5 : Box _ ga a b c d := Box.keep ((Bl.refl wr).drewN nq) ⟨p0, p1, p2, p3⟩
                have B5 : Box _ gb x y z u := Box.keep ((Bl.refl wr).drewN nq) ⟨q0, q1, q2, q3⟩
                have hb5 := hbl.drewN nq
                go_wp2_with fail
                go_roundw
                case rel => exact ⟨2, by omega, by omega, rfl, A5, B5, hb5⟩
                case measure => simp [intOf]
              · by_cases h : b ≤ c
                · have f1 : decide (b ≤ c) = true := by simpa using h
                  have f2 : decide (z < y) = false := by simpa using O12.out h
                  clear h
                  go_wp2_with fail
                  go_quiet (fail)
                  have A5 : Box _ ga a b c d := Box.keep ((Bl.refl wr).drewN nq) ⟨p0, p1, p2, p3⟩
                  have B5 : Box _ gb x y z u := Box.keep ((Bl.refl wr).drewN nq) ⟨q0, q1, q2, q3⟩
                  have hb5 := hbl.drewN nq
                  go_wp2_with fail
                  go_roundw
                  case rel => exact ⟨3, by omega, by omega, rfl, A5, B5, hb5⟩
                  case measure => simp [intOf]
                · have f1 : decide (b ≤ c) = false := by simpa using h
                  clear h
                  go_wp2_with fail
                  go_quiet (fail)
                  have A5 : Box _ ga a b c d := Box.keep ((Bl.refl wr).drewN nq) ⟨p0, p1, p2, p3⟩
                  have B5 : Box _ gb x y z u := Box.keep ((Bl.refl wr).drewN nq) ⟨q0, q1, q2, q3⟩
                  have hb5 := hbl.drewN nq
                  go_wp2_with fail
                  go_roundw
                  case rel => exact ⟨3, by omega, by omega, rfl, A5, B5, hb5⟩
                  case measure => simp [intOf]
            · obtain rfl : k = 3 := by omega
              obtain ⟨p0, p1, p2, p3⟩ := hA
              obtain ⟨q0, q1, q2, q3⟩ := hB
              go_wp2_with fail
              go_quiet (fail)
              have A5 : Box _ ga a b c d := Box.keep ((Bl.refl wr).drewN nq) ⟨p0, p1, p2, p3⟩
              have B5 : Box _ gb x y z u := Box.keep ((Bl.refl wr).drewN nq) ⟨q0, q1, q2, q3⟩
              have hb5 := hbl.drewN nq
              go_wp2_with fail
              go_roundw
              case rel => exact ⟨2, by omega, by omega, rfl, A5, B5, hb5⟩
              case measure => simp [intOf]
        · go_wp2_with fail
          go_loopw [43] (fun v wz => ∃ k : Int, 0 ≤ k ∧ k ≤ 3 ∧ v = .int .i64 k ∧ Box wz ga a b c d ∧ Box wz gb x y z u ∧ Bl w wz) (fun v _ => (3 - intOf v).toNat)
          case atStart => exact ⟨0, by omega, by omega, rfl, hA, hB, hbl⟩
          case round =>
            obtain ⟨k, k0, k3, rfl, hA, hB, hbl⟩ := hrel
            by_cases hk : k < 3
            · obtain ⟨p0, p1, p2, p3⟩ := hA
              obtain ⟨q0, q1, q2, q3⟩ := hB
              obtain rfl | rfl | rfl : k = 0 ∨ k = 1 ∨ k = 2 := by omega
              · by_cases h : c ≤ a
                · have f1 : decide (c ≤ a) = true := by simpa using h
                  have f2 : decide (x < z) = false := by simpa using O20.out h
                  clear h
                  go_wp2_with fail
                  go_quiet (fail)
                  have A5 : Box _ ga a b c d := Box.keep ((Bl.refl wr).drewN nq) ⟨p0, p1, p2, p3⟩
                  have B5 : Box _ gb x y z u := Box.keep ((Bl.refl wr).drewN nq) ⟨q0, q1, q2, q3⟩
                  have hb5 := hbl.drewN nq
                  go_wp2_with fail
                  go_roundw
                  case rel => exact ⟨1, by omega, by omega, rfl, A5, B5, hb5⟩
                  case measure => simp [intOf]
                · have f1 : decide (c ≤ a) = false := by simpa using h
                  clear h
                  go_wp2_with fail
                  go_quiet (fail)
                  have A5 : Box _ ga a b c d := Box.keep ((Bl.refl wr).drewN nq) ⟨p0, p1, p2, p3⟩
                  have B5 : Box _ gb x y z u := Box.keep ((Bl.refl wr).drewN nq) ⟨q0, q1, q2, q3⟩
                  have hb5 := hbl.drewN nq
                  go_wp2_with fail
                  go_roundw
                  case rel => exact ⟨1, by omega, by omega, rfl, A5, B5, hb5⟩
                  case measure => simp [intOf]
              · by_cases h : c ≤ b
                · have f1 : decide (c ≤ b) = true := by simpa using h
                  have f2 : decide (y < z) = false := by simpa using O21.out h
                  clear h
                  go_wp2_with fail
                  go_quiet (fail)
                  have A5 : Box _ ga a b c d := Box.keep ((Bl.refl wr).drewN nq) ⟨p0, p1, p2, p3⟩
                  have B5 : Box _ gb x y z u := Box.keep ((Bl.refl wr).drewN nq) ⟨q0, q1, q2, q3⟩
                  have hb5 := hbl.drewN nq
                  go_wp2_with fail
                  go_roundw
                  case rel => exact ⟨2, by omega, by omega, rfl, A5, B5, hb5⟩
                  case measure => simp [intOf]
                · have f1 : decide (c ≤ b) = false := by simpa using h
                  clear h
                  go_wp2_with fail
                  go_quiet (fail)
                  have A5 : Box _ ga a b c d := Box.keep ((Bl.refl wr).drewN nq) ⟨p0, p1, p2, p3⟩
                  have B5 : Box _ gb x y z u := Box.keep ((Bl.refl wr).drewN nq) ⟨q0, q1, q2, q3⟩
                  have hb5 := hbl.drewN nq
                  go_wp2_with fail
                  go_roundw
                  case rel => exact ⟨2, by omega, by omega, rfl, A5, B5, hb5⟩
                  case measure => simp [intOf]
              · have f1 : decide (c ≤ c) = true := by simp
                have f2 : decide (z < z) = false := by simp
                go_wp2_with fail
                go_quiet (fail)
                have A5 : Box _ ga a b c d := Box.keep ((Bl.refl wr).drewN nq) ⟨p0, p1, p2, p3⟩
                have B5 : Box _ gb x y z u := Box.keep ((Bl.refl wr).drewN nq) ⟨q0, q1, q2, q3⟩
                have hb5 := hbl.drewN nq
                go_wp2_with fail
                go_roundw
                case rel => exact ⟨3, by omega, by omega, rfl, A5, B5, hb5⟩
                case measure => simp [intOf]
            · obtain rfl : k = 3 := by omega
              obtain ⟨p0, p1, p2, p3⟩ := hA
              obtain ⟨q0, q1, q2, q3⟩ := hB
              go_wp2_with fail
              go_quiet (fail)
              have A5 : Box _ ga a b c d := Box.keep ((Bl.refl wr).drewN nq) ⟨p0, p1, p2, p3⟩
              have B5 : Box _ gb x y z u := Box.keep ((Bl.refl wr).drewN nq) ⟨q0, q1, q2, q3⟩
              have hb5 := hbl.drewN nq
              go_wp2_with fail
              go_roundw
              case rel => exact ⟨3, by omega, by omega, rfl, A5, B5, hb5⟩
              case measure => simp [intOf]
      · obtain rfl : i = 3 := by omega
        go_wp2_with fail
        go_ret
        exact ⟨rfl, hbl⟩
  · have hqq : ∀ W : World, (Op.equalIn 10000 22 (.agg #[.int .i64 x, .int .i64 y, .int .i64 z, .int .i64 u]) (.agg #[.int .i64 a, .int .i64 b, .int .i64 c, .int .i64 d])).run Tryz.prog W = .ok false W := fun W => by rw [ar_eq, hq]
    have hg := ar_guard
    clear hq
    go_loopw [40] (fun v wz => ∃ i : Int, 0 ≤ i ∧ i ≤ 3 ∧ v = .int .i64 i ∧ Box wz ga a b c d ∧ Box wz gb x y z u ∧ Bl w wz) (fun v _ => (3 - intOf v).toNat)
    case atStart => exact ⟨0, by omega, by omega, rfl, A5, B5, hb5⟩
    case round =>
      obtain ⟨i, i0, i3, rfl, hA, hB, hbl⟩ := hrel
      by_cases hi : i < 3
      · obtain rfl | rfl | rfl : i = 0 ∨ i = 1 ∨ i = 2 := by omega
        · go_wp2_with fail
          go_loopw [43] (fun v wz => ∃ k : Int, 0 ≤ k ∧ k ≤ 3 ∧ v = .int .i64 k ∧ Box wz ga a b c d ∧ Box wz gb x y z u ∧ Bl w wz) (fun v _ => (3 - intOf v).toNat)
          case atStart => exact ⟨0, by omega, by omega, rfl, hA, hB, hbl⟩
          case round =>
            obtain ⟨k, k0, k3, rfl, hA, hB, hbl⟩ := hrel
            by_cases hk : k < 3
            · obtain ⟨p0, p1, p2, p3⟩ := hA
              obtain ⟨q0, q1, q2, q3⟩ := hB
              obtain rfl | rfl | rfl : k = 0 ∨ k = 1 ∨ k = 2 := by omega
              · have f1 : decide (a ≤ a) = true := by simp
                have f2 : decide (x < x) = false := by simp
                go_wp2_with fail
                go_quiet (fail)
                have A5 : Box _ ga a b c d := Box.keep ((Bl.refl wr).drewN nq) ⟨p0, p1, p2, p3⟩
                have B5 : Box _ gb x y z u := Box.keep ((Bl.refl wr).drewN nq) ⟨q0, q1, q2, q3⟩
                have hb5 := hbl.drewN nq
                go_wp2_with fail
                go_roundw
                case rel => exact ⟨1, by omega, by omega, rfl, A5, B5, hb5⟩
                case measure => simp [intOf]
              · by_cases h : a ≤ b
                · have f1 : decide (a ≤ b) = true := by simpa using h
                  have f2 : decide (y < x) = false := by simpa using O01.out h
                  clear h
                  go_wp2_with fail
                  go_quiet (fail)
                  have A5 : Box _ ga a b c d := Box.keep ((Bl.refl wr).drewN nq) ⟨p0, p1, p2, p3⟩
                  have B5 : Box _ gb x y z u := Box.keep ((Bl.refl wr).drewN nq) ⟨q0, q1, q2, q3⟩
                  have hb5 := hbl.drewN nq
                  go_wp2_with fail
                  go_roundw
                  case rel => exact ⟨2, by omega, by omega, rfl, A5, B5, hb5⟩
                  case measure => simp [intOf]
                · have f1 : decide (a ≤ b) = false := by simpa using h
                  clear h
                  go_wp2_with fail
                  go_quiet (fail)
                  have A5 : Box _ ga a b c d := Box.keep ((Bl.refl wr).drewN nq) ⟨p0, p1, p2, p3⟩
                  have B5 : Box _ gb x y z u := Box.keep ((Bl.refl wr).drewN nq) ⟨q0, q1, q2, q3⟩
                  have hb5 := hbl.drewN nq
                  go_wp2_with fail
                  go_roundw
                  case rel => exact ⟨2, by omega, by omega, rfl, A5, B5, hb5⟩
                  case measure => simp [intOf]
              · by_cases h : a ≤ c
                · have f1 : decide (a ≤ c) = true := by simpa using h
                  have f2 : decide (z < x) = false := by simpa using O02.out h
                  clear h
                  go_wp2_with fail
                  go_quiet (fail)
                  have A5 : Box _ ga a b c d := Box.keep ((Bl.refl wr).drewN nq) ⟨p0, p1, p2, p3⟩
                  have B5 : Box _ gb x y z u := Box.keep ((Bl.refl wr).drewN nq) ⟨q0, q1, q2, q3⟩
                  have hb5 := hbl.drewN nq
                  go_wp2_with fail
                  go_roundw
                  case rel => exact ⟨3, by omega, by omega, rfl, A5, B5, hb5⟩
                  case measure => simp [intOf]
                · have f1 : decide (a ≤ c) = false := by simpa using h
                  clear h
                  go_wp2_with fail
                  go_quiet (fail)
                  have A5 : Box _ ga a b c d := Box.keep ((Bl.refl wr).drewN nq) ⟨p0, p1, p2, p3⟩
                  have B5 : Box _ gb x y z u := Box.keep ((Bl.refl wr).drewN nq) ⟨q0, q1, q2, q3⟩
                  have hb5 := hbl.drewN nq
                  go_wp2_with fail
                  go_roundw
                  case rel => exact ⟨3, by omega, by omega, rfl, A5, B5, hb5⟩
                  case measure => simp [intOf]
            · obtain rfl : k = 3 := by omega
              obtain ⟨p0, p1, p2, p3⟩ := hA
              obtain ⟨q0, q1, q2, q3⟩ := hB
              obtain ⟨t1, t2⟩ := mul_bd x0 (Int.le_trans x1 a0') s0 s1
              obtain ⟨t3, t4⟩ := mul_bd a0 a0' r0 r1
              obtain ⟨t5, t6⟩ := mul_bd (x := x + 1) (X := 65536) (by omega) (by omega) s0 s1
              obtain ⟨g1, g2 | ⟨g2, g3⟩⟩ := Z0.out h0
              · go_wp2_with fail
                go_quiet (fail)
                have A5 : Box _ ga a b c d := Box.keep ((Bl.refl wr).drewN nq) ⟨p0, p1, p2, p3⟩
                have B5 : Box _ gb x y z u := Box.keep ((Bl.refl wr).drewN nq) ⟨q0, q1, q2, q3⟩
                have hb5 := hbl.drewN nq
                go_wp2_with fail
                go_roundw
                case rel => exact ⟨1, by omega, by omega, rfl, A5, B5, hb5⟩
                case measure => simp [intOf]
              · go_wp2_with fail
                go_quiet (fail)
                have A5 : Box _ ga a b c d := Box.keep ((Bl.refl wr).drewN nq) ⟨p0, p1, p2, p3⟩
                have B5 : Box _ gb x y z u := Box.keep ((Bl.refl wr).drewN nq) ⟨q0, q1, q2, q3⟩
                have hb5 := hbl.drewN nq
                go_wp2_with fail
                go_roundw
                case rel => exact ⟨1, by omega, by omega, rfl, A5, B5, hb5⟩
                case measure => simp [intOf]
        · go_wp2_with fail
          go_loopw [43] (fun v wz => ∃ k : Int, 0 ≤ k ∧ k ≤ 3 ∧ v = .int .i64 k ∧ Box wz ga a b c d ∧ Box wz gb x y z u ∧ Bl w wz) (fun v _ => (3 - intOf v).toNat)
          case atStart => exact ⟨0, by omega, by omega, rfl, hA, hB, hbl⟩
          case round =>
            obtain ⟨k, k0, k3, rfl, hA, hB, hbl⟩ := hrel
            by_cases hk : k < 3
            · obtain ⟨p0, p1, p2, p3⟩ := hA
              obtain ⟨q0, q1, q2, q3⟩ := hB
              obtain rfl | rfl | rfl : k = 0 ∨ k = 1 ∨ k = 2 := by omega
              · by_cases h : b ≤ a
                · have f1 : decide (b ≤ a) = true := by simpa using h
                  have f2 : decide (x < y) = false := by simpa using O10.out h
                  clear h
                  go_wp2_with fail
                  go_quiet (fail)
                  have A5 : Box _ ga a b c d := Box.keep ((Bl.refl wr).drewN nq) ⟨p0, p1, p2, p3⟩
                  have B5 : Box _ gb x y z u := Box.keep ((Bl.refl wr).drewN nq) ⟨q0, q1, q2, q3⟩
                  have hb5 := hbl.drewN nq
                  go_wp2_with fail
                  go_roundw
                  case rel => exact ⟨1, by omega, by omega, rfl, A5, B5, hb5⟩
                  case measure => simp [intOf]
                · have f1 : decide (b ≤ a) = false := by simpa using h
                  clear h
                  go_wp2_with fail
                  go_quiet (fail)
                  have A5 : Box _ ga a b c d := Box.keep ((Bl.refl wr).drewN nq) ⟨p0, p1, p2, p3⟩
                  have B5 : Box _ gb x y z u := Box.keep ((Bl.refl wr).drewN nq) ⟨q0, q1, q2, q3⟩
                  have hb5 := hbl.drewN nq
                  go_wp2_with fail
                  go_roundw
                  case rel => exact ⟨1, by omega, by omega, rfl, A5, B5, hb5⟩
                  case measure => simp [intOf]
              · have f1 : decide (b ≤ b) = true := by simp
                have f2 : decide (y < y) = false := by simp
                go_wp2_with fail
                go_quiet (fail)
                have A5 : Box _ ga a b c d := Box.keep ((Bl.refl wr).drewN nq) ⟨p0, p1, p2, p3⟩
                have B5 : Box _ gb x y z u := Box.keep ((Bl.refl wr).drewN nq) ⟨q0, q1, q2, q3⟩
                have hb5 := hbl.drewN nq
                go_wp2_with fail
                go_roundw
                case rel => exact ⟨2, by omega, by omega, rfl, A5, B5, hb5⟩
                case measure => simp [intOf]
              · by_cases h : b ≤ c
                · have f1 : decide (b ≤ c) = true := by simpa using h
                  have f2 : decide (z < y) = false := by simpa using O12.out h
                  clear h
                  go_wp2_with fail
                  go_quiet (fail)
                  have A5 : Box _ ga a b c d := Box.keep ((Bl.refl wr).drewN nq) ⟨p0, p1, p2, p3⟩
                  have B5 : Box _ gb x y z u := Box.keep ((Bl.refl wr).drewN nq) ⟨q0, q1, q2, q3⟩
                  have hb5 := hbl.drewN nq
                  go_wp2_with fail
                  go_roundw
                  case rel => exact ⟨3, by omega, by omega, rfl, A5, B5, hb5⟩
                  case measure => simp [intOf]
                · have f1 : decide (b ≤ c) = false := by simpa using h
                  clear h
                  go_wp2_with fail
                  go_quiet (fail)
                  have A5 : Box _ ga a b c d := Box.keep ((Bl.refl wr).drewN nq) ⟨p0, p1, p2, p3⟩
                  have B5 : Box _ gb x y z u := Box.keep ((Bl.refl wr).drewN nq) ⟨q0, q1, q2, q3⟩
                  have hb5 := hbl.drewN nq
                  go_wp2_with fail
                  go_roundw
                  case rel => exact ⟨3, by omega, by omega, rfl, A5, B5, hb5⟩
                  case measure => simp [intOf]
            · obtain rfl : k = 3 := by omega
              obtain ⟨p0, p1, p2, p3⟩ := hA
              obtain ⟨q0, q1, q2, q3⟩ := hB
              obtain ⟨t1, t2⟩ := mul_bd y0 (Int.le_trans y1 b0') s0 s1
              obtain ⟨t3, t4⟩ := mul_bd b0 b0' r0 r1
              obtain ⟨t5, t6⟩ := mul_bd (x := y + 1) (X := 65536) (by omega) (by omega) s0 s1
              obtain ⟨g1, g2 | ⟨g2, g3⟩⟩ := Z1.out h0
              · go_wp2_with fail
                go_quiet (fail)
                have A5 : Box _ ga a b c d := Box.keep ((Bl.refl wr).drewN nq) ⟨p0, p1, p2, p3⟩
                have B5 : Box _ gb x y z u := Box.keep ((Bl.refl wr).drewN nq) ⟨q0, q1, q2, q3⟩
                have hb5 := hbl.drewN nq
                go_wp2_with fail
                go_roundw
                case rel => exact ⟨2, by omega, by omega, rfl, A5, B5, hb5⟩
                case measure => simp [intOf]
              · go_wp2_with fail
                go_quiet (fail)
                have A5 : Box _ ga a b c d := Box.keep ((Bl.refl wr).drewN nq) ⟨p0, p1, p2, p3⟩
                have B5 : Box _ gb x y z u := Box.keep ((Bl.refl wr).drewN nq) ⟨q0, q1, q2, q3⟩
                have hb5 := hbl.drewN nq
                go_wp2_with fail
                go_roundw
                case rel => exact ⟨2, by omega, by omega, rfl, A5, B5, hb5⟩
                case measure => simp [intOf]
        · go_wp2_with fail
          go_loopw [43] (fun v wz => ∃ k : Int, 0 ≤ k ∧ k ≤ 3 ∧ v = .int .i64 k ∧ Box wz ga a b c d ∧ Box wz gb x y z u ∧ Bl w wz) (fun v _ => (3 - intOf v).toNat)
          case atStart => exact ⟨0, by omega, by omega, rfl, hA, hB, hbl⟩
          case round =>
            obtain ⟨k, k0, k3, rfl, hA, hB, hbl⟩ := hrel
            by_cases hk : k < 3
            · obtain ⟨p0, p1, p2, p3⟩ := hA
              obtain ⟨q0, q1, q2, q3⟩ := hB
              obtain rfl | rfl | rfl : k = 0 ∨ k = 1 ∨ k = 2 := by omega
              · by_cases h : c ≤ a
                · have f1 : decide (c ≤ a) = true := by simpa using h
                  have f2 : decide (x < z) = false := by simpa using O20.out h
                  clear h
                  go_wp2_with fail
                  go_quiet (fail)
                  have A5 : Box _ ga a b c d := Box.keep ((Bl.refl wr).drewN nq) ⟨p0, p1, p2, p3⟩
                  have B5 : Box _ gb x y z u := Box.keep ((Bl.refl wr).drewN nq) ⟨q0, q1, q2, q3⟩
                  have hb5 := hbl.drewN nq
                  go_wp2_with fail
                  go_roundw
                  case rel => exact ⟨1, by omega, by omega, rfl, A5, B5, hb5⟩
                  case measure => simp [intOf]
                · have f1 : decide (c ≤ a) = false := by simpa using h
                  clear h
                  go_wp2_with fail
                  go_quiet (fail)
                  have A5 : Box _ ga a b c d := Box.keep ((Bl.refl wr).drewN nq) ⟨p0, p1, p2, p3⟩
                  have B5 : Box _ gb x y z u := Box.keep ((Bl.refl wr).drewN nq) ⟨q0, q1, q2, q3⟩
                  have hb5 := hbl.drewN nq
                  go_wp2_with fail
                  go_roundw
                  case rel => exact ⟨1, by omega, by omega, rfl, A5, B5, hb5⟩
                  case measure => simp [intOf]
              · by_cases h : c ≤ b
                · have f1 : decide (c ≤ b) = true := by simpa using h
                  have f2 : decide (y < z) = false := by simpa using O21.out h
                  clear h
                  go_wp2_with fail
                  go_quiet (fail)
                  have A5 : Box _ ga a b c d := Box.keep ((Bl.refl wr).drewN nq) ⟨p0, p1, p2, p3⟩
                  have B5 : Box _ gb x y z u := Box.keep ((Bl.refl wr).drewN nq) ⟨q0, q1, q2, q3⟩
                  have hb5 := hbl.drewN nq
                  go_wp2_with fail
                  go_roundw
                  case rel => exact ⟨2, by omega, by omega, rfl, A5, B5, hb5⟩
                  case measure => simp [intOf]
                · have f1 : decide (c ≤ b) = false := by simpa using h
                  clear h
                  go_wp2_with fail
                  go_quiet (fail)
                  have A5 : Box _ ga a b c d := Box.keep ((Bl.refl wr).drewN nq) ⟨p0, p1, p2, p3⟩
                  have B5 : Box _ gb x y z u := Box.keep ((Bl.refl wr).drewN nq) ⟨q0, q1, q2, q3⟩
                  have hb5 := hbl.drewN nq
                  go_wp2_with fail
                  go_roundw
                  case rel => exact ⟨2, by omega, by omega, rfl, A5, B5, hb5⟩
                  case measure => simp [intOf]
              · have f1 : decide (c ≤ c) = true := by simp
                have f2 : decide (z < z) = false := by simp
                go_wp2_with fail
                go_quiet (fail)
                have A5 : Box _ ga a b c d := Box.keep ((Bl.refl wr).drewN nq) ⟨p0, p1, p2, p3⟩
                have B5 : Box _ gb x y z u := Box.keep ((Bl.refl wr).drewN nq) ⟨q0, q1, q2, q3⟩
                have hb5 := hbl.drewN nq
                go_wp2_with fail
                go_roundw
                case rel => exact ⟨3, by omega, by omega, rfl, A5, B5, hb5⟩
                case measure => simp [intOf]
            · obtain rfl : k = 3 := by omega
              obtain ⟨p0, p1, p2, p3⟩ := hA
              obtain ⟨q0, q1, q2, q3⟩ := hB
              obtain ⟨t1, t2⟩ := mul_bd z0' (Int.le_trans z1' c0') s0 s1
              obtain ⟨t3, t4⟩ := mul_bd c0 c0' r0 r1
              obtain ⟨t5, t6⟩ := mul_bd (x := z + 1) (X := 65536) (by omega) (by omega) s0 s1
              obtain ⟨g1, g2 | ⟨g2, g3⟩⟩ := Z2.out h0
              · go_wp2_with fail
                go_quiet (fail)
                have A5 : Box _ ga a b c d := Box.keep ((Bl.refl wr).drewN nq) ⟨p0, p1, p2, p3⟩
                have B5 : Box _ gb x y z u := Box.keep ((Bl.refl wr).drewN nq) ⟨q0, q1, q2, q3⟩
                have hb5 := hbl.drewN nq
                go_wp2_with fail
                go_roundw
                case rel => exact ⟨3, by omega, by omega, rfl, A5, B5, hb5⟩
                case measure => simp [intOf]
              · go_wp2_with fail
                go_quiet (fail)
                have A5 : Box _ ga a b c d := Box.keep ((Bl.refl wr).drewN nq) ⟨p0, p1, p2, p3⟩
                have B5 : Box _ gb x y z u := Box.keep ((Bl.refl wr).drewN nq) ⟨q0, q1, q2, q3⟩
                have hb5 := hbl.drewN nq
                go_wp2_with fail
                go_roundw
                case rel => exact ⟨3, by omega, by omega, rfl, A5, B5, hb5⟩
                case measure => simp [intOf]
      · obtain rfl : i = 3 := by omega
        go_wp2_with fail
        go_ret
        exact ⟨rfl, hbl⟩
end Go.Proofs.YthdilefgacgbdaaGreatDoor
