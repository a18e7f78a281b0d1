/- InkCuts: for every input the law returns true and leaves what was there as it was. -/
import Derived.Test.YthdilefgacgbdaaGreatDoorInK
import Derived.LoopTactic
namespace Go.Proofs.YthdilefgacgbdaaGreatDoor
open Go.RowKit
set_option maxRecDepth 100000
set_option maxHeartbeats 6400000

theorem iy0 (x0 x1 x2 x3 x4 x5 x6 x7 x8 x9 x10 x11 x12 x13 x14 x15 : Value) (w : World) : (Instr.index 27 (.agg #[x0, x1, x2, x3, x4, x5, x6, x7, x8, x9, x10, x11, x12, x13, x14, x15]) (.int .i64 0)).run Tryz.prog w = .ok (.agg #[x0, x1, x2, x3]) w := by kernel_rfl
theorem iy1 (x0 x1 x2 x3 x4 x5 x6 x7 x8 x9 x10 x11 x12 x13 x14 x15 : Value) (w : World) : (Instr.index 27 (.agg #[x0, x1, x2, x3, x4, x5, x6, x7, x8, x9, x10, x11, x12, x13, x14, x15]) (.int .i64 1)).run Tryz.prog w = .ok (.agg #[x4, x5, x6, x7]) w := by kernel_rfl
theorem iy2 (x0 x1 x2 x3 x4 x5 x6 x7 x8 x9 x10 x11 x12 x13 x14 x15 : Value) (w : World) : (Instr.index 27 (.agg #[x0, x1, x2, x3, x4, x5, x6, x7, x8, x9, x10, x11, x12, x13, x14, x15]) (.int .i64 2)).run Tryz.prog w = .ok (.agg #[x8, x9, x10, x11]) w := by kernel_rfl
theorem iy3 (x0 x1 x2 x3 x4 x5 x6 x7 x8 x9 x10 x11 x12 x13 x14 x15 : Value) (w : World) : (Instr.index 27 (.agg #[x0, x1, x2, x3, x4, x5, x6, x7, x8, x9, x10, x11, x12, x13, x14, x15]) (.int .i64 3)).run Tryz.prog w = .ok (.agg #[x12, x13, x14, x15]) w := by kernel_rfl
theorem iz0 (x0 x1 x2 x3 : Value) (w : World) : (Instr.index 22 (.agg #[x0, x1, x2, x3]) (.int .i64 0)).run Tryz.prog w = .ok x0 w := by kernel_rfl
theorem iz1 (x0 x1 x2 x3 : Value) (w : World) : (Instr.index 22 (.agg #[x0, x1, x2, x3]) (.int .i64 1)).run Tryz.prog w = .ok x1 w := by kernel_rfl
theorem iz2 (x0 x1 x2 x3 : Value) (w : World) : (Instr.index 22 (.agg #[x0, x1, x2, x3]) (.int .i64 2)).run Tryz.prog w = .ok x2 w := by kernel_rfl
theorem iz3 (x0 x1 x2 x3 : Value) (w : World) : (Instr.index 22 (.agg #[x0, x1, x2, x3]) (.int .i64 3)).run Tryz.prog w = .ok x3 w := by kernel_rfl
theorem iy_any (x0 x1 x2 x3 x4 x5 x6 x7 x8 x9 x10 x11 x12 x13 x14 x15 i : Int) (h0 : 0 ≤ i) (h1 : i < 4) : ∃ a b c d : Int, ∀ w : World, (Instr.index 27 (.agg #[.int .i64 x0, .int .i64 x1, .int .i64 x2, .int .i64 x3, .int .i64 x4, .int .i64 x5, .int .i64 x6, .int .i64 x7, .int .i64 x8, .int .i64 x9, .int .i64 x10, .int .i64 x11, .int .i64 x12, .int .i64 x13, .int .i64 x14, .int .i64 x15]) (.int .i64 i)).run Tryz.prog w = .ok (.agg #[.int .i64 a, .int .i64 b, .int .i64 c, .int .i64 d]) w := by
  obtain rfl | rfl | rfl | rfl : i = 0 ∨ i = 1 ∨ i = 2 ∨ i = 3 := by omega
  · exact ⟨_, _, _, _, fun w => iy0 ..⟩
  · exact ⟨_, _, _, _, fun w => iy1 ..⟩
  · exact ⟨_, _, _, _, fun w => iy2 ..⟩
  · exact ⟨_, _, _, _, fun w => iy3 ..⟩
theorem iz_any (x0 x1 x2 x3 i : Int) (h0 : 0 ≤ i) (h1 : i < 4) : ∃ m : Int, ∀ w : World, (Instr.index 22 (.agg #[.int .i64 x0, .int .i64 x1, .int .i64 x2, .int .i64 x3]) (.int .i64 i)).run Tryz.prog w = .ok (.int .i64 m) w := by
  obtain rfl | rfl | rfl | rfl : i = 0 ∨ i = 1 ∨ i = 2 ∨ i = 3 := by omega
  · exact ⟨_, fun w => iz0 ..⟩
  · exact ⟨_, fun w => iz1 ..⟩
  · exact ⟨_, fun w => iz2 ..⟩
  · exact ⟨_, fun w => iz3 ..⟩

theorem c_new1 (w : World) (o : Obj) (c : Array Value) (t : TypeId) (k : Nat) (v : Value) (h : c[k]? = some v) : ((w.alloc o).alloc (.cells c t)).cell? ⟨w.heap.size + 1, k, none⟩ = some v := by
  have := c_new (w.alloc o) c t k
  rw [World.size_alloc] at this
  exact this.trans h
theorem box_three (w : World) (a0 a1 a2 a3 b0 b1 b2 b3 c0 c1 c2 c3 : Int) (t : TypeId) : ∃ W, ((w.alloc (.cells #[.int .i64 a0, .int .i64 a1, .int .i64 a2, .int .i64 a3] t)).alloc (.cells #[.int .i64 b0, .int .i64 b1, .int .i64 b2, .int .i64 b3] t)).alloc (.cells #[.int .i64 c0, .int .i64 c1, .int .i64 c2, .int .i64 c3] t) = W ∧
    Box W w.heap.size a0 a1 a2 a3 ∧ Box W (w.heap.size + 1) b0 b1 b2 b3 ∧ Box W (w.heap.size + 1 + 1) c0 c1 c2 c3 ∧ Bl w W := by
  refine ⟨_, rfl, ((Box.new w a0 a1 a2 a3 t).keep (Bl.new _ _)).keep (Bl.new _ _), ?_, ?_, ((Bl.new _ _).trans (Bl.new _ _)).trans (Bl.new _ _)⟩
  · have := Box.new (w.alloc (.cells #[.int .i64 a0, .int .i64 a1, .int .i64 a2, .int .i64 a3] t)) b0 b1 b2 b3 t
    rw [World.size_alloc] at this
    exact this.keep (Bl.new _ _)
  · have := Box.new ((w.alloc (.cells #[.int .i64 a0, .int .i64 a1, .int .i64 a2, .int .i64 a3] t)).alloc (.cells #[.int .i64 b0, .int .i64 b1, .int .i64 b2, .int .i64 b3] t)) c0 c1 c2 c3 t
    rw [World.size_alloc, World.size_alloc] at this
    exact this
theorem cuts_walk (r0 r1 r2 r3 mo n0 n1 n2 n3 l : Int) (w : World) (hm : -9223372036854775808 ≤ mo ∧ mo ≤ 9223372036854775807) (h0 : Am n0 65535) (h1 : Am n1 65535) (h2 : Am n2 65535) (h3 : Am n3 65535) (hl : Am l 4294967295)
    (hw : ∀ v : World, Bl w v → Calls Tryz.prog 6 #[] v fun e w' => e = .returned (.bool true) ∧ Bl v w') :
    Calls Tryz.prog 3 #[.agg #[.int .i64 r0, .int .i64 r1, .int .i64 r2, .int .i64 r3], .int .i64 mo, .agg #[.int .u16 n0, .int .u16 n1, .int .u16 n2, .int .u16 n3], .int .u32 l] w fun e w' => e = .returned (.bool true) ∧ Bl w w' := by
  obtain ⟨l0, l1⟩ := hl
  obtain ⟨h00, h01⟩ := h0
  obtain ⟨h10, h11⟩ := h1
  obtain ⟨h20, h21⟩ := h2
  obtain ⟨h30, h31⟩ := h3
  have HW := Lib.hid hw; clear hw
  have HM := Lib.hid hm; clear hm
  go_enter Tryz.func3, Tryz.ntmps3
  go_wp2_with fail
  refine (HW.out _ ((Bl.new w _).trans (Bl.new _ _))).mono ?_
  rintro e w1 ⟨rfl, hb1⟩
  have R1 : Box w1 w.heap.size r0 r1 r2 r3 := ((Box.new w r0 r1 r2 r3 _).keep (Bl.new _ _)).keep hb1
  have s0 : w1.cell? ⟨w.heap.size + 1, 0, none⟩ = some (.int .u16 n0) := hb1.cell (c_new1 w _ _ _ 0 _ rfl)
  have s1 : w1.cell? ⟨w.heap.size + 1, 1, none⟩ = some (.int .u16 n1) := hb1.cell (c_new1 w _ _ _ 1 _ rfl)
  have s2 : w1.cell? ⟨w.heap.size + 1, 2, none⟩ = some (.int .u16 n2) := hb1.cell (c_new1 w _ _ _ 2 _ rfl)
  have s3 : w1.cell? ⟨w.heap.size + 1, 3, none⟩ = some (.int .u16 n3) := hb1.cell (c_new1 w _ _ _ 3 _ rfl)
  have hb2 : Bl w w1 := ((Bl.new w _).trans (Bl.new _ _)).trans hb1
  have l1' : w.heap.size < w1.heap.size := World.block_lt_of_cell? w1 _ R1.1
  have l2' : w.heap.size + 1 < w1.heap.size := World.block_lt_of_cell? w1 _ s0
  clear hb1
  have j0 := ix0; have j1 := ix1; have j2 := ix2; have j3 := ix3
  obtain ⟨g, hg⟩ : ∃ g, w.heap.size = g := ⟨_, rfl⟩
  rw [hg] at R1 s0 s1 s2 s3 l1' l2' ⊢
  clear hg
  obtain ⟨c0, c1, c2, c3⟩ := R1
  have l3' : g < w1.heap.size + 1 := by omega
  have l4' : g < w1.heap.size + 1 + 1 := by omega
  go_wp2_with fail
  refine wp_loop_rounds 5 ?_
  rw [rounds_succ]; go_wp2_with fail
  rw [rounds_succ]; go_wp2_with fail
  rw [rounds_succ]; go_wp2_with fail
  rw [rounds_succ]; go_wp2_with fail
  rw [rounds_succ]
  go_upto_region 10 with fail
  go_cut [51] (fun v wz => ∃ x0 x1 x2 x3 : Int, v = .int .i64 r0 ∧ Box wz (w1.heap.size + 1 + 1) x0 x1 x2 x3 ∧ Box wz w1.heap.size (n0 % 10001) (n1 % 10001) (n2 % 10001) (n3 % 10001) ∧ Box wz (w1.heap.size + 1) n0 n1 n2 n3 ∧ Box wz g r0 r1 r2 r3 ∧ Bl w wz)
  case first =>
    obtain h | h | h | h : l % 4 = 0 ∨ l % 4 = 1 ∨ l % 4 = 2 ∨ l % 4 = 3 := by omega
    · go_wp2_with fail
      go_meet
      obtain ⟨W, hW, b1, b2, b3, b4⟩ := box_three w1 (n0 % 10001) (n1 % 10001) (n2 % 10001) (n3 % 10001) n0 n1 n2 n3 r0 n1 n2 n3 22
      rw [hW]
      exact ⟨_, _, _, _, rfl, b3, b1, b2, Box.keep b4 ⟨c0, c1, c2, c3⟩, hb2.trans b4⟩
    · go_wp2_with fail
      go_meet
      obtain ⟨W, hW, b1, b2, b3, b4⟩ := box_three w1 (n0 % 10001) (n1 % 10001) (n2 % 10001) (n3 % 10001) n0 n1 n2 n3 n0 r0 n2 n3 22
      rw [hW]
      exact ⟨_, _, _, _, rfl, b3, b1, b2, Box.keep b4 ⟨c0, c1, c2, c3⟩, hb2.trans b4⟩
    · go_wp2_with fail
      go_meet
      obtain ⟨W, hW, b1, b2, b3, b4⟩ := box_three w1 (n0 % 10001) (n1 % 10001) (n2 % 10001) (n3 % 10001) n0 n1 n2 n3 n0 n1 r0 n3 22
      rw [hW]
      exact ⟨_, _, _, _, rfl, b3, b1, b2, Box.keep b4 ⟨c0, c1, c2, c3⟩, hb2.trans b4⟩
    · go_wp2_with fail
      go_meet
      obtain ⟨W, hW, b1, b2, b3, b4⟩ := box_three w1 (n0 % 10001) (n1 % 10001) (n2 % 10001) (n3 % 10001) n0 n1 n2 n3 n0 n1 n2 r0 22
      rw [hW]
      exact ⟨_, _, _, _, rfl, b3, b1, b2, Box.keep b4 ⟨c0, c1, c2, c3⟩, hb2.trans b4⟩
  case rest =>
    obtain ⟨x0, x1, x2, x3, rfl, X, P, N, R, hbc⟩ := hcut
    clear s0 s1 s2 s3 l1' l2' l3' l4' c0 c1 c2 c3 hb2
    obtain ⟨ga, hga⟩ : ∃ g, w1.heap.size = g := ⟨_, rfl⟩
    rw [hga] at X P N ⊢
    clear hga
    obtain ⟨c0, c1, c2, c3⟩ := R
    obtain ⟨d0, d1, d2, d3⟩ := X
    obtain ⟨e0, e1, e2, e3⟩ := P
    obtain ⟨f0, f1, f2, f3⟩ := N
    go_wp2_with fail
    go_loopw [58] (fun v wz => ∃ i : Int, 0 ≤ i ∧ i ≤ 4 ∧ v = .int .i64 i ∧ Bl w wz) (fun v _ => (4 - intOf v).toNat)
    case atStart => exact ⟨0, by omega, by omega, rfl, hbc⟩
    case round =>
      clear c0 c1 c2 c3 d0 d1 d2 d3 e0 e1 e2 e3 f0 f1 f2 f3 hbc
      obtain ⟨i, i0, i4, rfl, hbl⟩ := hrel
      by_cases hi : i < 4
      · obtain ⟨a, b, c, d, hix⟩ := iy_any r0 r1 r2 r3 n0 n1 n2 n3 (n0 % 10001) (n1 % 10001) (n2 % 10001) (n3 % 10001) x0 x1 x2 x3 i i0 hi
        obtain ⟨t, te, T1, T2⟩ := total_pair a b c d
        have TT1 := Lib.hid T1; have TT2 := Lib.hid T2
        clear T1 T2
        go_wp2_with fail
        refine (TT1.out _).mono ?_
        rintro e w2 ⟨rfl, h2⟩
        have A2 : Box w2 wr.heap.size a b c d := (Box.new wr a b c d _).keep h2
        have hb2 : Bl w w2 := hbl.trans ((Bl.new _ _).trans h2)
        clear hbl h2
        obtain ⟨gr, hgr⟩ : ∃ g, wr.heap.size = g := ⟨_, rfl⟩
        rw [hgr] at A2 ⊢
        clear hgr
        have A2' := Lib.hid A2
        obtain ⟨p0, p1, p2, p3⟩ := A2
        go_wp2_with fail
        refine (TT2.out _).mono ?_
        rintro e w3 ⟨rfl, h3⟩
        have A3 : Box w3 gr a b c d := A2'.out.keep h3
        have hb3 : Bl w w3 := hb2.trans h3
        clear hb2 h3 p0 p1 p2 p3 A2'
        go_wp2_with fail
        go_loopw [91] (fun v wz => ∃ j : Int, 0 ≤ j ∧ j ≤ 4 ∧ v = .int .i64 j ∧ Box wz gr a b c d ∧ Bl w wz) (fun v _ => (4 - intOf v).toNat)
        case atStart => exact ⟨0, by omega, by omega, rfl, A3, hb3⟩
        case round =>
          clear A3 hb3 hix
          obtain ⟨j, j0', j4', rfl, hA, hbl⟩ := hrel
          by_cases hj : j < 4
          · obtain ⟨m, hiz⟩ := iz_any mo (l % 262145) (l % 40001) (10000 + l % 30001) j j0' hj
            obtain ⟨p, q, r, s, ce, C1, C2⟩ := cut_pair a b c d m
            obtain ⟨p', q', r', s', le, D1, D2⟩ := limit_pair a b c d m
            have CC1 := Lib.hid C1; have CC2 := Lib.hid C2; have DD1 := Lib.hid D1; have DD2 := Lib.hid D2
            clear C1 C2 D1 D2
            have A0 := Lib.hid hA
            obtain ⟨p0, p1, p2, p3⟩ := hA
            go_wp2_with fail
            refine (CC1.out _).mono ?_
            rintro e u1 ⟨rfl, k1⟩
            have A1 : Box u1 gr a b c d := A0.out.keep k1
            have B1 : Bl w u1 := hbl.trans k1
            clear p0 p1 p2 p3 A0 hbl k1
            have A1' := Lib.hid A1
            obtain ⟨p0, p1, p2, p3⟩ := A1
            have lt1 : gr < u1.heap.size := World.block_lt_of_cell? u1 _ p0
            go_wp2_with fail
            refine (CC2.out _).mono ?_
            rintro e u2 ⟨rfl, k2⟩
            have A2 : Box u2 gr a b c d := (A1'.out.keep (Bl.new _ _)).keep k2
            have X2 : Box u2 u1.heap.size p q r s := (Box.new u1 p q r s _).keep k2
            have B2 : Bl w u2 := B1.trans ((Bl.new _ _).trans k2)
            clear p0 p1 p2 p3 A1' B1 k2 lt1
            obtain ⟨g1, hg1⟩ : ∃ g, u1.heap.size = g := ⟨_, rfl⟩
            rw [hg1] at X2 ⊢
            clear hg1
            have A2' := Lib.hid A2
            obtain ⟨p0, p1, p2, p3⟩ := A2
            have lt1 : gr < u2.heap.size := World.block_lt_of_cell? u2 _ p0
            have X2' := Lib.hid X2
            clear X2
            go_wp2_with fail
            refine (DD1.out _).mono ?_
            rintro e u3 ⟨rfl, k3⟩
            have A3 : Box u3 gr a b c d := (A2'.out.keep (Bl.new _ _)).keep k3
            have X3 : Box u3 g1 p q r s := (X2'.out.keep (Bl.new _ _)).keep k3
            have Y3 : Box u3 u2.heap.size p q r s := (Box.new u2 p q r s _).keep k3
            have B3 : Bl w u3 := B2.trans ((Bl.new _ _).trans k3)
            clear p0 p1 p2 p3 A2' B2 X2' k3 lt1
            obtain ⟨g2, hg2⟩ : ∃ g, u2.heap.size = g := ⟨_, rfl⟩
            rw [hg2] at Y3 ⊢
            clear hg2
            have A3' := Lib.hid A3
            obtain ⟨p0, p1, p2, p3⟩ := A3
            have lt1 : gr < u3.heap.size := World.block_lt_of_cell? u3 _ p0
            have X3' := Lib.hid X3
            have Y3' := Lib.hid Y3
            clear X3 Y3
            go_wp2_with fail
            refine (DD2.out _).mono ?_
            rintro e u4 ⟨rfl, k4⟩
            have A4 : Box u4 gr a b c d := (A3'.out.keep (Bl.new _ _)).keep k4
            have X4 : Box u4 g1 p q r s := (X3'.out.keep (Bl.new _ _)).keep k4
            have Y4 : Box u4 g2 p q r s := (Y3'.out.keep (Bl.new _ _)).keep k4
            have Z4 : Box u4 u3.heap.size p' q' r' s' := (Box.new u3 p' q' r' s' _).keep k4
            have B4 : Bl w u4 := B3.trans ((Bl.new _ _).trans k4)
            clear p0 p1 p2 p3 A3' B3 X3' Y3' k4 lt1
            obtain ⟨g3, hg3⟩ : ∃ g, u3.heap.size = g := ⟨_, rfl⟩
            rw [hg3] at Z4 ⊢
            clear hg3
            have A5 := A4.keep (Bl.new u4 (.cells #[.int .i64 p', .int .i64 q', .int .i64 r', .int .i64 s'] 22))
            have B5 := B4.trans (Bl.new u4 (.cells #[.int .i64 p', .int .i64 q', .int .i64 r', .int .i64 s'] 22))
            have AA := Lib.hid A5; have BB := Lib.hid B5
            clear A4 B4 A5 B5
            obtain ⟨a0, a1, a2, a3⟩ := X4
            obtain ⟨b0, b1, b2, b3⟩ := Y4
            obtain ⟨c0, c1, c2, c3⟩ := Z4
            have lt1 : g1 < u4.heap.size := World.block_lt_of_cell? u4 _ a0
            have lt2 : g2 < u4.heap.size := World.block_lt_of_cell? u4 _ b0
            have lt3 : g3 < u4.heap.size := World.block_lt_of_cell? u4 _ c0
            have hq1 : ∀ W : World, (Op.equalIn 10000 22 (.agg #[.int .i64 p, .int .i64 q, .int .i64 r, .int .i64 s]) (.agg #[.int .i64 p, .int .i64 q, .int .i64 r, .int .i64 s])).run Tryz.prog W = .ok true W := fun W => by rw [ar_eq]; simp
            have hq2 : ∀ W : World, (Op.equalIn 10000 22 (.agg #[.int .i64 p', .int .i64 q', .int .i64 r', .int .i64 s']) (.agg #[.int .i64 p', .int .i64 q', .int .i64 r', .int .i64 s'])).run Tryz.prog W = .ok true W := fun W => by rw [ar_eq]; simp
            have hgd := ar_guard
            go_wp2_with fail
            go_roundw
            case rel => exact ⟨j + 1, by omega, by omega, rfl, AA.out, BB.out⟩
            case measure => simp [intOf]; omega
          · obtain rfl : j = 4 := by omega
            go_wp2_with fail
            go_roundw
            case rel => exact ⟨i + 1, by omega, by omega, rfl, hbl⟩
            case measure => simp [intOf]; omega
      · obtain rfl : i = 4 := by omega
        go_wp2_with fail
        go_ret
        exact ⟨rfl, hbl⟩
end Go.Proofs.YthdilefgacgbdaaGreatDoor
