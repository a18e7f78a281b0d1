/- GridPlaces: for every input the law returns true and leaves what was there as it was. -/
import Derived.Test.YtjinpngojdefiaaGrS
namespace Go.Proofs.Ytjinpngojdefiaa
open Go.RowKit
set_option maxRecDepth 20000
set_option maxHeartbeats 6400000

theorem clone_any (A : Option Addr) (c : Nat) (l : List Int) (w : World) (hl : l.length ≤ 100000) (h : Ls w .i64 A l) (h0 : l = [] → A = none ∧ c = 0) :
    Calls Try.prog 19 #[.slice A l.length c] w fun e w' => ∃ A' c', e = .returned (.slice A' l.length c') ∧ Ow w' w.heap.size (.slice A' l.length c') l ∧ Bl w w' := by
  rcases Nat.eq_zero_or_pos l.length with hz | hz
  · have e := List.length_eq_zero_iff.1 hz
    subst e
    obtain ⟨rfl, rfl⟩ := h0 rfl
    refine (Try.slices_Clone_int_nil 0 0 w).mono ?_
    rintro e w' ⟨rfl, rfl⟩
    exact ⟨none, 0, rfl, World.ownsRow_nil _ _ _ _, Bl.refl _⟩
  · obtain ⟨b, o, rfl⟩ := h.addr 0 hz
    refine (Try.slices_Clone_int b o l.length c l w (by omega) (by omega) (fun j hj => by rw [List.getD_eq_getElem?_getD, List.getElem?_eq_getElem hj]; exact h.at j hj)).mono ?_
    rintro e w' ⟨v, rfl, ho, _, hb⟩
    rw [List.take_of_length_le (by omega)] at ho
    obtain ⟨A', c', hv, -, -⟩ := Ow.addr (v := v) ho
    subst hv
    exact ⟨A', c', rfl, ho, hb⟩
theorem ig0 (x0 x1 x2 x3 x4 x5 x6 x7 x8 x9 x10 x11 : Value) (w : World) : (Instr.index 33 (.agg #[x0, x1, x2, x3, x4, x5, x6, x7, x8, x9, x10, x11]) (.int .i64 0)).run Try.prog w = .ok (.agg #[x0, x1, x2]) w := by kernel_rfl
theorem ig1 (x0 x1 x2 x3 x4 x5 x6 x7 x8 x9 x10 x11 : Value) (w : World) : (Instr.index 33 (.agg #[x0, x1, x2, x3, x4, x5, x6, x7, x8, x9, x10, x11]) (.int .i64 1)).run Try.prog w = .ok (.agg #[x3, x4, x5]) w := by kernel_rfl
theorem ig2 (x0 x1 x2 x3 x4 x5 x6 x7 x8 x9 x10 x11 : Value) (w : World) : (Instr.index 33 (.agg #[x0, x1, x2, x3, x4, x5, x6, x7, x8, x9, x10, x11]) (.int .i64 2)).run Try.prog w = .ok (.agg #[x6, x7, x8]) w := by kernel_rfl
theorem ig3 (x0 x1 x2 x3 x4 x5 x6 x7 x8 x9 x10 x11 : Value) (w : World) : (Instr.index 33 (.agg #[x0, x1, x2, x3, x4, x5, x6, x7, x8, x9, x10, x11]) (.int .i64 3)).run Try.prog w = .ok (.agg #[x9, x10, x11]) w := by kernel_rfl
/-- Four grids: what indexing them yields. -/
def Four (V : Value) (w : World) : Prop := ∀ i : Nat, i < 4 → ∃ g : Gs, g.Ok w ∧ ∀ u : World, (Instr.index 33 V (.int .i64 (i : Int))).run Try.prog u = .ok (.agg #[.slice g.A g.l.length g.c, .int .i64 g.q, .slice g.B g.m.length g.d]) u
theorem FourRes.use {w w' : World} {e : Ending} (h : FourRes w e w') : ∃ V, e = .returned V ∧ Four V w' ∧ Bl w w' := by
  obtain ⟨g0, g1, g2, g3, rfl, h0, h1, h2, h3, hb⟩ := h
  refine ⟨_, rfl, fun i hi => ?_, hb⟩
  obtain rfl | rfl | rfl | rfl : i = 0 ∨ i = 1 ∨ i = 2 ∨ i = 3 := by omega
  · exact ⟨g0, h0, fun u => ig0 ..⟩
  · exact ⟨g1, h1, fun u => ig1 ..⟩
  · exact ⟨g2, h2, fun u => ig2 ..⟩
  · exact ⟨g3, h3, fun u => ig3 ..⟩
theorem is0 (A0 A1 A2 : Option Addr) (n0 c0 n1 c1 n2 c2 : Nat) (w : World) : (Instr.index 44 (.agg #[.slice A0 n0 c0, .slice A1 n1 c1, .slice A2 n2 c2]) (.int .i64 0)).run Try.prog w = .ok (.slice A0 n0 c0) w := by kernel_rfl
theorem is1 (A0 A1 A2 : Option Addr) (n0 c0 n1 c1 n2 c2 : Nat) (w : World) : (Instr.index 44 (.agg #[.slice A0 n0 c0, .slice A1 n1 c1, .slice A2 n2 c2]) (.int .i64 1)).run Try.prog w = .ok (.slice A1 n1 c1) w := by kernel_rfl
theorem is2 (A0 A1 A2 : Option Addr) (n0 c0 n1 c1 n2 c2 : Nat) (w : World) : (Instr.index 44 (.agg #[.slice A0 n0 c0, .slice A1 n1 c1, .slice A2 n2 c2]) (.int .i64 2)).run Try.prog w = .ok (.slice A2 n2 c2) w := by kernel_rfl
theorem is_any (A0 A1 A2 : Option Addr) (c0 c1 c2 : Nat) (l0 l1 l2 : List Int) (w : World) (h0 : Ls w .i64 A0 l0) (h1 : Ls w .i64 A1 l1) (h2 : Ls w .i64 A2 l2) (b0 : l0.length ≤ 1000000) (b1 : l1.length ≤ 1000000) (b2 : l2.length ≤ 1000000) (i : Nat) (hi : i < 3) :
    ∃ (A : Option Addr) (c : Nat) (l : List Int), Ls w .i64 A l ∧ l.length ≤ 1000000 ∧ ∀ u : World, (Instr.index 44 (.agg #[.slice A0 l0.length c0, .slice A1 l1.length c1, .slice A2 l2.length c2]) (.int .i64 (i : Int))).run Try.prog u = .ok (.slice A l.length c) u := by
  obtain rfl | rfl | rfl : i = 0 ∨ i = 1 ∨ i = 2 := by omega
  · exact ⟨A0, c0, l0, h0, b0, fun u => is0 ..⟩
  · exact ⟨A1, c1, l1, h1, b1, fun u => is1 ..⟩
  · exact ⟨A2, c2, l2, h2, b2, fun u => is2 ..⟩

theorem places_walk (Ar : Option Addr) (cr : Nat) (rl : List Int) (qr : Int) (Br : Option Addr) (dr : Nat) (rm : List Int) (A1 : Option Addr) (c1 : Nat) (zs : List Int) (o : Int) (A2 : Option Addr) (c2 : Nat) (vs : List Int) (sm : Bool) (a0 b0 N0 a1 b1 N1 : Int) (Ai : Option Addr) (ci : Nat) (il : List Int) (n0 n1 n2 n3 : Int) (w : World)
    (hr1 : rl.length ≤ 9223372036854775807) (hr2 : rm.length ≤ 9223372036854775807) (hc1 : rl.length ≤ cr) (hc2 : rm.length ≤ dr) (hqr : -9223372036854775808 ≤ qr ∧ qr ≤ 9223372036854775807) (h1 : Ls w .i64 Ar rl) (h2 : Ls w .i64 Br rm)
    (ho : 0 ≤ o ∧ o ≤ 255) (hzs : ∀ x ∈ zs, 0 ≤ x ∧ x ≤ 255) (hvs : ∀ x ∈ vs, 0 ≤ x ∧ x ≤ 65535) (hL1 : zs.length ≤ 9223372036854775807) (hL : vs.length ≤ 9223372036854775807) (h3 : Ls w .u8 A1 zs) (h4 : Ls w .u16 A2 vs)
    (ha0 : 0 ≤ a0 ∧ a0 ≤ 255) (hb0 : 0 ≤ b0 ∧ b0 ≤ 255) (hN0 : -9223372036854775808 ≤ N0 ∧ N0 ≤ 9223372036854775807) (ha1 : 0 ≤ a1 ∧ a1 ≤ 255) (hb1 : 0 ≤ b1 ∧ b1 ≤ 255) (hN1 : -9223372036854775808 ≤ N1 ∧ N1 ≤ 9223372036854775807)
    (hi1 : il.length ≤ 9223372036854775807) (hic : il.length ≤ ci) (h5 : Ls w .i64 Ai il) (hn0 : 0 ≤ n0 ∧ n0 ≤ 255) (hn1 : 0 ≤ n1 ∧ n1 ≤ 255) (hn2 : 0 ≤ n2 ∧ n2 ≤ 255) (hn3 : 0 ≤ n3 ∧ n3 ≤ 255)
    (hw : ∀ v : World, Bl w v → Calls Try.prog 10 #[] v fun e w' => e = .returned (.bool true) ∧ Bl v w') :
    Calls Try.prog 4 #[.agg #[.slice Ar rl.length cr, .int .i64 qr, .slice Br rm.length dr], .agg #[.slice A1 zs.length c1, .int .u8 o, .slice A2 vs.length c2, .bool sm], .agg #[.int .u8 a0, .int .u8 b0, .int .i64 N0, .int .u8 a1, .int .u8 b1, .int .i64 N1], .slice Ai il.length ci, .agg #[.int .u8 n0, .int .u8 n1, .int .u8 n2, .int .u8 n3]] w fun e w' => e = .returned (.bool true) ∧ Bl w w' := by
  have F := fun v h1 h2 h3 h4 => four_ok Ar cr rl qr Br dr rm A1 c1 zs o A2 c2 vs sm a0 b0 N0 a1 b1 N1 v hr1 hr2 hc1 hc2 hqr h1 h2 ho hzs hvs hL1 hL h3 h4 ha0 hb0 hN0 ha1 hb1 hN1
  have L6 := h5.take 6
  have K6 : (il.take 6).length = min il.length 6 := by rw [List.length_take, Nat.min_comm]
  obtain ⟨il6, hil6⟩ : ∃ l, il.take 6 = l := ⟨_, rfl⟩
  obtain ⟨n, hn⟩ : ∃ n, zs.length = n := ⟨_, rfl⟩
  obtain ⟨L, hLL⟩ : ∃ L, vs.length = L := ⟨_, rfl⟩
  obtain ⟨nr, hnr⟩ : ∃ L, rl.length = L := ⟨_, rfl⟩
  obtain ⟨mr, hmr⟩ : ∃ L, rm.length = L := ⟨_, rfl⟩
  obtain ⟨ni, hni⟩ : ∃ L, il.length = L := ⟨_, rfl⟩
  obtain ⟨k6, hk6⟩ : ∃ k, min ni 6 = k := ⟨_, rfl⟩
  rw [hil6] at L6 K6
  rw [hni, hk6] at K6
  rw [hn, hLL, hnr, hmr] at F
  rw [hn, hLL, hnr, hmr, hni]
  have ni9 : (ni : Int) ≤ 9223372036854775807 := by omega
  have f8 : min (ni : Int) 6 = (k6 : Int) := by omega
  have g8 : (if (ni : Int) ≤ 6 then (ni : Int) else 6) = (k6 : Int) := by split <;> omega
  have g8' : (if (6 : Int) < (ni : Int) then 6 else (ni : Int)) = (k6 : Int) := by split <;> omega
  have hkc : (k6 : Int) ≤ (ci : Int) := by omega
  have HK66 := Lib.hid (show k6 ≤ 6 by omega)
  have HF := Lib.hid F; have HW := Lib.hid hw; have H1 := Lib.hid h1; have H2 := Lib.hid h2; have H3 := Lib.hid h3; have H4 := Lib.hid h4; have HL6 := Lib.hid L6; have HK6 := Lib.hid K6
  have HNN := Lib.hid (show (0 ≤ n0 ∧ n0 ≤ 255) ∧ (0 ≤ n1 ∧ n1 ≤ 255) ∧ (0 ≤ n2 ∧ n2 ≤ 255) ∧ (0 ≤ n3 ∧ n3 ≤ 255) from ⟨hn0, hn1, hn2, hn3⟩)
  clear F hw h1 h2 h3 h4 h5 L6 K6 hil6 hn hLL hnr hmr hni hk6 hr1 hr2 hc1 hc2 hqr ho hzs hvs hL1 hL ha0 hb0 hN0 ha1 hb1 hN1 hi1 hic hn0 hn1 hn2 hn3
  have i1 := Bl.new w (.cells #[.slice Ar nr cr, .int .i64 qr, .slice Br mr dr] 24)
  have i2 := Bl.new (w.alloc (.cells #[.slice Ar nr cr, .int .i64 qr, .slice Br mr dr] 24)) (.cells #[.slice A1 n c1, .int .u8 o, .slice A2 L c2, .bool sm] 28)
  have i3 := Bl.new ((w.alloc (.cells #[.slice Ar nr cr, .int .i64 qr, .slice Br mr dr] 24)).alloc (.cells #[.slice A1 n c1, .int .u8 o, .slice A2 L c2, .bool sm] 28)) (.cells #[.int .u8 a0, .int .u8 b0, .int .i64 N0, .int .u8 a1, .int .u8 b1, .int .i64 N1] 31)
  have i4 := Bl.new (((w.alloc (.cells #[.slice Ar nr cr, .int .i64 qr, .slice Br mr dr] 24)).alloc (.cells #[.slice A1 n c1, .int .u8 o, .slice A2 L c2, .bool sm] 28)).alloc (.cells #[.int .u8 a0, .int .u8 b0, .int .i64 N0, .int .u8 a1, .int .u8 b1, .int .i64 N1] 31)) (.cells #[.int .u8 n0, .int .u8 n1, .int .u8 n2, .int .u8 n3] 42)
  have hz1 : ((w.alloc (.cells #[.slice Ar nr cr, .int .i64 qr, .slice Br mr dr] 24))).heap.size = w.heap.size + 1 := by simp
  have hz2 : (((w.alloc (.cells #[.slice Ar nr cr, .int .i64 qr, .slice Br mr dr] 24)).alloc (.cells #[.slice A1 n c1, .int .u8 o, .slice A2 L c2, .bool sm] 28))).heap.size = w.heap.size + 1 + 1 := by simp
  have hz3 : ((((w.alloc (.cells #[.slice Ar nr cr, .int .i64 qr, .slice Br mr dr] 24)).alloc (.cells #[.slice A1 n c1, .int .u8 o, .slice A2 L c2, .bool sm] 28)).alloc (.cells #[.int .u8 a0, .int .u8 b0, .int .i64 N0, .int .u8 a1, .int .u8 b1, .int .i64 N1] 31))).heap.size = w.heap.size + 1 + 1 + 1 := by simp
  have x0 : (((((w.alloc (.cells #[.slice Ar nr cr, .int .i64 qr, .slice Br mr dr] 24)).alloc (.cells #[.slice A1 n c1, .int .u8 o, .slice A2 L c2, .bool sm] 28)).alloc (.cells #[.int .u8 a0, .int .u8 b0, .int .i64 N0, .int .u8 a1, .int .u8 b1, .int .i64 N1] 31)).alloc (.cells #[.int .u8 n0, .int .u8 n1, .int .u8 n2, .int .u8 n3] 42))).cell? ⟨w.heap.size, 0, none⟩ = some (.slice Ar nr cr) := ((i2.trans i3).trans i4).cell (c_new w _ _ 0)
  have x1 : (((((w.alloc (.cells #[.slice Ar nr cr, .int .i64 qr, .slice Br mr dr] 24)).alloc (.cells #[.slice A1 n c1, .int .u8 o, .slice A2 L c2, .bool sm] 28)).alloc (.cells #[.int .u8 a0, .int .u8 b0, .int .i64 N0, .int .u8 a1, .int .u8 b1, .int .i64 N1] 31)).alloc (.cells #[.int .u8 n0, .int .u8 n1, .int .u8 n2, .int .u8 n3] 42))).cell? ⟨w.heap.size, 1, none⟩ = some (.int .i64 qr) := ((i2.trans i3).trans i4).cell (c_new w _ _ 1)
  have x2 : (((((w.alloc (.cells #[.slice Ar nr cr, .int .i64 qr, .slice Br mr dr] 24)).alloc (.cells #[.slice A1 n c1, .int .u8 o, .slice A2 L c2, .bool sm] 28)).alloc (.cells #[.int .u8 a0, .int .u8 b0, .int .i64 N0, .int .u8 a1, .int .u8 b1, .int .i64 N1] 31)).alloc (.cells #[.int .u8 n0, .int .u8 n1, .int .u8 n2, .int .u8 n3] 42))).cell? ⟨w.heap.size, 2, none⟩ = some (.slice Br mr dr) := ((i2.trans i3).trans i4).cell (c_new w _ _ 2)
  have y0 : (((((w.alloc (.cells #[.slice Ar nr cr, .int .i64 qr, .slice Br mr dr] 24)).alloc (.cells #[.slice A1 n c1, .int .u8 o, .slice A2 L c2, .bool sm] 28)).alloc (.cells #[.int .u8 a0, .int .u8 b0, .int .i64 N0, .int .u8 a1, .int .u8 b1, .int .i64 N1] 31)).alloc (.cells #[.int .u8 n0, .int .u8 n1, .int .u8 n2, .int .u8 n3] 42))).cell? ⟨w.heap.size + 1, 0, none⟩ = some (.slice A1 n c1) := by rw [← hz1]; exact (i3.trans i4).cell (c_new (w.alloc (.cells #[.slice Ar nr cr, .int .i64 qr, .slice Br mr dr] 24)) _ _ 0)
  have y1 : (((((w.alloc (.cells #[.slice Ar nr cr, .int .i64 qr, .slice Br mr dr] 24)).alloc (.cells #[.slice A1 n c1, .int .u8 o, .slice A2 L c2, .bool sm] 28)).alloc (.cells #[.int .u8 a0, .int .u8 b0, .int .i64 N0, .int .u8 a1, .int .u8 b1, .int .i64 N1] 31)).alloc (.cells #[.int .u8 n0, .int .u8 n1, .int .u8 n2, .int .u8 n3] 42))).cell? ⟨w.heap.size + 1, 1, none⟩ = some (.int .u8 o) := by rw [← hz1]; exact (i3.trans i4).cell (c_new (w.alloc (.cells #[.slice Ar nr cr, .int .i64 qr, .slice Br mr dr] 24)) _ _ 1)
  have y2 : (((((w.alloc (.cells #[.slice Ar nr cr, .int .i64 qr, .slice Br mr dr] 24)).alloc (.cells #[.slice A1 n c1, .int .u8 o, .slice A2 L c2, .bool sm] 28)).alloc (.cells #[.int .u8 a0, .int .u8 b0, .int .i64 N0, .int .u8 a1, .int .u8 b1, .int .i64 N1] 31)).alloc (.cells #[.int .u8 n0, .int .u8 n1, .int .u8 n2, .int .u8 n3] 42))).cell? ⟨w.heap.size + 1, 2, none⟩ = some (.slice A2 L c2) := by rw [← hz1]; exact (i3.trans i4).cell (c_new (w.alloc (.cells #[.slice Ar nr cr, .int .i64 qr, .slice Br mr dr] 24)) _ _ 2)
  have y3 : (((((w.alloc (.cells #[.slice Ar nr cr, .int .i64 qr, .slice Br mr dr] 24)).alloc (.cells #[.slice A1 n c1, .int .u8 o, .slice A2 L c2, .bool sm] 28)).alloc (.cells #[.int .u8 a0, .int .u8 b0, .int .i64 N0, .int .u8 a1, .int .u8 b1, .int .i64 N1] 31)).alloc (.cells #[.int .u8 n0, .int .u8 n1, .int .u8 n2, .int .u8 n3] 42))).cell? ⟨w.heap.size + 1, 3, none⟩ = some (.bool sm) := by rw [← hz1]; exact (i3.trans i4).cell (c_new (w.alloc (.cells #[.slice Ar nr cr, .int .i64 qr, .slice Br mr dr] 24)) _ _ 3)
  have v0 : (((((w.alloc (.cells #[.slice Ar nr cr, .int .i64 qr, .slice Br mr dr] 24)).alloc (.cells #[.slice A1 n c1, .int .u8 o, .slice A2 L c2, .bool sm] 28)).alloc (.cells #[.int .u8 a0, .int .u8 b0, .int .i64 N0, .int .u8 a1, .int .u8 b1, .int .i64 N1] 31)).alloc (.cells #[.int .u8 n0, .int .u8 n1, .int .u8 n2, .int .u8 n3] 42))).cell? ⟨w.heap.size + 1 + 1, 0, none⟩ = some (.int .u8 a0) := by rw [← hz2]; exact i4.cell (c_new ((w.alloc (.cells #[.slice Ar nr cr, .int .i64 qr, .slice Br mr dr] 24)).alloc (.cells #[.slice A1 n c1, .int .u8 o, .slice A2 L c2, .bool sm] 28)) _ _ 0)
  have v1 : (((((w.alloc (.cells #[.slice Ar nr cr, .int .i64 qr, .slice Br mr dr] 24)).alloc (.cells #[.slice A1 n c1, .int .u8 o, .slice A2 L c2, .bool sm] 28)).alloc (.cells #[.int .u8 a0, .int .u8 b0, .int .i64 N0, .int .u8 a1, .int .u8 b1, .int .i64 N1] 31)).alloc (.cells #[.int .u8 n0, .int .u8 n1, .int .u8 n2, .int .u8 n3] 42))).cell? ⟨w.heap.size + 1 + 1, 1, none⟩ = some (.int .u8 b0) := by rw [← hz2]; exact i4.cell (c_new ((w.alloc (.cells #[.slice Ar nr cr, .int .i64 qr, .slice Br mr dr] 24)).alloc (.cells #[.slice A1 n c1, .int .u8 o, .slice A2 L c2, .bool sm] 28)) _ _ 1)
  have v2 : (((((w.alloc (.cells #[.slice Ar nr cr, .int .i64 qr, .slice Br mr dr] 24)).alloc (.cells #[.slice A1 n c1, .int .u8 o, .slice A2 L c2, .bool sm] 28)).alloc (.cells #[.int .u8 a0, .int .u8 b0, .int .i64 N0, .int .u8 a1, .int .u8 b1, .int .i64 N1] 31)).alloc (.cells #[.int .u8 n0, .int .u8 n1, .int .u8 n2, .int .u8 n3] 42))).cell? ⟨w.heap.size + 1 + 1, 2, none⟩ = some (.int .i64 N0) := by rw [← hz2]; exact i4.cell (c_new ((w.alloc (.cells #[.slice Ar nr cr, .int .i64 qr, .slice Br mr dr] 24)).alloc (.cells #[.slice A1 n c1, .int .u8 o, .slice A2 L c2, .bool sm] 28)) _ _ 2)
  have v3 : (((((w.alloc (.cells #[.slice Ar nr cr, .int .i64 qr, .slice Br mr dr] 24)).alloc (.cells #[.slice A1 n c1, .int .u8 o, .slice A2 L c2, .bool sm] 28)).alloc (.cells #[.int .u8 a0, .int .u8 b0, .int .i64 N0, .int .u8 a1, .int .u8 b1, .int .i64 N1] 31)).alloc (.cells #[.int .u8 n0, .int .u8 n1, .int .u8 n2, .int .u8 n3] 42))).cell? ⟨w.heap.size + 1 + 1, 3, none⟩ = some (.int .u8 a1) := by rw [← hz2]; exact i4.cell (c_new ((w.alloc (.cells #[.slice Ar nr cr, .int .i64 qr, .slice Br mr dr] 24)).alloc (.cells #[.slice A1 n c1, .int .u8 o, .slice A2 L c2, .bool sm] 28)) _ _ 3)
  have v4 : (((((w.alloc (.cells #[.slice Ar nr cr, .int .i64 qr, .slice Br mr dr] 24)).alloc (.cells #[.slice A1 n c1, .int .u8 o, .slice A2 L c2, .bool sm] 28)).alloc (.cells #[.int .u8 a0, .int .u8 b0, .int .i64 N0, .int .u8 a1, .int .u8 b1, .int .i64 N1] 31)).alloc (.cells #[.int .u8 n0, .int .u8 n1, .int .u8 n2, .int .u8 n3] 42))).cell? ⟨w.heap.size + 1 + 1, 4, none⟩ = some (.int .u8 b1) := by rw [← hz2]; exact i4.cell (c_new ((w.alloc (.cells #[.slice Ar nr cr, .int .i64 qr, .slice Br mr dr] 24)).alloc (.cells #[.slice A1 n c1, .int .u8 o, .slice A2 L c2, .bool sm] 28)) _ _ 4)
  have v5 : (((((w.alloc (.cells #[.slice Ar nr cr, .int .i64 qr, .slice Br mr dr] 24)).alloc (.cells #[.slice A1 n c1, .int .u8 o, .slice A2 L c2, .bool sm] 28)).alloc (.cells #[.int .u8 a0, .int .u8 b0, .int .i64 N0, .int .u8 a1, .int .u8 b1, .int .i64 N1] 31)).alloc (.cells #[.int .u8 n0, .int .u8 n1, .int .u8 n2, .int .u8 n3] 42))).cell? ⟨w.heap.size + 1 + 1, 5, none⟩ = some (.int .i64 N1) := by rw [← hz2]; exact i4.cell (c_new ((w.alloc (.cells #[.slice Ar nr cr, .int .i64 qr, .slice Br mr dr] 24)).alloc (.cells #[.slice A1 n c1, .int .u8 o, .slice A2 L c2, .bool sm] 28)) _ _ 5)
  have z0 : (((((w.alloc (.cells #[.slice Ar nr cr, .int .i64 qr, .slice Br mr dr] 24)).alloc (.cells #[.slice A1 n c1, .int .u8 o, .slice A2 L c2, .bool sm] 28)).alloc (.cells #[.int .u8 a0, .int .u8 b0, .int .i64 N0, .int .u8 a1, .int .u8 b1, .int .i64 N1] 31)).alloc (.cells #[.int .u8 n0, .int .u8 n1, .int .u8 n2, .int .u8 n3] 42))).cell? ⟨w.heap.size + 1 + 1 + 1, 0, none⟩ = some (.int .u8 n0) := by rw [← hz3]; exact c_new (((w.alloc (.cells #[.slice Ar nr cr, .int .i64 qr, .slice Br mr dr] 24)).alloc (.cells #[.slice A1 n c1, .int .u8 o, .slice A2 L c2, .bool sm] 28)).alloc (.cells #[.int .u8 a0, .int .u8 b0, .int .i64 N0, .int .u8 a1, .int .u8 b1, .int .i64 N1] 31)) _ _ 0
  have z1 : (((((w.alloc (.cells #[.slice Ar nr cr, .int .i64 qr, .slice Br mr dr] 24)).alloc (.cells #[.slice A1 n c1, .int .u8 o, .slice A2 L c2, .bool sm] 28)).alloc (.cells #[.int .u8 a0, .int .u8 b0, .int .i64 N0, .int .u8 a1, .int .u8 b1, .int .i64 N1] 31)).alloc (.cells #[.int .u8 n0, .int .u8 n1, .int .u8 n2, .int .u8 n3] 42))).cell? ⟨w.heap.size + 1 + 1 + 1, 1, none⟩ = some (.int .u8 n1) := by rw [← hz3]; exact c_new (((w.alloc (.cells #[.slice Ar nr cr, .int .i64 qr, .slice Br mr dr] 24)).alloc (.cells #[.slice A1 n c1, .int .u8 o, .slice A2 L c2, .bool sm] 28)).alloc (.cells #[.int .u8 a0, .int .u8 b0, .int .i64 N0, .int .u8 a1, .int .u8 b1, .int .i64 N1] 31)) _ _ 1
  have z2 : (((((w.alloc (.cells #[.slice Ar nr cr, .int .i64 qr, .slice Br mr dr] 24)).alloc (.cells #[.slice A1 n c1, .int .u8 o, .slice A2 L c2, .bool sm] 28)).alloc (.cells #[.int .u8 a0, .int .u8 b0, .int .i64 N0, .int .u8 a1, .int .u8 b1, .int .i64 N1] 31)).alloc (.cells #[.int .u8 n0, .int .u8 n1, .int .u8 n2, .int .u8 n3] 42))).cell? ⟨w.heap.size + 1 + 1 + 1, 2, none⟩ = some (.int .u8 n2) := by rw [← hz3]; exact c_new (((w.alloc (.cells #[.slice Ar nr cr, .int .i64 qr, .slice Br mr dr] 24)).alloc (.cells #[.slice A1 n c1, .int .u8 o, .slice A2 L c2, .bool sm] 28)).alloc (.cells #[.int .u8 a0, .int .u8 b0, .int .i64 N0, .int .u8 a1, .int .u8 b1, .int .i64 N1] 31)) _ _ 2
  have z3 : (((((w.alloc (.cells #[.slice Ar nr cr, .int .i64 qr, .slice Br mr dr] 24)).alloc (.cells #[.slice A1 n c1, .int .u8 o, .slice A2 L c2, .bool sm] 28)).alloc (.cells #[.int .u8 a0, .int .u8 b0, .int .i64 N0, .int .u8 a1, .int .u8 b1, .int .i64 N1] 31)).alloc (.cells #[.int .u8 n0, .int .u8 n1, .int .u8 n2, .int .u8 n3] 42))).cell? ⟨w.heap.size + 1 + 1 + 1, 3, none⟩ = some (.int .u8 n3) := by rw [← hz3]; exact c_new (((w.alloc (.cells #[.slice Ar nr cr, .int .i64 qr, .slice Br mr dr] 24)).alloc (.cells #[.slice A1 n c1, .int .u8 o, .slice A2 L c2, .bool sm] 28)).alloc (.cells #[.int .u8 a0, .int .u8 b0, .int .i64 N0, .int .u8 a1, .int .u8 b1, .int .i64 N1] 31)) _ _ 3
  have B4 := ((i1.trans i2).trans i3).trans i4
  clear i1 i2 i3 i4 hz1 hz2 hz3
  go_enter Try.func4, Try.ntmps4
  go_upto_region 1 with (fail)
  generalize ((((w.alloc (.cells #[.slice Ar nr cr, .int .i64 qr, .slice Br mr dr] 24)).alloc (.cells #[.slice A1 n c1, .int .u8 o, .slice A2 L c2, .bool sm] 28)).alloc (.cells #[.int .u8 a0, .int .u8 b0, .int .i64 N0, .int .u8 a1, .int .u8 b1, .int .i64 N1] 31)).alloc (.cells #[.int .u8 n0, .int .u8 n1, .int .u8 n2, .int .u8 n3] 42)) = W4 at x0 x1 x2 y0 y1 y2 y3 v0 v1 v2 v3 v4 v5 z0 z1 z2 z3 B4 ⊢
  have HB4 := Lib.hid B4
  go_wp2_with fail
  refine (HW.out _ HB4.out).mono ?_
  rintro e w1 ⟨rfl, hb1⟩
  replace x0 := hb1.cell x0
  replace x1 := hb1.cell x1
  replace x2 := hb1.cell x2
  replace y0 := hb1.cell y0
  replace y1 := hb1.cell y1
  replace y2 := hb1.cell y2
  replace y3 := hb1.cell y3
  replace v0 := hb1.cell v0
  replace v1 := hb1.cell v1
  replace v2 := hb1.cell v2
  replace v3 := hb1.cell v3
  replace v4 := hb1.cell v4
  replace v5 := hb1.cell v5
  replace z0 := hb1.cell z0
  replace z1 := hb1.cell z1
  replace z2 := hb1.cell z2
  replace z3 := hb1.cell z3
  have HB1 := Lib.hid (HB4.out.trans hb1)
  clear B4 hb1
  have NEAR := Lib.hid (show ∀ j : Nat, j < 4 → ∃ nv : Int, (0 ≤ nv ∧ nv ≤ 255) ∧ w1.cell? ⟨w.heap.size + 1 + 1 + 1, j, none⟩ = some (.int .u8 nv) from fun j hj => by
    obtain rfl | rfl | rfl | rfl : j = 0 ∨ j = 1 ∨ j = 2 ∨ j = 3 := by omega
    · exact ⟨n0, HNN.out.1, z0⟩
    · exact ⟨n1, HNN.out.2.1, z1⟩
    · exact ⟨n2, HNN.out.2.2.1, z2⟩
    · exact ⟨n3, HNN.out.2.2.2, z3⟩)
  clear z0 z1 z2 z3
  obtain ⟨gN, hgN⟩ : ∃ g, w.heap.size + 1 + 1 + 1 = g := ⟨_, rfl⟩
  rw [hgN] at NEAR
  go_wp2_with fail
  refine (HF.out _ (H1.out.keep HB1.out) (H2.out.keep HB1.out) (H3.out.keep HB1.out) (H4.out.keep HB1.out)).mono ?_
  intro e w2 hres
  obtain ⟨V, rfl, hV, hb2⟩ := hres.use
  clear hres
  have HV := Lib.hid hV; have HB2 := Lib.hid (HB1.out.trans hb2); have HB12 := Lib.hid hb2
  clear hV hb2 f8 g8 g8' x0 x1 x2 y0 y1 y2 y3 v0 v1 v2 v3 v4 v5
  have HGN := Lib.hid hgN
  clear hgN
  go_wp2_with fail
  go_loopw [12, 13, 14, 15, 17, 18, 19, 20, 21, 22, 23, 24, 25, 37] (fun _ _ _ _ _ _ _ _ _ _ _ _ _ iv wr => ∃ i : Nat, iv = .int .i64 (i : Int) ∧ i ≤ 4 ∧ Bl w2 wr) (fun _ _ _ _ _ _ _ _ _ _ _ _ _ iv _ => 4 - (intOf iv).toNat)
  case atStart => exact ⟨0, rfl, by omega, Bl.refl _⟩
  case round =>
    obtain ⟨i, rfl, hi, hb⟩ := hrel
    have HB := Lib.hid hb
    clear hb
    by_cases hlt : i < 4
    case neg =>
      obtain rfl : i = 4 := by omega
      go_wp2_with fail
      go_ret
      exact ⟨rfl, HB2.out.trans HB.out⟩
    have hlt' : (i : Int) < 4 := by omega
    obtain ⟨⟨A, c, l, q, B, d, m⟩, hok, hix⟩ := HV.out i hlt
    simp only at hix
    have HOK := Lib.hid hok
    obtain ⟨nl, hnl⟩ : ∃ k, l.length = k := ⟨_, rfl⟩
    obtain ⟨nm, hnm⟩ : ∃ k, m.length = k := ⟨_, rfl⟩
    have PL := fun Ai ci il w h3 h1 h2 h => Place_any A B Ai c d ci l q m il w (by have := hok.l1; simp only at this; omega) (by have := hok.l2; simp only at this; omega) h3 hok.c2 h1 h2 h
    have RP := fun Ai ci il w h3 h1 h2 h => refPlace_any A B Ai c d ci l q m il w (by have := hok.l1; simp only at this; omega) (by have := hok.l2; simp only at this; omega) h3 h1 h2 h
    have AT := fun Ai ci il w h3 h1 h2 h => At_any A B Ai c d ci l q m il w (by have := hok.l1; simp only at this; omega) (by have := hok.l2; simp only at this; omega) h3 hok.c2 h1 h2 h
    have RA := fun Ai ci il w h3 h1 h2 h => refAt_any A B Ai c d ci l q m il w (by have := hok.l1; simp only at this; omega) (by have := hok.l2; simp only at this; omega) h3 hok.c2 h1 h2 h
    rw [hnl, hnm] at PL RP AT RA hix
    have HPL := Lib.hid PL; have HRP := Lib.hid RP; have HAT := Lib.hid AT; have HRA := Lib.hid RA
    obtain ⟨k4, hk4⟩ : ∃ k, min nl 4 = k := ⟨_, rfl⟩
    have nl1 : (nl : Int) ≤ 100 := by have := hok.l1; simp only at this; omega
    have f9 : min (nl : Int) 4 = (k4 : Int) := by omega
    have g9 : (if (nl : Int) ≤ 4 then (nl : Int) else 4) = (k4 : Int) := by split <;> omega
    have g9' : (if (4 : Int) < (nl : Int) then 4 else (nl : Int)) = (k4 : Int) := by split <;> omega
    have hk4c : (k4 : Int) ≤ (c : Int) := by have := hok.c1; simp only at this; omega
    have hk44 : k4 ≤ 4 := by omega
    have HK4 := Lib.hid (show k4 ≤ l.length by omega)
    clear PL RP AT RA hok hk4 hnm hnl
    have b3 := Bl.new wr (.cells #[.slice A nl c, .int .i64 q, .slice B nm d] 24)
    have u0 : (wr.alloc (.cells #[.slice A nl c, .int .i64 q, .slice B nm d] 24)).cell? ⟨wr.heap.size, 0, none⟩ = some (.slice A nl c) := c_new wr _ _ 0
    have u1 : (wr.alloc (.cells #[.slice A nl c, .int .i64 q, .slice B nm d] 24)).cell? ⟨wr.heap.size, 1, none⟩ = some (.int .i64 q) := c_new wr _ _ 1
    have u2 : (wr.alloc (.cells #[.slice A nl c, .int .i64 q, .slice B nm d] 24)).cell? ⟨wr.heap.size, 2, none⟩ = some (.slice B nm d) := c_new wr _ _ 2
    go_wp2_with fail
    generalize wr.alloc (.cells #[.slice A nl c, .int .i64 q, .slice B nm d] 24) = w3 at b3 u0 u1 u2 ⊢
    obtain ⟨gx, hgx⟩ : ∃ g, wr.heap.size = g := ⟨_, rfl⟩
    rw [hgx] at u0 u1 u2 ⊢
    have U0 := Lib.hid u0; have U1 := Lib.hid u1; have U2 := Lib.hid u2; have HB3 := Lib.hid (HB.out.trans b3)
    have HIX := Lib.hid hix
    clear u0 u1 u2 b3 hgx hix f9 g9 g9'
    go_loopw [13, 14, 15, 48] (fun v _ _ jv wz => ∃ (j : Nat) (s : List Int), jv = .int .i64 (j : Int) ∧ j ≤ k4 ∧ s.length = j ∧ Ow wz w3.heap.size v s ∧ (s = [] → v = .slice none 0 0) ∧ Bl w3 wz) (fun _ _ _ jv _ => k4 - (intOf jv).toNat)
    case atStart => exact ⟨0, [], rfl, by omega, rfl, World.ownsRow_nil _ _ _ _, fun _ => rfl, Bl.refl _⟩
    case round =>
      obtain ⟨j, s, rfl, hj, hs, how, hnil, hbz⟩ := hrel
      have HS := Lib.hid hs; have HOW := Lib.hid how; have HNIL := Lib.hid hnil; have HBZ := Lib.hid hbz
      clear hs how hnil hbz
      by_cases hjk : j < k4
      · have hjk' : (j : Int) < (k4 : Int) := by omega
        have hj4 : (j : Int) < 4 := by omega
        obtain ⟨nv, ⟨nv0, nv1⟩, hnv⟩ := NEAR.out j (by omega)
        have hnv := (HB12.out.trans (HB3.out.trans HBZ.out)).cell hnv
        have hjl : j < l.length := by have := HK4.out; omega
        have hls := HOK.out.ls1
        simp only at hls
        obtain ⟨bA, oA, rfl⟩ := hls.addr j hjl
        have hxc := (hls.keep (HB3.out.trans HBZ.out)).at j hjl
        obtain ⟨x, ex⟩ : ∃ x, l[j] = x := ⟨_, rfl⟩
        rw [ex] at hxc
        obtain ⟨mn, hmn⟩ : ∃ y, min x 300 = y := ⟨_, rfl⟩
        have m1 : (if x ≤ 300 then x else 300) = mn := by split <;> omega
        have m2 : (if (300 : Int) < x then 300 else x) = mn := by split <;> omega
        obtain ⟨y, hy⟩ : ∃ y, IntKind.i64.wrap (mn + 1) = y := ⟨_, rfl⟩
        obtain ⟨z, hz⟩ : ∃ z, max 1 y = z := ⟨_, rfl⟩
        have q1 : (if (1 : Int) ≤ y then y else 1) = z := by split <;> omega
        have q2 : (if y < (1 : Int) then 1 else y) = z := by split <;> omega
        have q3 : (if (1 : Int) < y then y else 1) = z := by split <;> omega
        have q4 : (if y ≤ (1 : Int) then 1 else y) = z := by split <;> omega
        have hz1 : 1 ≤ z := by omega
        have hz0 : (z == 0) = false := by rw [beq_eq_false_iff_ne]; omega
        have hz2 : z ≠ 0 := by omega
        obtain ⟨r, hr⟩ : ∃ r, nv.tmod z = r := ⟨_, rfl⟩
        have hr' : nv % z = r := by rw [← hr, Int.tmod_eq_emod_of_nonneg nv0]
        have hrb : 0 ≤ r ∧ r ≤ nv := by
          rw [← hr']
          refine ⟨Int.emod_nonneg _ hz2, ?_⟩
          by_cases hlz : nv < z
          · rw [Int.emod_eq_of_lt nv0 hlz]; omega
          · have h := Int.emod_lt_of_pos nv (by omega : 0 < z); omega
        have e1 : IntKind.i64.wrap nv = nv := IntWalk.i64_in _ (by omega)
        have e2 : IntKind.i64.wrap r = r := IntWalk.i64_in _ (by omega)
        clear hls ex
        go_wp2_with (at_builtin; refine wpList_append_ls _ rfl _ _ rfl w3.heap.size _ s rfl (HOW.out.keep (Bl.new wr _)) (some ⟨wr.heap.size, 0, none⟩) 1 [r] rfl ?d1 ?d2 ?d3 ?_)
        case d1 => exact Ls.one wr r
        case d2 => have := HS.out; simp; omega
        case d3 => have := Below.size HBZ.out; simp; omega
        intro vv w6 hu hg6 ha6
        obtain ⟨s', hs'⟩ : ∃ s', s ++ [r] = s' := ⟨_, rfl⟩
        have hb6 := (HBZ.out.trans (Bl.new wr (.cells #[.int .i64 r] 3))).grown hg6 (by have := Below.size (HBZ.out.trans (Bl.new wr (.cells #[.int .i64 r] 3))); exact this) (fun k hk => (HOW.out.lt k hk).1)
        rw [hs'] at hu
        obtain ⟨A', c', rfl, -, -⟩ := hu.addr
        have HU := Lib.hid hu; have HB6 := Lib.hid hb6; have HS' := Lib.hid (show s'.length = j + 1 by rw [← hs', List.length_append, HS.out]; rfl)
        clear hu hb6 hg6 ha6 hs' m1 m2 q1 q2 q3 q4 hmn hy hz hr hr' hrb e1 e2 hz0 hz1 hz2 nv0 nv1 hnv hxc
        go_wp2_with fail
        go_roundw
        case rel => exact ⟨j + 1, s', by go_num, by omega, HS'.out, HU.out, fun e => by have := HS'.out; rw [e] at this; simp at this, HB6.out⟩
        case measure => simp [intOf]; omega
      · have hjk4 : j = k4 := by omega
        obtain ⟨Av, cv, hv, lv, hcv⟩ := HOW.out.addr
        have h0 : s = [] → Av = none ∧ cv = 0 := fun e => by
          have h := HNIL.out e
          rw [hv] at h
          obtain ⟨e1, -, e3⟩ := Value.slice.inj h
          exact ⟨e1, e3⟩
        subst hv
        obtain ⟨ns, hns⟩ : ∃ k, s.length = k := ⟨_, rfl⟩
        have CL := clone_any Av cv s wr (by have := HS.out; omega) lv h0
        rw [hns] at CL
        rw [hns]
        have HLV := Lib.hid lv; have HNS := Lib.hid hns
        have HNL := Lib.hid (show s.length ≤ 4 by have := HS.out; omega)
        clear h0 lv hcv hns
        go_wp2_with fail
        refine CL.mono ?_
        clear CL
        rintro e w7 ⟨A7, c7, rfl, h7, hb7⟩
        have H7 := Lib.hid h7; have HB7 := Lib.hid (HB3.out.trans (HBZ.out.trans hb7)); have B37 := Lib.hid (HBZ.out.trans hb7); have HB77 := Lib.hid hb7
        clear h7 hb7
        go_wp2_with (at_builtin; refine wpList_append_ls _ rfl _ _ rfl wr.heap.size (.slice A7 ns c7) s rfl ?d0 Ai ci il6 ?d1 ?d2 ?d3 ?d4 ?_)
        case d0 => have h := H7.out; rw [← HNS.out] at h ⊢; exact h
        case d1 => first | rfl | (rw [HK6.out]; rfl)
        case d2 => exact HL6.out.keep (HB2.out.trans HB7.out)
        case d3 => have := HNL.out; have := HK6.out; have := HK66.out; omega
        case d4 => exact Below.size HB77.out
        intro vv w9 hu hg9 ha9
        obtain ⟨s9, hs9⟩ : ∃ l, s ++ il6 = l := ⟨_, rfl⟩
        have h9l : s9.length ≤ 100 := by rw [← hs9, List.length_append]; have := HNL.out; have := HK6.out; have := HK66.out; omega
        rw [hs9] at hu
        obtain ⟨A9, c9, rfl, l9, -⟩ := hu.addr
        have hb9 : Bl w2 w9 := HB7.out.grown hg9 (Below.size HB7.out) (fun k hk => by
          have h := H7.out
          rw [← HNS.out] at hk
          have := (h.lt k (by rw [← HNS.out]; exact hk)).1
          have := Below.size (HB3.out.trans HBZ.out)
          omega)
        have hb79 : Bl wr w9 := HB77.out.grown hg9 (Below.size HB77.out) (fun k hk => by
          have h := H7.out
          rw [← HNS.out] at hk
          exact (h.lt k (by rw [← HNS.out]; exact hk)).1)
        have b39 := HBZ.out.trans hb79
        have L0 := HL6.out.keep (HB2.out.trans hb9)
        have L1 := HLV.out.keep hb79
        have IS := fun k hk => is_any Ai Av A9 ci cv c9 il6 s s9 w9 L0 L1 l9 (by have := HK6.out; have := HK66.out; omega) (by have := HNL.out; omega) (by omega) k hk
        obtain ⟨n9, hn9⟩ : ∃ k, s9.length = k := ⟨_, rfl⟩
        rw [HK6.out, HNS.out, hn9] at IS
        rw [hn9]
        have HIS := Lib.hid IS; have HB9 := Lib.hid hb9
        have v0 := b39.cell U0.out; have v1 := b39.cell U1.out; have v2 := b39.cell U2.out
        have V0 := Lib.hid v0; have V1 := Lib.hid v1; have V2 := Lib.hid v2
        clear IS hb9 hb79 b39 L0 L1 l9 hu hg9 ha9 hs9 h9l hn9 v0 v1 v2
        go_wp2_with fail
        go_loopw [17, 18, 19, 20, 21, 22, 23, 24, 25, 73] (fun _ _ _ _ _ _ _ _ _ kv wk => ∃ k : Nat, kv = .int .i64 (k : Int) ∧ k ≤ 3 ∧ Bl w9 wk) (fun _ _ _ _ _ _ _ _ _ kv _ => 3 - (intOf kv).toNat)
        case atStart => exact ⟨0, rfl, by omega, Bl.refl _⟩
        case round =>
          obtain ⟨k, rfl, hk, hbk⟩ := hrel
          have HBK := Lib.hid hbk
          clear hbk
          by_cases hk3 : k < 3
          · have hk3' : (k : Int) < 3 := by omega
            obtain ⟨Ak, ck, lk, hlk, hlk6, hik⟩ := HIS.out k hk3
            obtain ⟨nk, hnk⟩ : ∃ t, lk.length = t := ⟨_, rfl⟩
            have P1 := fun w h1 h2 h => HPL.out Ak ck lk w hlk6 h1 h2 h
            have P2 := fun w h1 h2 h => HRP.out Ak ck lk w hlk6 h1 h2 h
            have P3 := fun w h1 h2 h => HAT.out Ak ck lk w hlk6 h1 h2 h
            have P4 := fun w h1 h2 h => HRA.out Ak ck lk w hlk6 h1 h2 h
            rw [hnk] at P1 P2 P3 P4 hik
            have HP1 := Lib.hid P1; have HP2 := Lib.hid P2; have HP3 := Lib.hid P3; have HP4 := Lib.hid P4; have HLK := Lib.hid hlk
            have LA := fun (v : World) (hb : Bl w9 v) => HOK.out.keep (HB9.out.trans hb)
            have HLA := Lib.hid LA
            clear P1 P2 P3 P4 hlk hlk6 hnk LA
            have v0 := HBK.out.cell V0.out; have v1 := HBK.out.cell V1.out; have v2 := HBK.out.cell V2.out
            go_wp2_with fail
            refine (HP1.out _ (HLA.out _ HBK.out).ls1 (HLA.out _ HBK.out).ls2 (HLK.out.keep HBK.out)).mono ?_
            rintro e e1 ⟨pp, cc, rfl, hP, hb⟩
            have K1 := Lib.hid (HBK.out.trans hb); have HP := Lib.hid hP
            clear hb hP v0 v1 v2
            have v0 := K1.out.cell V0.out; have v1 := K1.out.cell V1.out; have v2 := K1.out.cell V2.out
            go_wp2_with fail
            refine (HP2.out _ (HLA.out _ K1.out).ls1 (HLA.out _ K1.out).ls2 (HLK.out.keep K1.out)).mono ?_
            rintro e e2 ⟨pp', cc', rfl, hP, hb⟩
            obtain ⟨rfl, rfl⟩ := HP.out.uniq hP
            have K2 := Lib.hid (K1.out.trans hb)
            clear hb hP v0 v1 v2 HP
            have v0 := K2.out.cell V0.out; have v1 := K2.out.cell V1.out; have v2 := K2.out.cell V2.out
            go_wp2_with fail
            refine (HP3.out _ (HLA.out _ K2.out).ls1 (HLA.out _ K2.out).ls2 (HLK.out.keep K2.out)).mono ?_
            rintro e e3 ⟨Ax, cx, lx, dd, rfl, hA, hx, hx4, hb⟩
            have K3 := Lib.hid (K2.out.trans hb); have HA := Lib.hid hA; have HX := Lib.hid hx; have HX4 := Lib.hid hx4
            clear hb hA hx hx4 v0 v1 v2
            have v0 := K3.out.cell V0.out; have v1 := K3.out.cell V1.out; have v2 := K3.out.cell V2.out
            go_wp2_with fail
            refine (HP4.out _ (HLA.out _ K3.out).ls1 (HLA.out _ K3.out).ls2 (HLK.out.keep K3.out)).mono ?_
            rintro e e4 ⟨Ay, cy, ly, dd', rfl, hA, hy, -, hb⟩
            obtain ⟨rfl, rfl⟩ := HA.out.uniq hA
            have EQ := equal_any Ax Ay cx cy lx lx e4 (by have := HX4.out; omega) (by have := HX4.out; omega) (HX.out.keep hb) hy
            obtain ⟨nx, hnx⟩ : ∃ t, lx.length = t := ⟨_, rfl⟩
            have hdec : decide (lx = lx) = true := by simp
            rw [hnx, hdec] at EQ
            rw [hnx]
            have HEQ := Lib.hid EQ
            have K4 := Lib.hid (K3.out.trans hb)
            clear hb hA hy v0 v1 v2 HA hnx hdec EQ
            go_wp2_with fail
            refine HEQ.out.mono ?_
            rintro e e5 ⟨rfl, hb⟩
            have K5 := Lib.hid (K4.out.trans hb)
            clear hb
            go_wp2_with fail
            go_roundw
            case rel => exact ⟨k + 1, by go_num, by omega, K5.out⟩
            case measure => simp [intOf]; omega
          · obtain rfl : k = 3 := by omega
            go_wp2_with fail
            go_roundw
            case rel => exact ⟨i + 1, by go_num, by omega, HB9.out.trans HBK.out⟩
            case measure => simp [intOf]; omega
end Go.Proofs.Ytjinpngojdefiaa
