/- Contracts of grids: the four grids of a law. -/
import Derived.Test.YtjinpngojdefiaaGrR
import Derived.Deep.RegionHeld3
namespace Go.Proofs.Ytjinpngojdefiaa
open Go.RowKit
set_option maxRecDepth 20000
set_option maxHeartbeats 6400000

theorem below_setCells {w0 : World} {b : Nat} (hb : w0.heap.size ≤ b) : ∀ (vs : List Value) (o : Nat) (w : World), Bl w0 w → Bl w0 (w.setCells b o vs)
  | [], _, _, h => h
  | v :: vs, o, w, h => below_setCells hb vs (o + 1) (w.setCell ⟨b, o, none⟩ v) (Below.setCell h hb v)
theorem results_one {P : Program} {fn : Func} {tmps : Array Value} {w : World} {a : Nat} {t : TypeId} {p : Addr} {A : Value} (hr : fn.results = #[.cell a t]) (ha : tmps.getD a undef = .pointer (some p)) (hl : (loadVar t p).run P w = .ok A w) :
    (results fn tmps).run P w = .ok A w := by
  have h1 : (asAddr (tmps[a]?.getD undef)).run P w = .ok p w := by rw [show tmps[a]?.getD undef = tmps.getD a undef by simp, ha]; rfl
  simp [results, hr, List.mapM_toArray, Sem.run_bind, h1, hl]
theorem Ls.cells {A : Option Addr} {l : List Int} (g : Nat) (hg : ∀ b o, A = some ⟨b, o, none⟩ → g ≠ b) : ∀ (vs : List Value) (o : Nat) (w : World), Ls w .i64 A l → Ls (w.setCells g o vs) .i64 A l
  | [], _, _, h => h
  | v :: vs, o, _, h => Ls.cells g hg vs (o + 1) _ (h.put' g o v hg)
/-- A grid: its letters. -/
structure Gs where
  A : Option Addr
  c : Nat
  l : List Int
  q : Int
  B : Option Addr
  d : Nat
  m : List Int
def Gs.u (g : Gs) : Value := .slice g.A g.l.length g.c
def Gs.v (g : Gs) : Value := .slice g.B g.m.length g.d
structure Gs.Ok (g : Gs) (w : World) : Prop where
  l1 : g.l.length ≤ 100
  l2 : g.m.length ≤ 30000
  c1 : g.l.length ≤ g.c
  c2 : g.m.length ≤ g.d
  num : -9223372036854775808 ≤ g.q ∧ g.q ≤ 9223372036854775807
  ls1 : Ls w .i64 g.A g.l
  ls2 : Ls w .i64 g.B g.m
theorem Gs.Ok.keep {g : Gs} {w w' : World} (h : g.Ok w) (hb : Bl w w') : g.Ok w' := ⟨h.l1, h.l2, h.c1, h.c2, h.num, h.ls1.keep hb, h.ls2.keep hb⟩
theorem Gs.Ok.cells {g : Gs} {w : World} (h : g.Ok w) (b : Nat) (h1 : ∀ x o, g.A = some ⟨x, o, none⟩ → b ≠ x) (h2 : ∀ x o, g.B = some ⟨x, o, none⟩ → b ≠ x) (vs : List Value) (o : Nat) : g.Ok (w.setCells b o vs) :=
  ⟨h.l1, h.l2, h.c1, h.c2, h.num, Ls.cells b h1 vs o w h.ls1, Ls.cells b h2 vs o w h.ls2⟩
/-- Nothing that was there has changed but the cells of block g. -/
structure Bx (g n : Nat) (w v : World) : Prop where
  os : v.os = w.os
  tape : v.tape = w.tape
  output : v.output = w.output
  size : w.heap.size ≤ v.heap.size
  blk : ∀ b, b < w.heap.size → b ≠ g → v.heap[b]? = w.heap[b]?
  th : v.there g 0 n
theorem there_keep {w w' : World} {b o n : Nat} (h : w.there b o n) (hb : Bl w w') : w'.there b o n := fun j hj => by
  obtain ⟨h1, h2⟩ := h j hj
  obtain ⟨v, hv⟩ := Option.isSome_iff_exists.1 h1
  exact ⟨by rw [hb.cell hv]; rfl, kept_fz hb (World.block_lt_of_cell? w _ hv) h2⟩
theorem Bx.refl {g n : Nat} {w : World} (h : w.there g 0 n) : Bx g n w w := ⟨rfl, rfl, rfl, Nat.le_refl _, fun _ _ _ => rfl, h⟩
theorem Bx.bl {g n : Nat} {w v v' : World} (h : Bx g n w v) (hb : Bl v v') : Bx g n w v' := by
  have hb' : Below v.heap.size v v' := hb
  exact ⟨hb'.os.trans h.os, hb'.tape.trans h.tape, hb'.output.trans h.output, Nat.le_trans h.size hb'.size, fun b h1 h2 => (hb'.block b (Nat.lt_of_lt_of_le h1 h.size)).trans (h.blk b h1 h2), there_keep h.th hb⟩
theorem Bx.set {g n : Nat} {w v : World} (i : Nat) (x : Value) (h : Bx g n w v) : Bx g n w (v.setCell ⟨g, i, none⟩ x) := by
  refine ⟨h.os, h.tape, h.output, by have := h.size; simp [World.setCell]; exact this, fun b h1 h2 => (Below.heap_setCell v ⟨g, i, none⟩ x b h2).trans (h.blk b h1 h2), fun j hj => ?_⟩
  obtain ⟨h1, h2⟩ := h.th j hj
  refine ⟨?_, by rw [World.frozen?_setCell]; exact h2⟩
  by_cases e : i = 0 + j
  · subst e
    rw [World.cell?_setCell_same' _ _ _ h1]
    rfl
  · rw [World.cell?_setCell_other (h := (by intro e'; exact e (congrArg Addr.off e') : (⟨g, i, none⟩ : Addr) ≠ ⟨g, 0 + j, none⟩))]
    exact h1
theorem Bx.cell {g n : Nat} {w v : World} (h : Bx g n w v) {b j : Nat} {x : Value} (hc : w.cell? ⟨b, j, none⟩ = some x) (hne : b ≠ g) : v.cell? ⟨b, j, none⟩ = some x := by
  rw [World.cell?_of_block (a := ⟨b, j, none⟩) (h.blk b (World.block_lt_of_cell? w _ hc) hne)]
  exact hc
theorem Bx.out {g n : Nat} {w W v : World} (h0 : Bl w W) (h : Bx g n W v) (hg : w.heap.size ≤ g) : Bl w v := by
  have h0' : Below w.heap.size w W := h0
  exact (show Below w.heap.size w v from ⟨h.os.trans h0'.os, h.tape.trans h0'.tape, h.output.trans h0'.output, Nat.le_trans h0'.size h.size, fun k hk => (h.blk k (Nat.lt_of_lt_of_le hk h0'.size) (by omega)).trans (h0'.block k hk)⟩)
/-- What a cell holds, if it is there. -/
def cellOr (w : World) (a : Addr) : Value := (w.cell? a).getD undef
theorem Bx.or {g n : Nat} {w v : World} (h : Bx g n w v) (j : Nat) (hj : j < n) : v.cell? ⟨g, j, none⟩ = some (cellOr v ⟨g, j, none⟩) := by
  have h1 := (h.th j hj).1
  rw [Nat.zero_add] at h1
  obtain ⟨x, hx⟩ := Option.isSome_iff_exists.1 h1
  unfold cellOr
  rw [hx]
  rfl
theorem Bx.fz {g n : Nat} {w v : World} (h : Bx g n w v) (j : Nat) (hj : j < n) : v.frozen? ⟨g, j, none⟩ = false := by
  have h1 := (h.th j hj).2
  rwa [Nat.zero_add] at h1
theorem Ls.bx {g n : Nat} {w v : World} {A : Option Addr} {l : List Int} (h : Ls w .i64 A l) (hA : ∀ b o, 0 < l.length → A = some ⟨b, o, none⟩ → b ≠ g) (hb : Bx g n w v) : Ls v .i64 A l := fun hl => by
  obtain ⟨b, o, e, hc⟩ := h hl
  exact ⟨b, o, e, fun j hj => hb.cell (hc j hj) (hA b o hl e)⟩
theorem Ls.old {w : World} {A : Option Addr} {l : List Int} (h : Ls w .i64 A l) {b o : Nat} (h0 : 0 < l.length) (e : A = some ⟨b, o, none⟩) : b < w.heap.size := by
  obtain ⟨b', o', e', hc⟩ := h h0
  have h := World.block_lt_of_cell? w _ (hc 0 h0)
  have e2 := e.symm.trans e'
  simp only [Option.some.injEq, Addr.mk.injEq] at e2
  rw [e2.1]
  exact h
theorem setCells_12 (w : World) (g : Nat) (a0 a1 a2 a3 a4 a5 a6 a7 a8 a9 a10 a11 : Value) : w.setCells g 0 [a0, a1, a2, a3, a4, a5, a6, a7, a8, a9, a10, a11] = ((((((((((((w.setCell ⟨g, 0, none⟩ a0).setCell ⟨g, 1, none⟩ a1).setCell ⟨g, 2, none⟩ a2).setCell ⟨g, 3, none⟩ a3).setCell ⟨g, 4, none⟩ a4).setCell ⟨g, 5, none⟩ a5).setCell ⟨g, 6, none⟩ a6).setCell ⟨g, 7, none⟩ a7).setCell ⟨g, 8, none⟩ a8).setCell ⟨g, 9, none⟩ a9).setCell ⟨g, 10, none⟩ a10).setCell ⟨g, 11, none⟩ a11) := rfl
theorem Bx.sets {g n : Nat} {w : World} : ∀ (vs : List Value) (o : Nat) {v : World}, Bx g n w v → Bx g n w (v.setCells g o vs)
  | [], _, _, h => h
  | x :: vs, o, _, h => Bx.sets vs (o + 1) (h.set o x)
theorem Gs.Ok.bx {n b : Nat} {g : Gs} {w v : World} (h : g.Ok w) (h1 : ∀ x o, 0 < g.l.length → g.A = some ⟨x, o, none⟩ → x ≠ b) (h2 : ∀ x o, 0 < g.m.length → g.B = some ⟨x, o, none⟩ → x ≠ b) (hb : Bx b n w v) : g.Ok v :=
  ⟨h.l1, h.l2, h.c1, h.c2, h.num, h.ls1.bx h1 hb, h.ls2.bx h2 hb⟩
def FourRes (w : World) (e : Ending) (w' : World) : Prop := ∃ g0 g1 g2 g3 : Gs, e = .returned (.agg #[g0.u, .int .i64 g0.q, g0.v, g1.u, .int .i64 g1.q, g1.v, g2.u, .int .i64 g2.q, g2.v, g3.u, .int .i64 g3.q, g3.v]) ∧ g0.Ok w' ∧ g1.Ok w' ∧ g2.Ok w' ∧ g3.Ok w' ∧ Bl w w'
theorem info_four : (Try.prog.info? 33).map (·.size) = some 12 := by kernel_rfl

theorem four_ok (Ar : Option Addr) (cr : Nat) (rl : List Int) (qr : Int) (Br : Option Addr) (dr : Nat) (rm : List Int) (A1 : Option Addr) (c1 : Nat) (zs : List Int) (o : Int) (A2 : Option Addr) (c2 : Nat) (vs : List Int) (sm : Bool) (a0 b0 N0 a1 b1 N1 : Int) (w : World)
    (hr1 : rl.length ≤ 9223372036854775807) (hr2 : rm.length ≤ 9223372036854775807) (hc1 : rl.length ≤ cr) (hc2 : rm.length ≤ dr) (hqr : -9223372036854775808 ≤ qr ∧ qr ≤ 9223372036854775807) (h1 : Ls w .i64 Ar rl) (h2 : Ls w .i64 Br rm)
    (ho : 0 ≤ o ∧ o ≤ 255) (hzs : ∀ x ∈ zs, 0 ≤ x ∧ x ≤ 255) (hvs : ∀ x ∈ vs, 0 ≤ x ∧ x ≤ 65535) (hL1 : zs.length ≤ 9223372036854775807) (hL : vs.length ≤ 9223372036854775807) (h3 : Ls w .u8 A1 zs) (h4 : Ls w .u16 A2 vs)
    (ha0 : 0 ≤ a0 ∧ a0 ≤ 255) (hb0 : 0 ≤ b0 ∧ b0 ≤ 255) (hN0 : -9223372036854775808 ≤ N0 ∧ N0 ≤ 9223372036854775807) (ha1 : 0 ≤ a1 ∧ a1 ≤ 255) (hb1 : 0 ≤ b1 ∧ b1 ≤ 255) (hN1 : -9223372036854775808 ≤ N1 ∧ N1 ≤ 9223372036854775807) :
    Calls Try.prog 11 #[.agg #[.slice Ar rl.length cr, .int .i64 qr, .slice Br rm.length dr], .agg #[.slice A1 zs.length c1, .int .u8 o, .slice A2 vs.length c2, .bool sm], .agg #[.int .u8 a0, .int .u8 b0, .int .i64 N0, .int .u8 a1, .int .u8 b1, .int .i64 N1]] w (FourRes w) := by
  have D := fun w h1 h2 => draft_ok A1 c1 zs o A2 c2 vs sm w ho hzs hvs hL1 hL h1 h2
  have C := fun w h1 h2 => copied_ok Ar Br cr dr rl qr rm w hr1 hr2 hc1 hc2 h1 h2
  obtain ⟨n, hn⟩ : ∃ n, zs.length = n := ⟨_, rfl⟩
  obtain ⟨L, hLL⟩ : ∃ L, vs.length = L := ⟨_, rfl⟩
  obtain ⟨nr, hnr⟩ : ∃ L, rl.length = L := ⟨_, rfl⟩
  obtain ⟨mr, hmr⟩ : ∃ L, rm.length = L := ⟨_, rfl⟩
  rw [hn, hLL] at D
  rw [hnr, hmr] at C
  rw [hn, hLL, hnr, hmr]
  have HT1 := Lib.hid (show (rl.take 8).length ≤ 8 by simp; omega)
  have HT2 := Lib.hid (show (rm.take 5000).length ≤ 5000 by simp; omega)
  obtain ⟨t1, et1⟩ : ∃ l, rl.take 8 = l := ⟨_, rfl⟩
  obtain ⟨t2, et2⟩ : ∃ l, rm.take 5000 = l := ⟨_, rfl⟩
  rw [et1] at C HT1
  rw [et2] at C HT2
  have HD := Lib.hid D; have HC := Lib.hid C; have H1 := Lib.hid h1; have H2 := Lib.hid h2; have H3 := Lib.hid h3; have H4 := Lib.hid h4
  have HA0 := Lib.hid ha0; have HB0 := Lib.hid hb0; have HN0 := Lib.hid hN0; have HA1 := Lib.hid ha1; have HB1 := Lib.hid hb1; have HN1 := Lib.hid hN1; have HQR := Lib.hid hqr
  clear D C h1 h2 h3 h4 hr1 hr2 hc1 hc2 hn hLL hnr hmr et1 et2 ho hzs hvs hL1 hL ha0 hb0 hN0 ha1 hb1 hN1 hqr
  have i1 := Bl.new w (.cells #[.slice Ar nr cr, .int .i64 qr, .slice Br mr dr] 24)
  have i2 := Bl.new (w.alloc (.cells #[.slice Ar nr cr, .int .i64 qr, .slice Br mr dr] 24)) (.cells #[.slice A1 n c1, .int .u8 o, .slice A2 L c2, .bool sm] 28)
  have i3 := Bl.new ((w.alloc (.cells #[.slice Ar nr cr, .int .i64 qr, .slice Br mr dr] 24)).alloc (.cells #[.slice A1 n c1, .int .u8 o, .slice A2 L c2, .bool sm] 28)) (.cells #[.int .u8 a0, .int .u8 b0, .int .i64 N0, .int .u8 a1, .int .u8 b1, .int .i64 N1] 31)
  have i4 := Bl.new (((w.alloc (.cells #[.slice Ar nr cr, .int .i64 qr, .slice Br mr dr] 24)).alloc (.cells #[.slice A1 n c1, .int .u8 o, .slice A2 L c2, .bool sm] 28)).alloc (.cells #[.int .u8 a0, .int .u8 b0, .int .i64 N0, .int .u8 a1, .int .u8 b1, .int .i64 N1] 31)) (.cells #[.slice none 0 0, .int .i64 0, .slice none 0 0, .slice none 0 0, .int .i64 0, .slice none 0 0, .slice none 0 0, .int .i64 0, .slice none 0 0, .slice none 0 0, .int .i64 0, .slice none 0 0] 33)
  have hz1 : ((w.alloc (.cells #[.slice Ar nr cr, .int .i64 qr, .slice Br mr dr] 24))).heap.size = w.heap.size + 1 := by simp
  have hz2 : (((w.alloc (.cells #[.slice Ar nr cr, .int .i64 qr, .slice Br mr dr] 24)).alloc (.cells #[.slice A1 n c1, .int .u8 o, .slice A2 L c2, .bool sm] 28))).heap.size = w.heap.size + 1 + 1 := by simp
  have hz3 : ((((w.alloc (.cells #[.slice Ar nr cr, .int .i64 qr, .slice Br mr dr] 24)).alloc (.cells #[.slice A1 n c1, .int .u8 o, .slice A2 L c2, .bool sm] 28)).alloc (.cells #[.int .u8 a0, .int .u8 b0, .int .i64 N0, .int .u8 a1, .int .u8 b1, .int .i64 N1] 31))).heap.size = w.heap.size + 1 + 1 + 1 := by simp
  have hz4 : (((((w.alloc (.cells #[.slice Ar nr cr, .int .i64 qr, .slice Br mr dr] 24)).alloc (.cells #[.slice A1 n c1, .int .u8 o, .slice A2 L c2, .bool sm] 28)).alloc (.cells #[.int .u8 a0, .int .u8 b0, .int .i64 N0, .int .u8 a1, .int .u8 b1, .int .i64 N1] 31)).alloc (.cells #[.slice none 0 0, .int .i64 0, .slice none 0 0, .slice none 0 0, .int .i64 0, .slice none 0 0, .slice none 0 0, .int .i64 0, .slice none 0 0, .slice none 0 0, .int .i64 0, .slice none 0 0] 33))).heap.size = w.heap.size + 4 := by simp
  have x0 : (((((w.alloc (.cells #[.slice Ar nr cr, .int .i64 qr, .slice Br mr dr] 24)).alloc (.cells #[.slice A1 n c1, .int .u8 o, .slice A2 L c2, .bool sm] 28)).alloc (.cells #[.int .u8 a0, .int .u8 b0, .int .i64 N0, .int .u8 a1, .int .u8 b1, .int .i64 N1] 31)).alloc (.cells #[.slice none 0 0, .int .i64 0, .slice none 0 0, .slice none 0 0, .int .i64 0, .slice none 0 0, .slice none 0 0, .int .i64 0, .slice none 0 0, .slice none 0 0, .int .i64 0, .slice none 0 0] 33))).cell? ⟨w.heap.size, 0, none⟩ = some (.slice Ar nr cr) := ((i2.trans i3).trans i4).cell (c_new w _ _ 0)
  have x1 : (((((w.alloc (.cells #[.slice Ar nr cr, .int .i64 qr, .slice Br mr dr] 24)).alloc (.cells #[.slice A1 n c1, .int .u8 o, .slice A2 L c2, .bool sm] 28)).alloc (.cells #[.int .u8 a0, .int .u8 b0, .int .i64 N0, .int .u8 a1, .int .u8 b1, .int .i64 N1] 31)).alloc (.cells #[.slice none 0 0, .int .i64 0, .slice none 0 0, .slice none 0 0, .int .i64 0, .slice none 0 0, .slice none 0 0, .int .i64 0, .slice none 0 0, .slice none 0 0, .int .i64 0, .slice none 0 0] 33))).cell? ⟨w.heap.size, 1, none⟩ = some (.int .i64 qr) := ((i2.trans i3).trans i4).cell (c_new w _ _ 1)
  have x2 : (((((w.alloc (.cells #[.slice Ar nr cr, .int .i64 qr, .slice Br mr dr] 24)).alloc (.cells #[.slice A1 n c1, .int .u8 o, .slice A2 L c2, .bool sm] 28)).alloc (.cells #[.int .u8 a0, .int .u8 b0, .int .i64 N0, .int .u8 a1, .int .u8 b1, .int .i64 N1] 31)).alloc (.cells #[.slice none 0 0, .int .i64 0, .slice none 0 0, .slice none 0 0, .int .i64 0, .slice none 0 0, .slice none 0 0, .int .i64 0, .slice none 0 0, .slice none 0 0, .int .i64 0, .slice none 0 0] 33))).cell? ⟨w.heap.size, 2, none⟩ = some (.slice Br mr dr) := ((i2.trans i3).trans i4).cell (c_new w _ _ 2)
  have y0 : (((((w.alloc (.cells #[.slice Ar nr cr, .int .i64 qr, .slice Br mr dr] 24)).alloc (.cells #[.slice A1 n c1, .int .u8 o, .slice A2 L c2, .bool sm] 28)).alloc (.cells #[.int .u8 a0, .int .u8 b0, .int .i64 N0, .int .u8 a1, .int .u8 b1, .int .i64 N1] 31)).alloc (.cells #[.slice none 0 0, .int .i64 0, .slice none 0 0, .slice none 0 0, .int .i64 0, .slice none 0 0, .slice none 0 0, .int .i64 0, .slice none 0 0, .slice none 0 0, .int .i64 0, .slice none 0 0] 33))).cell? ⟨w.heap.size + 1, 0, none⟩ = some (.slice A1 n c1) := by rw [← hz1]; exact (i3.trans i4).cell (c_new (w.alloc (.cells #[.slice Ar nr cr, .int .i64 qr, .slice Br mr dr] 24)) _ _ 0)
  have y1 : (((((w.alloc (.cells #[.slice Ar nr cr, .int .i64 qr, .slice Br mr dr] 24)).alloc (.cells #[.slice A1 n c1, .int .u8 o, .slice A2 L c2, .bool sm] 28)).alloc (.cells #[.int .u8 a0, .int .u8 b0, .int .i64 N0, .int .u8 a1, .int .u8 b1, .int .i64 N1] 31)).alloc (.cells #[.slice none 0 0, .int .i64 0, .slice none 0 0, .slice none 0 0, .int .i64 0, .slice none 0 0, .slice none 0 0, .int .i64 0, .slice none 0 0, .slice none 0 0, .int .i64 0, .slice none 0 0] 33))).cell? ⟨w.heap.size + 1, 1, none⟩ = some (.int .u8 o) := by rw [← hz1]; exact (i3.trans i4).cell (c_new (w.alloc (.cells #[.slice Ar nr cr, .int .i64 qr, .slice Br mr dr] 24)) _ _ 1)
  have y2 : (((((w.alloc (.cells #[.slice Ar nr cr, .int .i64 qr, .slice Br mr dr] 24)).alloc (.cells #[.slice A1 n c1, .int .u8 o, .slice A2 L c2, .bool sm] 28)).alloc (.cells #[.int .u8 a0, .int .u8 b0, .int .i64 N0, .int .u8 a1, .int .u8 b1, .int .i64 N1] 31)).alloc (.cells #[.slice none 0 0, .int .i64 0, .slice none 0 0, .slice none 0 0, .int .i64 0, .slice none 0 0, .slice none 0 0, .int .i64 0, .slice none 0 0, .slice none 0 0, .int .i64 0, .slice none 0 0] 33))).cell? ⟨w.heap.size + 1, 2, none⟩ = some (.slice A2 L c2) := by rw [← hz1]; exact (i3.trans i4).cell (c_new (w.alloc (.cells #[.slice Ar nr cr, .int .i64 qr, .slice Br mr dr] 24)) _ _ 2)
  have y3 : (((((w.alloc (.cells #[.slice Ar nr cr, .int .i64 qr, .slice Br mr dr] 24)).alloc (.cells #[.slice A1 n c1, .int .u8 o, .slice A2 L c2, .bool sm] 28)).alloc (.cells #[.int .u8 a0, .int .u8 b0, .int .i64 N0, .int .u8 a1, .int .u8 b1, .int .i64 N1] 31)).alloc (.cells #[.slice none 0 0, .int .i64 0, .slice none 0 0, .slice none 0 0, .int .i64 0, .slice none 0 0, .slice none 0 0, .int .i64 0, .slice none 0 0, .slice none 0 0, .int .i64 0, .slice none 0 0] 33))).cell? ⟨w.heap.size + 1, 3, none⟩ = some (.bool sm) := by rw [← hz1]; exact (i3.trans i4).cell (c_new (w.alloc (.cells #[.slice Ar nr cr, .int .i64 qr, .slice Br mr dr] 24)) _ _ 3)
  have v0 : (((((w.alloc (.cells #[.slice Ar nr cr, .int .i64 qr, .slice Br mr dr] 24)).alloc (.cells #[.slice A1 n c1, .int .u8 o, .slice A2 L c2, .bool sm] 28)).alloc (.cells #[.int .u8 a0, .int .u8 b0, .int .i64 N0, .int .u8 a1, .int .u8 b1, .int .i64 N1] 31)).alloc (.cells #[.slice none 0 0, .int .i64 0, .slice none 0 0, .slice none 0 0, .int .i64 0, .slice none 0 0, .slice none 0 0, .int .i64 0, .slice none 0 0, .slice none 0 0, .int .i64 0, .slice none 0 0] 33))).cell? ⟨w.heap.size + 1 + 1, 0, none⟩ = some (.int .u8 a0) := by rw [← hz2]; exact i4.cell (c_new ((w.alloc (.cells #[.slice Ar nr cr, .int .i64 qr, .slice Br mr dr] 24)).alloc (.cells #[.slice A1 n c1, .int .u8 o, .slice A2 L c2, .bool sm] 28)) _ _ 0)
  have v1 : (((((w.alloc (.cells #[.slice Ar nr cr, .int .i64 qr, .slice Br mr dr] 24)).alloc (.cells #[.slice A1 n c1, .int .u8 o, .slice A2 L c2, .bool sm] 28)).alloc (.cells #[.int .u8 a0, .int .u8 b0, .int .i64 N0, .int .u8 a1, .int .u8 b1, .int .i64 N1] 31)).alloc (.cells #[.slice none 0 0, .int .i64 0, .slice none 0 0, .slice none 0 0, .int .i64 0, .slice none 0 0, .slice none 0 0, .int .i64 0, .slice none 0 0, .slice none 0 0, .int .i64 0, .slice none 0 0] 33))).cell? ⟨w.heap.size + 1 + 1, 1, none⟩ = some (.int .u8 b0) := by rw [← hz2]; exact i4.cell (c_new ((w.alloc (.cells #[.slice Ar nr cr, .int .i64 qr, .slice Br mr dr] 24)).alloc (.cells #[.slice A1 n c1, .int .u8 o, .slice A2 L c2, .bool sm] 28)) _ _ 1)
  have v2 : (((((w.alloc (.cells #[.slice Ar nr cr, .int .i64 qr, .slice Br mr dr] 24)).alloc (.cells #[.slice A1 n c1, .int .u8 o, .slice A2 L c2, .bool sm] 28)).alloc (.cells #[.int .u8 a0, .int .u8 b0, .int .i64 N0, .int .u8 a1, .int .u8 b1, .int .i64 N1] 31)).alloc (.cells #[.slice none 0 0, .int .i64 0, .slice none 0 0, .slice none 0 0, .int .i64 0, .slice none 0 0, .slice none 0 0, .int .i64 0, .slice none 0 0, .slice none 0 0, .int .i64 0, .slice none 0 0] 33))).cell? ⟨w.heap.size + 1 + 1, 2, none⟩ = some (.int .i64 N0) := by rw [← hz2]; exact i4.cell (c_new ((w.alloc (.cells #[.slice Ar nr cr, .int .i64 qr, .slice Br mr dr] 24)).alloc (.cells #[.slice A1 n c1, .int .u8 o, .slice A2 L c2, .bool sm] 28)) _ _ 2)
  have v3 : (((((w.alloc (.cells #[.slice Ar nr cr, .int .i64 qr, .slice Br mr dr] 24)).alloc (.cells #[.slice A1 n c1, .int .u8 o, .slice A2 L c2, .bool sm] 28)).alloc (.cells #[.int .u8 a0, .int .u8 b0, .int .i64 N0, .int .u8 a1, .int .u8 b1, .int .i64 N1] 31)).alloc (.cells #[.slice none 0 0, .int .i64 0, .slice none 0 0, .slice none 0 0, .int .i64 0, .slice none 0 0, .slice none 0 0, .int .i64 0, .slice none 0 0, .slice none 0 0, .int .i64 0, .slice none 0 0] 33))).cell? ⟨w.heap.size + 1 + 1, 3, none⟩ = some (.int .u8 a1) := by rw [← hz2]; exact i4.cell (c_new ((w.alloc (.cells #[.slice Ar nr cr, .int .i64 qr, .slice Br mr dr] 24)).alloc (.cells #[.slice A1 n c1, .int .u8 o, .slice A2 L c2, .bool sm] 28)) _ _ 3)
  have v4 : (((((w.alloc (.cells #[.slice Ar nr cr, .int .i64 qr, .slice Br mr dr] 24)).alloc (.cells #[.slice A1 n c1, .int .u8 o, .slice A2 L c2, .bool sm] 28)).alloc (.cells #[.int .u8 a0, .int .u8 b0, .int .i64 N0, .int .u8 a1, .int .u8 b1, .int .i64 N1] 31)).alloc (.cells #[.slice none 0 0, .int .i64 0, .slice none 0 0, .slice none 0 0, .int .i64 0, .slice none 0 0, .slice none 0 0, .int .i64 0, .slice none 0 0, .slice none 0 0, .int .i64 0, .slice none 0 0] 33))).cell? ⟨w.heap.size + 1 + 1, 4, none⟩ = some (.int .u8 b1) := by rw [← hz2]; exact i4.cell (c_new ((w.alloc (.cells #[.slice Ar nr cr, .int .i64 qr, .slice Br mr dr] 24)).alloc (.cells #[.slice A1 n c1, .int .u8 o, .slice A2 L c2, .bool sm] 28)) _ _ 4)
  have v5 : (((((w.alloc (.cells #[.slice Ar nr cr, .int .i64 qr, .slice Br mr dr] 24)).alloc (.cells #[.slice A1 n c1, .int .u8 o, .slice A2 L c2, .bool sm] 28)).alloc (.cells #[.int .u8 a0, .int .u8 b0, .int .i64 N0, .int .u8 a1, .int .u8 b1, .int .i64 N1] 31)).alloc (.cells #[.slice none 0 0, .int .i64 0, .slice none 0 0, .slice none 0 0, .int .i64 0, .slice none 0 0, .slice none 0 0, .int .i64 0, .slice none 0 0, .slice none 0 0, .int .i64 0, .slice none 0 0] 33))).cell? ⟨w.heap.size + 1 + 1, 5, none⟩ = some (.int .i64 N1) := by rw [← hz2]; exact i4.cell (c_new ((w.alloc (.cells #[.slice Ar nr cr, .int .i64 qr, .slice Br mr dr] 24)).alloc (.cells #[.slice A1 n c1, .int .u8 o, .slice A2 L c2, .bool sm] 28)) _ _ 5)
  have z0 : (((((w.alloc (.cells #[.slice Ar nr cr, .int .i64 qr, .slice Br mr dr] 24)).alloc (.cells #[.slice A1 n c1, .int .u8 o, .slice A2 L c2, .bool sm] 28)).alloc (.cells #[.int .u8 a0, .int .u8 b0, .int .i64 N0, .int .u8 a1, .int .u8 b1, .int .i64 N1] 31)).alloc (.cells #[.slice none 0 0, .int .i64 0, .slice none 0 0, .slice none 0 0, .int .i64 0, .slice none 0 0, .slice none 0 0, .int .i64 0, .slice none 0 0, .slice none 0 0, .int .i64 0, .slice none 0 0] 33))).cell? ⟨w.heap.size + 1 + 1 + 1, 0, none⟩ = some (.slice none 0 0) := by rw [← hz3]; exact c_new (((w.alloc (.cells #[.slice Ar nr cr, .int .i64 qr, .slice Br mr dr] 24)).alloc (.cells #[.slice A1 n c1, .int .u8 o, .slice A2 L c2, .bool sm] 28)).alloc (.cells #[.int .u8 a0, .int .u8 b0, .int .i64 N0, .int .u8 a1, .int .u8 b1, .int .i64 N1] 31)) _ _ 0
  have z1 : (((((w.alloc (.cells #[.slice Ar nr cr, .int .i64 qr, .slice Br mr dr] 24)).alloc (.cells #[.slice A1 n c1, .int .u8 o, .slice A2 L c2, .bool sm] 28)).alloc (.cells #[.int .u8 a0, .int .u8 b0, .int .i64 N0, .int .u8 a1, .int .u8 b1, .int .i64 N1] 31)).alloc (.cells #[.slice none 0 0, .int .i64 0, .slice none 0 0, .slice none 0 0, .int .i64 0, .slice none 0 0, .slice none 0 0, .int .i64 0, .slice none 0 0, .slice none 0 0, .int .i64 0, .slice none 0 0] 33))).cell? ⟨w.heap.size + 1 + 1 + 1, 1, none⟩ = some (.int .i64 0) := by rw [← hz3]; exact c_new (((w.alloc (.cells #[.slice Ar nr cr, .int .i64 qr, .slice Br mr dr] 24)).alloc (.cells #[.slice A1 n c1, .int .u8 o, .slice A2 L c2, .bool sm] 28)).alloc (.cells #[.int .u8 a0, .int .u8 b0, .int .i64 N0, .int .u8 a1, .int .u8 b1, .int .i64 N1] 31)) _ _ 1
  have z2 : (((((w.alloc (.cells #[.slice Ar nr cr, .int .i64 qr, .slice Br mr dr] 24)).alloc (.cells #[.slice A1 n c1, .int .u8 o, .slice A2 L c2, .bool sm] 28)).alloc (.cells #[.int .u8 a0, .int .u8 b0, .int .i64 N0, .int .u8 a1, .int .u8 b1, .int .i64 N1] 31)).alloc (.cells #[.slice none 0 0, .int .i64 0, .slice none 0 0, .slice none 0 0, .int .i64 0, .slice none 0 0, .slice none 0 0, .int .i64 0, .slice none 0 0, .slice none 0 0, .int .i64 0, .slice none 0 0] 33))).cell? ⟨w.heap.size + 1 + 1 + 1, 2, none⟩ = some (.slice none 0 0) := by rw [← hz3]; exact c_new (((w.alloc (.cells #[.slice Ar nr cr, .int .i64 qr, .slice Br mr dr] 24)).alloc (.cells #[.slice A1 n c1, .int .u8 o, .slice A2 L c2, .bool sm] 28)).alloc (.cells #[.int .u8 a0, .int .u8 b0, .int .i64 N0, .int .u8 a1, .int .u8 b1, .int .i64 N1] 31)) _ _ 2
  have z3 : (((((w.alloc (.cells #[.slice Ar nr cr, .int .i64 qr, .slice Br mr dr] 24)).alloc (.cells #[.slice A1 n c1, .int .u8 o, .slice A2 L c2, .bool sm] 28)).alloc (.cells #[.int .u8 a0, .int .u8 b0, .int .i64 N0, .int .u8 a1, .int .u8 b1, .int .i64 N1] 31)).alloc (.cells #[.slice none 0 0, .int .i64 0, .slice none 0 0, .slice none 0 0, .int .i64 0, .slice none 0 0, .slice none 0 0, .int .i64 0, .slice none 0 0, .slice none 0 0, .int .i64 0, .slice none 0 0] 33))).cell? ⟨w.heap.size + 1 + 1 + 1, 3, none⟩ = some (.slice none 0 0) := by rw [← hz3]; exact c_new (((w.alloc (.cells #[.slice Ar nr cr, .int .i64 qr, .slice Br mr dr] 24)).alloc (.cells #[.slice A1 n c1, .int .u8 o, .slice A2 L c2, .bool sm] 28)).alloc (.cells #[.int .u8 a0, .int .u8 b0, .int .i64 N0, .int .u8 a1, .int .u8 b1, .int .i64 N1] 31)) _ _ 3
  have z4 : (((((w.alloc (.cells #[.slice Ar nr cr, .int .i64 qr, .slice Br mr dr] 24)).alloc (.cells #[.slice A1 n c1, .int .u8 o, .slice A2 L c2, .bool sm] 28)).alloc (.cells #[.int .u8 a0, .int .u8 b0, .int .i64 N0, .int .u8 a1, .int .u8 b1, .int .i64 N1] 31)).alloc (.cells #[.slice none 0 0, .int .i64 0, .slice none 0 0, .slice none 0 0, .int .i64 0, .slice none 0 0, .slice none 0 0, .int .i64 0, .slice none 0 0, .slice none 0 0, .int .i64 0, .slice none 0 0] 33))).cell? ⟨w.heap.size + 1 + 1 + 1, 4, none⟩ = some (.int .i64 0) := by rw [← hz3]; exact c_new (((w.alloc (.cells #[.slice Ar nr cr, .int .i64 qr, .slice Br mr dr] 24)).alloc (.cells #[.slice A1 n c1, .int .u8 o, .slice A2 L c2, .bool sm] 28)).alloc (.cells #[.int .u8 a0, .int .u8 b0, .int .i64 N0, .int .u8 a1, .int .u8 b1, .int .i64 N1] 31)) _ _ 4
  have z5 : (((((w.alloc (.cells #[.slice Ar nr cr, .int .i64 qr, .slice Br mr dr] 24)).alloc (.cells #[.slice A1 n c1, .int .u8 o, .slice A2 L c2, .bool sm] 28)).alloc (.cells #[.int .u8 a0, .int .u8 b0, .int .i64 N0, .int .u8 a1, .int .u8 b1, .int .i64 N1] 31)).alloc (.cells #[.slice none 0 0, .int .i64 0, .slice none 0 0, .slice none 0 0, .int .i64 0, .slice none 0 0, .slice none 0 0, .int .i64 0, .slice none 0 0, .slice none 0 0, .int .i64 0, .slice none 0 0] 33))).cell? ⟨w.heap.size + 1 + 1 + 1, 5, none⟩ = some (.slice none 0 0) := by rw [← hz3]; exact c_new (((w.alloc (.cells #[.slice Ar nr cr, .int .i64 qr, .slice Br mr dr] 24)).alloc (.cells #[.slice A1 n c1, .int .u8 o, .slice A2 L c2, .bool sm] 28)).alloc (.cells #[.int .u8 a0, .int .u8 b0, .int .i64 N0, .int .u8 a1, .int .u8 b1, .int .i64 N1] 31)) _ _ 5
  have z6 : (((((w.alloc (.cells #[.slice Ar nr cr, .int .i64 qr, .slice Br mr dr] 24)).alloc (.cells #[.slice A1 n c1, .int .u8 o, .slice A2 L c2, .bool sm] 28)).alloc (.cells #[.int .u8 a0, .int .u8 b0, .int .i64 N0, .int .u8 a1, .int .u8 b1, .int .i64 N1] 31)).alloc (.cells #[.slice none 0 0, .int .i64 0, .slice none 0 0, .slice none 0 0, .int .i64 0, .slice none 0 0, .slice none 0 0, .int .i64 0, .slice none 0 0, .slice none 0 0, .int .i64 0, .slice none 0 0] 33))).cell? ⟨w.heap.size + 1 + 1 + 1, 6, none⟩ = some (.slice none 0 0) := by rw [← hz3]; exact c_new (((w.alloc (.cells #[.slice Ar nr cr, .int .i64 qr, .slice Br mr dr] 24)).alloc (.cells #[.slice A1 n c1, .int .u8 o, .slice A2 L c2, .bool sm] 28)).alloc (.cells #[.int .u8 a0, .int .u8 b0, .int .i64 N0, .int .u8 a1, .int .u8 b1, .int .i64 N1] 31)) _ _ 6
  have z7 : (((((w.alloc (.cells #[.slice Ar nr cr, .int .i64 qr, .slice Br mr dr] 24)).alloc (.cells #[.slice A1 n c1, .int .u8 o, .slice A2 L c2, .bool sm] 28)).alloc (.cells #[.int .u8 a0, .int .u8 b0, .int .i64 N0, .int .u8 a1, .int .u8 b1, .int .i64 N1] 31)).alloc (.cells #[.slice none 0 0, .int .i64 0, .slice none 0 0, .slice none 0 0, .int .i64 0, .slice none 0 0, .slice none 0 0, .int .i64 0, .slice none 0 0, .slice none 0 0, .int .i64 0, .slice none 0 0] 33))).cell? ⟨w.heap.size + 1 + 1 + 1, 7, none⟩ = some (.int .i64 0) := by rw [← hz3]; exact c_new (((w.alloc (.cells #[.slice Ar nr cr, .int .i64 qr, .slice Br mr dr] 24)).alloc (.cells #[.slice A1 n c1, .int .u8 o, .slice A2 L c2, .bool sm] 28)).alloc (.cells #[.int .u8 a0, .int .u8 b0, .int .i64 N0, .int .u8 a1, .int .u8 b1, .int .i64 N1] 31)) _ _ 7
  have z8 : (((((w.alloc (.cells #[.slice Ar nr cr, .int .i64 qr, .slice Br mr dr] 24)).alloc (.cells #[.slice A1 n c1, .int .u8 o, .slice A2 L c2, .bool sm] 28)).alloc (.cells #[.int .u8 a0, .int .u8 b0, .int .i64 N0, .int .u8 a1, .int .u8 b1, .int .i64 N1] 31)).alloc (.cells #[.slice none 0 0, .int .i64 0, .slice none 0 0, .slice none 0 0, .int .i64 0, .slice none 0 0, .slice none 0 0, .int .i64 0, .slice none 0 0, .slice none 0 0, .int .i64 0, .slice none 0 0] 33))).cell? ⟨w.heap.size + 1 + 1 + 1, 8, none⟩ = some (.slice none 0 0) := by rw [← hz3]; exact c_new (((w.alloc (.cells #[.slice Ar nr cr, .int .i64 qr, .slice Br mr dr] 24)).alloc (.cells #[.slice A1 n c1, .int .u8 o, .slice A2 L c2, .bool sm] 28)).alloc (.cells #[.int .u8 a0, .int .u8 b0, .int .i64 N0, .int .u8 a1, .int .u8 b1, .int .i64 N1] 31)) _ _ 8
  have z9 : (((((w.alloc (.cells #[.slice Ar nr cr, .int .i64 qr, .slice Br mr dr] 24)).alloc (.cells #[.slice A1 n c1, .int .u8 o, .slice A2 L c2, .bool sm] 28)).alloc (.cells #[.int .u8 a0, .int .u8 b0, .int .i64 N0, .int .u8 a1, .int .u8 b1, .int .i64 N1] 31)).alloc (.cells #[.slice none 0 0, .int .i64 0, .slice none 0 0, .slice none 0 0, .int .i64 0, .slice none 0 0, .slice none 0 0, .int .i64 0, .slice none 0 0, .slice none 0 0, .int .i64 0, .slice none 0 0] 33))).cell? ⟨w.heap.size + 1 + 1 + 1, 9, none⟩ = some (.slice none 0 0) := by rw [← hz3]; exact c_new (((w.alloc (.cells #[.slice Ar nr cr, .int .i64 qr, .slice Br mr dr] 24)).alloc (.cells #[.slice A1 n c1, .int .u8 o, .slice A2 L c2, .bool sm] 28)).alloc (.cells #[.int .u8 a0, .int .u8 b0, .int .i64 N0, .int .u8 a1, .int .u8 b1, .int .i64 N1] 31)) _ _ 9
  have z10 : (((((w.alloc (.cells #[.slice Ar nr cr, .int .i64 qr, .slice Br mr dr] 24)).alloc (.cells #[.slice A1 n c1, .int .u8 o, .slice A2 L c2, .bool sm] 28)).alloc (.cells #[.int .u8 a0, .int .u8 b0, .int .i64 N0, .int .u8 a1, .int .u8 b1, .int .i64 N1] 31)).alloc (.cells #[.slice none 0 0, .int .i64 0, .slice none 0 0, .slice none 0 0, .int .i64 0, .slice none 0 0, .slice none 0 0, .int .i64 0, .slice none 0 0, .slice none 0 0, .int .i64 0, .slice none 0 0] 33))).cell? ⟨w.heap.size + 1 + 1 + 1, 10, none⟩ = some (.int .i64 0) := by rw [← hz3]; exact c_new (((w.alloc (.cells #[.slice Ar nr cr, .int .i64 qr, .slice Br mr dr] 24)).alloc (.cells #[.slice A1 n c1, .int .u8 o, .slice A2 L c2, .bool sm] 28)).alloc (.cells #[.int .u8 a0, .int .u8 b0, .int .i64 N0, .int .u8 a1, .int .u8 b1, .int .i64 N1] 31)) _ _ 10
  have z11 : (((((w.alloc (.cells #[.slice Ar nr cr, .int .i64 qr, .slice Br mr dr] 24)).alloc (.cells #[.slice A1 n c1, .int .u8 o, .slice A2 L c2, .bool sm] 28)).alloc (.cells #[.int .u8 a0, .int .u8 b0, .int .i64 N0, .int .u8 a1, .int .u8 b1, .int .i64 N1] 31)).alloc (.cells #[.slice none 0 0, .int .i64 0, .slice none 0 0, .slice none 0 0, .int .i64 0, .slice none 0 0, .slice none 0 0, .int .i64 0, .slice none 0 0, .slice none 0 0, .int .i64 0, .slice none 0 0] 33))).cell? ⟨w.heap.size + 1 + 1 + 1, 11, none⟩ = some (.slice none 0 0) := by rw [← hz3]; exact c_new (((w.alloc (.cells #[.slice Ar nr cr, .int .i64 qr, .slice Br mr dr] 24)).alloc (.cells #[.slice A1 n c1, .int .u8 o, .slice A2 L c2, .bool sm] 28)).alloc (.cells #[.int .u8 a0, .int .u8 b0, .int .i64 N0, .int .u8 a1, .int .u8 b1, .int .i64 N1] 31)) _ _ 11
  have zf : ∀ j, (((((w.alloc (.cells #[.slice Ar nr cr, .int .i64 qr, .slice Br mr dr] 24)).alloc (.cells #[.slice A1 n c1, .int .u8 o, .slice A2 L c2, .bool sm] 28)).alloc (.cells #[.int .u8 a0, .int .u8 b0, .int .i64 N0, .int .u8 a1, .int .u8 b1, .int .i64 N1] 31)).alloc (.cells #[.slice none 0 0, .int .i64 0, .slice none 0 0, .slice none 0 0, .int .i64 0, .slice none 0 0, .slice none 0 0, .int .i64 0, .slice none 0 0, .slice none 0 0, .int .i64 0, .slice none 0 0] 33))).frozen? ⟨w.heap.size + 1 + 1 + 1, j, none⟩ = false := fun j => by rw [← hz3]; exact f_new (((w.alloc (.cells #[.slice Ar nr cr, .int .i64 qr, .slice Br mr dr] 24)).alloc (.cells #[.slice A1 n c1, .int .u8 o, .slice A2 L c2, .bool sm] 28)).alloc (.cells #[.int .u8 a0, .int .u8 b0, .int .i64 N0, .int .u8 a1, .int .u8 b1, .int .i64 N1] 31)) _ _ j
  have B4 := ((i1.trans i2).trans i3).trans i4
  clear i1 i2 i3 i4 hz1 hz2 hz3
  go_enter Try.func11, Try.ntmps11
  go_upto_region 1 with (fail)
  generalize ((((w.alloc (.cells #[.slice Ar nr cr, .int .i64 qr, .slice Br mr dr] 24)).alloc (.cells #[.slice A1 n c1, .int .u8 o, .slice A2 L c2, .bool sm] 28)).alloc (.cells #[.int .u8 a0, .int .u8 b0, .int .i64 N0, .int .u8 a1, .int .u8 b1, .int .i64 N1] 31)).alloc (.cells #[.slice none 0 0, .int .i64 0, .slice none 0 0, .slice none 0 0, .int .i64 0, .slice none 0 0, .slice none 0 0, .int .i64 0, .slice none 0 0, .slice none 0 0, .int .i64 0, .slice none 0 0] 33)) = W4 at hz4 x0 x1 x2 y0 y1 y2 y3 v0 v1 v2 v3 v4 v5 z0 z1 z2 z3 z4 z5 z6 z7 z8 z9 z10 z11 zf B4 ⊢
  have HZ4 := Lib.hid hz4; have HB4 := Lib.hid B4; have ZF := Lib.hid zf
  have X0 := Lib.hid x0; have X1 := Lib.hid x1; have X2 := Lib.hid x2; have V0 := Lib.hid v0; have V1 := Lib.hid v1; have V2 := Lib.hid v2; have V3 := Lib.hid v3; have V4 := Lib.hid v4; have V5 := Lib.hid v5; have Z0 := Lib.hid z0; have Z1 := Lib.hid z1; have Z2 := Lib.hid z2; have Z3 := Lib.hid z3; have Z4 := Lib.hid z4; have Z5 := Lib.hid z5; have Z6 := Lib.hid z6; have Z7 := Lib.hid z7; have Z8 := Lib.hid z8; have Z9 := Lib.hid z9; have Z10 := Lib.hid z10; have Z11 := Lib.hid z11
  clear hz4 B4 zf x0 x1 x2 v0 v1 v2 v3 v4 v5 z0 z1 z2 z3 z4 z5 z6 z7 z8 z9 z10 z11
  go_wp2_with fail
  refine (HD.out _ (H3.out.keep HB4.out) (H4.out.keep HB4.out)).mono ?_
  rintro e w5 ⟨gs, cs, gd, cap, s, qn, d, rfl, hok, hcap, hls, hld, hgs, hgd, hb5, hsc⟩
  obtain ⟨k, hk⟩ : ∃ k, s.length = k := ⟨_, rfl⟩
  obtain ⟨m, hm⟩ : ∃ k, d.length = k := ⟨_, rfl⟩
  rw [hk, hm]
  have hGs := Lib.hid (show (Gs.mk (some ⟨gs, 0, none⟩) cs (ofN s) (qn : Int) (some ⟨gd, 0, none⟩) cap (ofN d)).Ok w5 from ⟨by have := hok.sz; have := hok.sz.1; rw [ofN_len]; omega, by have := hok.most; rw [ofN_len]; omega, by rw [ofN_len]; exact hsc, by rw [ofN_len]; exact hcap, by have := hok.q4; show _ ≤ (qn : Int) ∧ (qn : Int) ≤ _; omega, hls, hld⟩)
  have HKK := Lib.hid hk; have HMM := Lib.hid hm; have HB5 := Lib.hid hb5
  have HGS := Lib.hid hgs; have HGD := Lib.hid hgd
  clear hok hcap hls hld hgs hgd hb5 hsc hk hm y0 y1 y2 y3
  have b6 := Bl.new w5 (.cells #[.slice (some ⟨gs, 0, none⟩) k cs, .int .i64 (qn : Int), .slice (some ⟨gd, 0, none⟩) m cap] 24)
  have r0 := b6.cell (HB5.out.cell V0.out)
  have r1 := b6.cell (HB5.out.cell V1.out)
  have r2 := b6.cell (HB5.out.cell V2.out)
  have u0 : ((w5.alloc (.cells #[.slice (some ⟨gs, 0, none⟩) k cs, .int .i64 (qn : Int), .slice (some ⟨gd, 0, none⟩) m cap] 24))).cell? ⟨w5.heap.size, 0, none⟩ = some (.slice (some ⟨gs, 0, none⟩) k cs) := c_new w5 _ _ 0
  have u1 : ((w5.alloc (.cells #[.slice (some ⟨gs, 0, none⟩) k cs, .int .i64 (qn : Int), .slice (some ⟨gd, 0, none⟩) m cap] 24))).cell? ⟨w5.heap.size, 1, none⟩ = some (.int .i64 (qn : Int)) := c_new w5 _ _ 1
  have u2 : ((w5.alloc (.cells #[.slice (some ⟨gs, 0, none⟩) k cs, .int .i64 (qn : Int), .slice (some ⟨gd, 0, none⟩) m cap] 24))).cell? ⟨w5.heap.size, 2, none⟩ = some (.slice (some ⟨gd, 0, none⟩) m cap) := c_new w5 _ _ 2
  go_wp2_with fail
  generalize (w5.alloc (.cells #[.slice (some ⟨gs, 0, none⟩) k cs, .int .i64 (qn : Int), .slice (some ⟨gd, 0, none⟩) m cap] 24)) = W6 at b6 r0 r1 r2 u0 u1 u2 ⊢
  have HB6 := Lib.hid (HB5.out.trans b6)
  have HG6 := Lib.hid (hGs.out.keep b6)
  have U0 := Lib.hid u0; have U1 := Lib.hid u1; have U2 := Lib.hid u2
  have BD := bend_ok a0 b0 N0 (some ⟨gs, 0, none⟩) (some ⟨gd, 0, none⟩) cs cap (ofN s) (qn : Int) (ofN d) W6 HA0.out HB0.out HN0.out hGs.out.num (by have := hGs.out.l1; simp only at this; omega) (by have := hGs.out.l2; simp only at this; omega) hGs.out.c1 hGs.out.c2 HG6.out.ls1 HG6.out.ls2
  rw [ofN_len, ofN_len, HKK.out, HMM.out] at BD
  clear b6 r0 r1 r2 u0 u1 u2
  refine BD.mono ?_
  clear BD
  rintro e w7 ⟨E1, e1, s1, q1, F1, f1, m1, rfl, p1, p2, p3, p4, p5, hs1, hm1, hb7, k1, k2⟩
  have hG1 := Lib.hid (show (Gs.mk E1 e1 s1 q1 F1 f1 m1).Ok w7 from ⟨p1, p2, p3, p4, p5, hs1, hm1⟩)
  have K1 := Lib.hid k1; have K2 := Lib.hid k2; have HB7 := Lib.hid (HB6.out.trans hb7); have B67 := Lib.hid hb7
  clear p1 p2 p3 p4 p5 hs1 hm1 hb7 k1 k2
  have b8 := Bl.new w7 (.cells #[.slice E1 s1.length e1, .int .i64 q1, .slice F1 m1.length f1] 24)
  have B48 := Lib.hid (HB7.out.trans b8)
  have HNR := Lib.hid (show ∀ b o, 0 < rl.length → Ar = some ⟨b, o, none⟩ → b ≠ w.heap.size + 1 + 1 + 1 from fun b o h0 e => by have := H1.out.old h0 e; omega)
  have HNM := Lib.hid (show ∀ b o, 0 < rm.length → Br = some ⟨b, o, none⟩ → b ≠ w.heap.size + 1 + 1 + 1 from fun b o h0 e => by have := H2.out.old h0 e; omega)
  have x0 := B48.out.cell X0.out
  have x1 := B48.out.cell X1.out
  have x2 := B48.out.cell X2.out
  have v3 := B48.out.cell V3.out
  have v4 := B48.out.cell V4.out
  have v5 := B48.out.cell V5.out
  have u0 := b8.cell (B67.out.cell U0.out)
  have u1 := b8.cell (B67.out.cell U1.out)
  have u2 := b8.cell (B67.out.cell U2.out)
  have t0 : ((w7.alloc (.cells #[.slice E1 s1.length e1, .int .i64 q1, .slice F1 m1.length f1] 24))).cell? ⟨w7.heap.size, 0, none⟩ = some (.slice E1 s1.length e1) := c_new w7 _ _ 0
  have t1 : ((w7.alloc (.cells #[.slice E1 s1.length e1, .int .i64 q1, .slice F1 m1.length f1] 24))).cell? ⟨w7.heap.size, 1, none⟩ = some (.int .i64 q1) := c_new w7 _ _ 1
  have t2 : ((w7.alloc (.cells #[.slice E1 s1.length e1, .int .i64 q1, .slice F1 m1.length f1] 24))).cell? ⟨w7.heap.size, 2, none⟩ = some (.slice F1 m1.length f1) := c_new w7 _ _ 2
  have th4 : W4.there (w.heap.size + 1 + 1 + 1) 0 12 := fun j hj => by
    rw [Nat.zero_add]
    obtain rfl | rfl | rfl | rfl | rfl | rfl | rfl | rfl | rfl | rfl | rfl | rfl : j = 0 ∨ j = 1 ∨ j = 2 ∨ j = 3 ∨ j = 4 ∨ j = 5 ∨ j = 6 ∨ j = 7 ∨ j = 8 ∨ j = 9 ∨ j = 10 ∨ j = 11 := by omega
    · exact ⟨by rw [Z0.out]; rfl, ZF.out 0⟩
    · exact ⟨by rw [Z1.out]; rfl, ZF.out 1⟩
    · exact ⟨by rw [Z2.out]; rfl, ZF.out 2⟩
    · exact ⟨by rw [Z3.out]; rfl, ZF.out 3⟩
    · exact ⟨by rw [Z4.out]; rfl, ZF.out 4⟩
    · exact ⟨by rw [Z5.out]; rfl, ZF.out 5⟩
    · exact ⟨by rw [Z6.out]; rfl, ZF.out 6⟩
    · exact ⟨by rw [Z7.out]; rfl, ZF.out 7⟩
    · exact ⟨by rw [Z8.out]; rfl, ZF.out 8⟩
    · exact ⟨by rw [Z9.out]; rfl, ZF.out 9⟩
    · exact ⟨by rw [Z10.out]; rfl, ZF.out 10⟩
    · exact ⟨by rw [Z11.out]; rfl, ZF.out 11⟩
  have th8 := there_keep th4 B48.out
  have HG2 := Lib.hid (hG1.out.keep b8)
  have HG0 := Lib.hid (HG6.out.keep (B67.out.trans b8))
  have HSZ := Lib.hid (show W4.heap.size ≤ ((w7.alloc (.cells #[.slice E1 s1.length e1, .int .i64 q1, .slice F1 m1.length f1] 24))).heap.size from Below.size B48.out)
  have HSZ6 := Lib.hid (show W4.heap.size ≤ W6.heap.size from Below.size HB6.out)
  have HS5 := Lib.hid (show W4.heap.size ≤ w5.heap.size from Below.size HB5.out)
  have HS7 := Lib.hid (show W4.heap.size ≤ w7.heap.size from Below.size HB7.out)
  go_wp2_with fail
  generalize (w7.alloc (.cells #[.slice E1 s1.length e1, .int .i64 q1, .slice F1 m1.length f1] 24)) = W8 at b8 B48 HG2 HG0 HSZ x0 x1 x2 v3 v4 v5 u0 u1 u2 t0 t1 t2 th8 ⊢
  have HB8 := Lib.hid b8
  clear b8
  have hbx0 : Bx (w.heap.size + 1 + 1 + 1) 12 W8 W8.drew := (Bx.refl th8).bl (Bl.refl W8).drew
  have HNE1 := Lib.hid (show ∀ b o, 0 < s1.length → E1 = some ⟨b, o, none⟩ → b ≠ w.heap.size + 1 + 1 + 1 from fun b o _ e => by have := K1.out b o e; have := HSZ6.out; have := HZ4.out; omega)
  have HNE2 := Lib.hid (show ∀ b o, 0 < m1.length → F1 = some ⟨b, o, none⟩ → b ≠ w.heap.size + 1 + 1 + 1 from fun b o _ e => by have := K2.out b o e; have := HSZ6.out; have := HZ4.out; omega)
  have HRL := Lib.hid (H1.out.keep (HB4.out.trans B48.out)); have HRM := Lib.hid (H2.out.keep (HB4.out.trans B48.out))
  have ke1 : w.heap.size ≠ w.heap.size + 1 + 1 + 1 := by omega
  have ke2 : w.heap.size + 1 + 1 ≠ w.heap.size + 1 + 1 + 1 := by omega
  have ke3 : w5.heap.size ≠ w.heap.size + 1 + 1 + 1 := by have := HS5.out; have := HZ4.out; omega
  have ke4 : w7.heap.size ≠ w.heap.size + 1 + 1 + 1 := by have := HS7.out; have := HZ4.out; omega
  have KP := Lib.hid (show ∀ w', Bx (w.heap.size + 1 + 1 + 1) 12 W8 w' → (w'.cell? ⟨w.heap.size, 0, none⟩ = some (.slice Ar nr cr) ∧ w'.cell? ⟨w.heap.size, 1, none⟩ = some (.int .i64 qr) ∧ w'.cell? ⟨w.heap.size, 2, none⟩ = some (.slice Br mr dr) ∧ w'.cell? ⟨w.heap.size + 1 + 1, 3, none⟩ = some (.int .u8 a1) ∧ w'.cell? ⟨w.heap.size + 1 + 1, 4, none⟩ = some (.int .u8 b1) ∧ w'.cell? ⟨w.heap.size + 1 + 1, 5, none⟩ = some (.int .i64 N1) ∧ w'.cell? ⟨w5.heap.size, 0, none⟩ = some (.slice (some ⟨gs, 0, none⟩) k cs) ∧ w'.cell? ⟨w5.heap.size, 1, none⟩ = some (.int .i64 (qn : Int)) ∧ w'.cell? ⟨w5.heap.size, 2, none⟩ = some (.slice (some ⟨gd, 0, none⟩) m cap) ∧ w'.cell? ⟨w7.heap.size, 0, none⟩ = some (.slice E1 s1.length e1) ∧ w'.cell? ⟨w7.heap.size, 1, none⟩ = some (.int .i64 q1) ∧ w'.cell? ⟨w7.heap.size, 2, none⟩ = some (.slice F1 m1.length f1) ∧ w'.cell? ⟨w.heap.size + 1 + 1 + 1, 0, none⟩ = some (cellOr w' ⟨w.heap.size + 1 + 1 + 1, 0, none⟩) ∧ w'.cell? ⟨w.heap.size + 1 + 1 + 1, 1, none⟩ = some (cellOr w' ⟨w.heap.size + 1 + 1 + 1, 1, none⟩) ∧ w'.cell? ⟨w.heap.size + 1 + 1 + 1, 2, none⟩ = some (cellOr w' ⟨w.heap.size + 1 + 1 + 1, 2, none⟩) ∧ w'.cell? ⟨w.heap.size + 1 + 1 + 1, 3, none⟩ = some (cellOr w' ⟨w.heap.size + 1 + 1 + 1, 3, none⟩) ∧ w'.cell? ⟨w.heap.size + 1 + 1 + 1, 4, none⟩ = some (cellOr w' ⟨w.heap.size + 1 + 1 + 1, 4, none⟩) ∧ w'.cell? ⟨w.heap.size + 1 + 1 + 1, 5, none⟩ = some (cellOr w' ⟨w.heap.size + 1 + 1 + 1, 5, none⟩) ∧ w'.cell? ⟨w.heap.size + 1 + 1 + 1, 6, none⟩ = some (cellOr w' ⟨w.heap.size + 1 + 1 + 1, 6, none⟩) ∧ w'.cell? ⟨w.heap.size + 1 + 1 + 1, 7, none⟩ = some (cellOr w' ⟨w.heap.size + 1 + 1 + 1, 7, none⟩) ∧ w'.cell? ⟨w.heap.size + 1 + 1 + 1, 8, none⟩ = some (cellOr w' ⟨w.heap.size + 1 + 1 + 1, 8, none⟩) ∧ w'.cell? ⟨w.heap.size + 1 + 1 + 1, 9, none⟩ = some (cellOr w' ⟨w.heap.size + 1 + 1 + 1, 9, none⟩) ∧ w'.cell? ⟨w.heap.size + 1 + 1 + 1, 10, none⟩ = some (cellOr w' ⟨w.heap.size + 1 + 1 + 1, 10, none⟩) ∧ w'.cell? ⟨w.heap.size + 1 + 1 + 1, 11, none⟩ = some (cellOr w' ⟨w.heap.size + 1 + 1 + 1, 11, none⟩) ∧ w'.frozen? ⟨w.heap.size + 1 + 1 + 1, 0, none⟩ = false ∧ w'.frozen? ⟨w.heap.size + 1 + 1 + 1, 1, none⟩ = false ∧ w'.frozen? ⟨w.heap.size + 1 + 1 + 1, 2, none⟩ = false ∧ w'.frozen? ⟨w.heap.size + 1 + 1 + 1, 3, none⟩ = false ∧ w'.frozen? ⟨w.heap.size + 1 + 1 + 1, 4, none⟩ = false ∧ w'.frozen? ⟨w.heap.size + 1 + 1 + 1, 5, none⟩ = false ∧ w'.frozen? ⟨w.heap.size + 1 + 1 + 1, 6, none⟩ = false ∧ w'.frozen? ⟨w.heap.size + 1 + 1 + 1, 7, none⟩ = false ∧ w'.frozen? ⟨w.heap.size + 1 + 1 + 1, 8, none⟩ = false ∧ w'.frozen? ⟨w.heap.size + 1 + 1 + 1, 9, none⟩ = false ∧ w'.frozen? ⟨w.heap.size + 1 + 1 + 1, 10, none⟩ = false ∧ w'.frozen? ⟨w.heap.size + 1 + 1 + 1, 11, none⟩ = false ∧ Bx (w.heap.size + 1 + 1 + 1) 12 W8 w') from fun w' h => ⟨h.cell x0 ke1, h.cell x1 ke1, h.cell x2 ke1, h.cell v3 ke2, h.cell v4 ke2, h.cell v5 ke2, h.cell u0 ke3, h.cell u1 ke3, h.cell u2 ke3, h.cell t0 ke4, h.cell t1 ke4, h.cell t2 ke4, h.or 0 (by decide), h.or 1 (by decide), h.or 2 (by decide), h.or 3 (by decide), h.or 4 (by decide), h.or 5 (by decide), h.or 6 (by decide), h.or 7 (by decide), h.or 8 (by decide), h.or 9 (by decide), h.or 10 (by decide), h.or 11 (by decide), h.fz 0 (by decide), h.fz 1 (by decide), h.fz 2 (by decide), h.fz 3 (by decide), h.fz 4 (by decide), h.fz 5 (by decide), h.fz 6 (by decide), h.fz 7 (by decide), h.fz 8 (by decide), h.fz 9 (by decide), h.fz 10 (by decide), h.fz 11 (by decide), h⟩)
  clear ke1 ke2 ke3 ke4 x0 x1 x2 v3 v4 v5 u0 u1 u2 t0 t1 t2
  go_region_held3 (fun w' => w'.cell? ⟨w.heap.size, 0, none⟩ = some (.slice Ar nr cr) ∧ w'.cell? ⟨w.heap.size, 1, none⟩ = some (.int .i64 qr) ∧ w'.cell? ⟨w.heap.size, 2, none⟩ = some (.slice Br mr dr) ∧ w'.cell? ⟨w.heap.size + 1 + 1, 3, none⟩ = some (.int .u8 a1) ∧ w'.cell? ⟨w.heap.size + 1 + 1, 4, none⟩ = some (.int .u8 b1) ∧ w'.cell? ⟨w.heap.size + 1 + 1, 5, none⟩ = some (.int .i64 N1) ∧ w'.cell? ⟨w5.heap.size, 0, none⟩ = some (.slice (some ⟨gs, 0, none⟩) k cs) ∧ w'.cell? ⟨w5.heap.size, 1, none⟩ = some (.int .i64 (qn : Int)) ∧ w'.cell? ⟨w5.heap.size, 2, none⟩ = some (.slice (some ⟨gd, 0, none⟩) m cap) ∧ w'.cell? ⟨w7.heap.size, 0, none⟩ = some (.slice E1 s1.length e1) ∧ w'.cell? ⟨w7.heap.size, 1, none⟩ = some (.int .i64 q1) ∧ w'.cell? ⟨w7.heap.size, 2, none⟩ = some (.slice F1 m1.length f1) ∧ w'.cell? ⟨w.heap.size + 1 + 1 + 1, 0, none⟩ = some (cellOr w' ⟨w.heap.size + 1 + 1 + 1, 0, none⟩) ∧ w'.cell? ⟨w.heap.size + 1 + 1 + 1, 1, none⟩ = some (cellOr w' ⟨w.heap.size + 1 + 1 + 1, 1, none⟩) ∧ w'.cell? ⟨w.heap.size + 1 + 1 + 1, 2, none⟩ = some (cellOr w' ⟨w.heap.size + 1 + 1 + 1, 2, none⟩) ∧ w'.cell? ⟨w.heap.size + 1 + 1 + 1, 3, none⟩ = some (cellOr w' ⟨w.heap.size + 1 + 1 + 1, 3, none⟩) ∧ w'.cell? ⟨w.heap.size + 1 + 1 + 1, 4, none⟩ = some (cellOr w' ⟨w.heap.size + 1 + 1 + 1, 4, none⟩) ∧ w'.cell? ⟨w.heap.size + 1 + 1 + 1, 5, none⟩ = some (cellOr w' ⟨w.heap.size + 1 + 1 + 1, 5, none⟩) ∧ w'.cell? ⟨w.heap.size + 1 + 1 + 1, 6, none⟩ = some (cellOr w' ⟨w.heap.size + 1 + 1 + 1, 6, none⟩) ∧ w'.cell? ⟨w.heap.size + 1 + 1 + 1, 7, none⟩ = some (cellOr w' ⟨w.heap.size + 1 + 1 + 1, 7, none⟩) ∧ w'.cell? ⟨w.heap.size + 1 + 1 + 1, 8, none⟩ = some (cellOr w' ⟨w.heap.size + 1 + 1 + 1, 8, none⟩) ∧ w'.cell? ⟨w.heap.size + 1 + 1 + 1, 9, none⟩ = some (cellOr w' ⟨w.heap.size + 1 + 1 + 1, 9, none⟩) ∧ w'.cell? ⟨w.heap.size + 1 + 1 + 1, 10, none⟩ = some (cellOr w' ⟨w.heap.size + 1 + 1 + 1, 10, none⟩) ∧ w'.cell? ⟨w.heap.size + 1 + 1 + 1, 11, none⟩ = some (cellOr w' ⟨w.heap.size + 1 + 1 + 1, 11, none⟩) ∧ w'.frozen? ⟨w.heap.size + 1 + 1 + 1, 0, none⟩ = false ∧ w'.frozen? ⟨w.heap.size + 1 + 1 + 1, 1, none⟩ = false ∧ w'.frozen? ⟨w.heap.size + 1 + 1 + 1, 2, none⟩ = false ∧ w'.frozen? ⟨w.heap.size + 1 + 1 + 1, 3, none⟩ = false ∧ w'.frozen? ⟨w.heap.size + 1 + 1 + 1, 4, none⟩ = false ∧ w'.frozen? ⟨w.heap.size + 1 + 1 + 1, 5, none⟩ = false ∧ w'.frozen? ⟨w.heap.size + 1 + 1 + 1, 6, none⟩ = false ∧ w'.frozen? ⟨w.heap.size + 1 + 1 + 1, 7, none⟩ = false ∧ w'.frozen? ⟨w.heap.size + 1 + 1 + 1, 8, none⟩ = false ∧ w'.frozen? ⟨w.heap.size + 1 + 1 + 1, 9, none⟩ = false ∧ w'.frozen? ⟨w.heap.size + 1 + 1 + 1, 10, none⟩ = false ∧ w'.frozen? ⟨w.heap.size + 1 + 1 + 1, 11, none⟩ = false ∧ Bx (w.heap.size + 1 + 1 + 1) 12 W8 w')
    (with_reducible (first | exact KP.out _ hbx0 | exact KP.out _ (by assumption) | (refine KP.out _ ?_; (repeat apply Bx.set); assumption)))
    (first
      | (go_at_call 32; go_split_ands; refine (bend_ok a1 b1 N1 E1 F1 e1 f1 s1 q1 m1 _ HA1.out HB1.out HN1.out hG1.out.num (by have := hG1.out.l1; simp only at this; omega) (by have := hG1.out.l2; simp only at this; omega) hG1.out.c1 hG1.out.c2 (HG2.out.ls1.bx HNE1.out (by assumption)) (HG2.out.ls2.bx HNE2.out (by assumption))).mono ?_; rintro e wp ⟨E2, e2, s2, q2, F2, f2, m2, rfl, p1, p2, p3, p4, p5, hs2, hm2, hb9, k3, k4⟩; have p5 := Lib.hid p5; have k3 : ∀ b o, E2 = some ⟨b, o, none⟩ → W8.heap.size ≤ b := fun b o e => Nat.le_trans (Bx.size (by assumption)) (k3 b o e); have k4 : ∀ b o, F2 = some ⟨b, o, none⟩ → W8.heap.size ≤ b := fun b o e => Nat.le_trans (Bx.size (by assumption)) (k4 b o e); have hbx : Bx (w.heap.size + 1 + 1 + 1) 12 W8 wp := Bx.bl (by assumption) hb9)
      | (go_at_call 33; go_split_ands; refine (HC.out _ (HRL.out.bx HNR.out (by assumption)) (HRM.out.bx HNM.out (by assumption))).mono ?_; rintro e wq ⟨uc, vc, rfl, hu, hv, hap, hbc⟩; obtain ⟨A3, c3, rfl, hl3, hc3⟩ := hu.addr; obtain ⟨B3, d3, rfl, hl4, hc4⟩ := hv.addr; have k5 : ∀ b o, A3 = some ⟨b, o, none⟩ → W8.heap.size ≤ b := fun b o e => Nat.le_trans (Bx.size (by assumption)) (hu.lt b (by rw [e]; rfl)).1; have k6 : ∀ b o, B3 = some ⟨b, o, none⟩ → W8.heap.size ≤ b := fun b o e => Nat.le_trans (Bx.size (by assumption)) (hv.lt b (by rw [e]; rfl)).1; have hbx2 : Bx (w.heap.size + 1 + 1 + 1) 12 W8 wq := Bx.bl (by assumption) hbc))
  all_goals
    have O2 := Lib.hid (show (Gs.mk E2 e2 s2 q2 F2 f2 m2).Ok wp from ⟨p1, p2, p3, p4, p5.out, hs2, hm2⟩)
    have O3 := Lib.hid (show (Gs.mk A3 c3 t1 qr B3 d3 t2).Ok wq from ⟨by have := HT1.out; show t1.length ≤ _; omega, by have := HT2.out; show t2.length ≤ _; omega, hc3, hc4, HQR.out, hl3, hl4⟩)
    have K3 := Lib.hid k3; have K4 := Lib.hid k4; have K5 := Lib.hid k5; have K6 := Lib.hid k6; have XP := Lib.hid hbx; have XQ := Lib.hid hbx2; have B9 := Lib.hid hb9; have BC := Lib.hid hbc
    clear k3 k4 k5 k6 hbx hbx2 hb9 hbc p1 p2 p3 p4 p5 hs2 hm2 hc3 hc4 hl3 hl4 hu hv hap hbx0
    rw [← setCells_12]
    first
      | (obtain ⟨wz, hwz⟩ : ∃ wz, wq.setCells (w.heap.size + 1 + 1 + 1) 0 [.slice (some ⟨gs, 0, none⟩) k cs, .int .i64 (qn : Int), .slice (some ⟨gd, 0, none⟩) m cap, .slice E1 s1.length e1, .int .i64 q1, .slice F1 m1.length f1, .slice E2 s2.length e2, .int .i64 q2, .slice F2 m2.length f2, .slice A3 t1.length c3, .int .i64 qr, .slice B3 t2.length d3] = wz := ⟨_, rfl⟩; rw [hwz]; have RG := World.rangeAt_setCells_same wq (w.heap.size + 1 + 1 + 1) 0 [.slice (some ⟨gs, 0, none⟩) k cs, .int .i64 (qn : Int), .slice (some ⟨gd, 0, none⟩) m cap, .slice E1 s1.length e1, .int .i64 q1, .slice F1 m1.length f1, .slice E2 s2.length e2, .int .i64 q2, .slice F2 m2.length f2, .slice A3 t1.length c3, .int .i64 qr, .slice B3 t2.length d3] XQ.out.th; rw [hwz] at RG; have BW := Bx.sets [.slice (some ⟨gs, 0, none⟩) k cs, .int .i64 (qn : Int), .slice (some ⟨gd, 0, none⟩) m cap, .slice E1 s1.length e1, .int .i64 q1, .slice F1 m1.length f1, .slice E2 s2.length e2, .int .i64 q2, .slice F2 m2.length f2, .slice A3 t1.length c3, .int .i64 qr, .slice B3 t2.length d3] 0 XQ.out; rw [hwz] at BW; have BP := Bx.sets [.slice (some ⟨gs, 0, none⟩) k cs, .int .i64 (qn : Int), .slice (some ⟨gd, 0, none⟩) m cap, .slice E1 s1.length e1, .int .i64 q1, .slice F1 m1.length f1, .slice E2 s2.length e2, .int .i64 q2, .slice F2 m2.length f2, .slice A3 t1.length c3, .int .i64 qr, .slice B3 t2.length d3] 0 (Bx.bl (Bx.refl XP.out.th) BC.out); rw [hwz] at BP; have BQ := Bx.sets [.slice (some ⟨gs, 0, none⟩) k cs, .int .i64 (qn : Int), .slice (some ⟨gd, 0, none⟩) m cap, .slice E1 s1.length e1, .int .i64 q1, .slice F1 m1.length f1, .slice E2 s2.length e2, .int .i64 q2, .slice F2 m2.length f2, .slice A3 t1.length c3, .int .i64 qr, .slice B3 t2.length d3] 0 (Bx.refl XQ.out.th); rw [hwz] at BQ; have RG := Lib.hid RG; have BW := Lib.hid BW; have BP := Lib.hid BP; have BQ := Lib.hid BQ; clear hwz)
      | (obtain ⟨wz, hwz⟩ : ∃ wz, wp.setCells (w.heap.size + 1 + 1 + 1) 0 [.slice (some ⟨gs, 0, none⟩) k cs, .int .i64 (qn : Int), .slice (some ⟨gd, 0, none⟩) m cap, .slice E1 s1.length e1, .int .i64 q1, .slice F1 m1.length f1, .slice E2 s2.length e2, .int .i64 q2, .slice F2 m2.length f2, .slice A3 t1.length c3, .int .i64 qr, .slice B3 t2.length d3] = wz := ⟨_, rfl⟩; rw [hwz]; have RG := World.rangeAt_setCells_same wp (w.heap.size + 1 + 1 + 1) 0 [.slice (some ⟨gs, 0, none⟩) k cs, .int .i64 (qn : Int), .slice (some ⟨gd, 0, none⟩) m cap, .slice E1 s1.length e1, .int .i64 q1, .slice F1 m1.length f1, .slice E2 s2.length e2, .int .i64 q2, .slice F2 m2.length f2, .slice A3 t1.length c3, .int .i64 qr, .slice B3 t2.length d3] XP.out.th; rw [hwz] at RG; have BW := Bx.sets [.slice (some ⟨gs, 0, none⟩) k cs, .int .i64 (qn : Int), .slice (some ⟨gd, 0, none⟩) m cap, .slice E1 s1.length e1, .int .i64 q1, .slice F1 m1.length f1, .slice E2 s2.length e2, .int .i64 q2, .slice F2 m2.length f2, .slice A3 t1.length c3, .int .i64 qr, .slice B3 t2.length d3] 0 XP.out; rw [hwz] at BW; have BP := Bx.sets [.slice (some ⟨gs, 0, none⟩) k cs, .int .i64 (qn : Int), .slice (some ⟨gd, 0, none⟩) m cap, .slice E1 s1.length e1, .int .i64 q1, .slice F1 m1.length f1, .slice E2 s2.length e2, .int .i64 q2, .slice F2 m2.length f2, .slice A3 t1.length c3, .int .i64 qr, .slice B3 t2.length d3] 0 (Bx.refl XP.out.th); rw [hwz] at BP; have BQ := Bx.sets [.slice (some ⟨gs, 0, none⟩) k cs, .int .i64 (qn : Int), .slice (some ⟨gd, 0, none⟩) m cap, .slice E1 s1.length e1, .int .i64 q1, .slice F1 m1.length f1, .slice E2 s2.length e2, .int .i64 q2, .slice F2 m2.length f2, .slice A3 t1.length c3, .int .i64 qr, .slice B3 t2.length d3] 0 (Bx.bl (Bx.refl XQ.out.th) B9.out); rw [hwz] at BQ; have RG := Lib.hid RG; have BW := Lib.hid BW; have BP := Lib.hid BP; have BQ := Lib.hid BQ; clear hwz)
    go_wp2_with fail
    refine bodyPost_ret (v := .agg #[.slice (some ⟨gs, 0, none⟩) k cs, .int .i64 (qn : Int), .slice (some ⟨gd, 0, none⟩) m cap, .slice E1 s1.length e1, .int .i64 q1, .slice F1 m1.length f1, .slice E2 s2.length e2, .int .i64 q2, .slice F2 m2.length f2, .slice A3 t1.length c3, .int .i64 qr, .slice B3 t2.length d3]) (results_one Try.results11 rfl (run_loadVar_mid wz (w.heap.size + 1 + 1 + 1) 0 33 [.slice (some ⟨gs, 0, none⟩) k cs, .int .i64 (qn : Int), .slice (some ⟨gd, 0, none⟩) m cap, .slice E1 s1.length e1, .int .i64 q1, .slice F1 m1.length f1, .slice E2 s2.length e2, .int .i64 q2, .slice F2 m2.length f2, .slice A3 t1.length c3, .int .i64 qr, .slice B3 t2.length d3] _ RG.out Try.underlying33 rfl info_four)) rfl ?_
    refine ⟨Gs.mk (some ⟨gs, 0, none⟩) cs (ofN s) (qn : Int) (some ⟨gd, 0, none⟩) cap (ofN d), Gs.mk E1 e1 s1 q1 F1 f1 m1, Gs.mk E2 e2 s2 q2 F2 f2 m2, Gs.mk A3 c3 t1 qr B3 d3 t2, by simp only [Gs.u, Gs.v, ofN_len, HKK.out, HMM.out], ?_, HG2.out.bx HNE1.out HNE2.out BW.out, ?_, ?_, Bx.out (HB4.out.trans B48.out) BW.out (by omega)⟩
    · exact HG0.out.bx (fun x o _ e => by cases e; have := HGS.out; have := HZ4.out; omega) (fun x o _ e => by cases e; have := HGD.out; have := HZ4.out; omega) BW.out
    · exact O2.out.bx (fun x o _ e => by have := K3.out x o e; have := HSZ.out; have := HZ4.out; omega) (fun x o _ e => by have := K4.out x o e; have := HSZ.out; have := HZ4.out; omega) BP.out
    · exact O3.out.bx (fun x o _ e => by have := K5.out x o e; have := HSZ.out; have := HZ4.out; omega) (fun x o _ e => by have := K6.out x o e; have := HSZ.out; have := HZ4.out; omega) BQ.out
end Go.Proofs.Ytjinpngojdefiaa
