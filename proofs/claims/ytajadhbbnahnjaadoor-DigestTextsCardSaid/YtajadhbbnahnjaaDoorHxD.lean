/- Contract of digest.Unhex. -/
import Derived.Test.YtajadhbbnahnjaaDoorHxC
import Derived.Handy
import Derived.Deep.MidRow
namespace Go.Proofs.YtajadhbbnahnjaaDoor
open Go.RowKit
set_option maxRecDepth 100000
set_option maxHeartbeats 6400000

/-- Sixteen octets in a block that may be written. -/
structure Row16 (w : World) (g : Nat) (l : List UInt8) : Prop where
  cell : ∀ j (h : j < l.length), w.cell? ⟨g, j, none⟩ = some (.int .u8 ((l[j]'h).toNat : Int))
  free : ∀ j, w.frozen? ⟨g, j, none⟩ = false
theorem Row16.keep {w w' : World} {g : Nat} {l : List UInt8} (hb : Bl w w') (h : Row16 w g l) (h0 : 0 < l.length) : Row16 w' g l :=
  ⟨fun j hj => hb.cell (h.cell j hj), fun j => kept_fz hb (by show g < _; exact World.block_lt_of_cell? w _ (h.cell 0 h0)) (h.free j)⟩
theorem Row16.set {w : World} {g : Nat} {l : List UInt8} (h : Row16 w g l) (i : Nat) (b : UInt8) (hi : i < l.length) : Row16 (w.setCell ⟨g, i, none⟩ (.int .u8 (b.toNat : Int))) g (l.set i b) := by
  refine ⟨fun j hj => ?_, fun j => by rw [World.frozen?_setCell]; exact h.free j⟩
  by_cases e : i = j
  · subst e
    rw [World.cell?_setCell_same' _ _ _ (by rw [h.cell i hi]; rfl), List.getElem_set_self]
  · rw [World.cell?_setCell_other (h := (by intro e'; simp at e' : (⟨g, i, none⟩ : Addr) ≠ ⟨g, j, none⟩)), List.getElem_set_ne e]
    exact h.cell j (by simpa using hj)
theorem Row16.far {w : World} {g : Nat} {l : List UInt8} (h : Row16 w g l) (g' i : Nat) (v : Value) (hg : g' ≠ g) : Row16 (w.setCell ⟨g', i, none⟩ v) g l :=
  ⟨fun j hj => by rw [World.cell?_setCell_other (h := (by intro e'; simp at e' : (⟨g', i, none⟩ : Addr) ≠ ⟨g, j, none⟩))]; exact h.cell j hj, fun j => by rw [World.frozen?_setCell]; exact h.free j⟩
theorem or_nib (x u : Nat) (hx : x < 16) (hu : u < 16) : bits .or .u8 ((x : Int) * 16 % 256) (u : Int) = ((x * 16 + u : Nat) : Int) := by
  have e : bits .or .u8 ((x : Int) * 16 % 256) (u : Int) = IntKind.u8.wrap (((BitVec.ofInt 8 ((x : Int) * 16 % 256)).toNat ||| (BitVec.ofInt 8 (u : Int)).toNat : Nat) : Int) := rfl
  have e1 : (BitVec.ofInt 8 ((x : Int) * 16 % 256)).toNat = x * 16 := by rw [BitVec.toNat_ofInt]; omega
  have e2 : (BitVec.ofInt 8 (u : Int)).toNat = u := by rw [BitVec.toNat_ofInt]; omega
  have e3 := Nat.shiftLeft_add_eq_or_of_lt (i := 4) (show u < 2 ^ 4 by omega) x
  rw [Nat.shiftLeft_eq] at e3
  rw [e, e1, e2, ← e3, IntKind.wrap_u8]
  omega
theorem Row16.there {w : World} {g : Nat} {l : List UInt8} (h : Row16 w g l) (hl : l.length = 16) : w.there g 0 16 := fun j hj => by
  rw [Nat.zero_add]
  exact ⟨by rw [h.cell j (by omega)]; rfl, h.free j⟩
theorem Row16.range {w : World} {g : Nat} {l : List UInt8} (h : Row16 w g l) : w.rangeAt g 0 (u8s l) := fun j v hv => by
  rw [Nat.zero_add]
  have hj : j < l.length := by have := (List.getElem?_eq_some_iff.1 hv).1; simpa [u8s] using this
  rw [h.cell j hj, ← hv]
  simp [u8s, List.getElem?_eq_getElem hj]
theorem info16 : (Tryd.prog.info? 22).map (·.size) = some 16 := by kernel_rfl
theorem below_setCells {w0 : World} {b : Nat} (hb : w0.heap.size ≤ b) : ∀ (vs : List Value) (o : Nat) (w : World), Bl w0 w → Bl w0 (w.setCells b o vs)
  | [], _, _, h => h
  | v :: vs, o, w, h => below_setCells hb vs (o + 1) (w.setCell ⟨b, o, none⟩ v) (Below.setCell h hb v)
theorem u8s_all (l : List UInt8) : (u8s l).toArray.all (·.oneCell') = true := all_oneCell_toArray fun v hv => by
  obtain ⟨b, _, rfl⟩ := List.mem_map.1 hv
  rfl
theorem results_two {P : Program} {fn : Func} {tmps : Array Value} {w : World} {a b : Nat} {t : TypeId} {p : Addr} {A B : Value} (hr : fn.results = #[.cell a t, .tmp b]) (ha : tmps.getD a undef = .pointer (some p)) (hl : (loadVar t p).run P w = .ok A w) (hb : tmps.getD b undef = B) :
    (results fn tmps).run P w = .ok (.tuple #[A, B]) w := by
  have h1 : (asAddr (tmps[a]?.getD undef)).run P w = .ok p w := by rw [show tmps[a]?.getD undef = tmps.getD a undef by simp, ha]; rfl
  have h2 : tmps[b]?.getD undef = B := by rw [show tmps[b]?.getD undef = tmps.getD b undef by simp, hb]
  simp [results, hr, List.mapM_toArray, Sem.run_bind, h1, hl, h2]
theorem z16 : (#[.int .u8 0, .int .u8 0, .int .u8 0, .int .u8 0, .int .u8 0, .int .u8 0, .int .u8 0, .int .u8 0, .int .u8 0, .int .u8 0, .int .u8 0, .int .u8 0, .int .u8 0, .int .u8 0, .int .u8 0, .int .u8 0] : Array Value) = (u8s (List.replicate 16 0)).toArray := by simp [u8s, List.replicate_succ]
theorem frozen_setCells (g : Nat) (a : Addr) : ∀ (vs : List Value) (o : Nat) (w : World), (w.setCells g o vs).frozen? a = w.frozen? a
  | [], _, _ => rfl
  | v :: vs, o, w => by
    rw [World.setCells, frozen_setCells g a vs (o + 1) (w.setCell ⟨g, o, none⟩ v), World.frozen?_setCell]
theorem Row16.stored {w : World} {g : Nat} {l : List UInt8} (h : Row16 w g l) (hl : l.length = 16) (v : List UInt8) (hv : v.length = 16) : Row16 (w.setCells g 0 (u8s v)) g v := by
  have ht : w.there g 0 (u8s v).length := by
    have := h.there hl
    rwa [show (u8s v).length = 16 by simp [u8s, hv]]
  refine ⟨fun j hj => ?_, fun j => ?_⟩
  · have := World.rangeAt_setCells_same w g 0 (u8s v) ht j (.int .u8 ((v[j]'hj).toNat : Int)) (by simp [u8s, List.getElem?_eq_getElem hj])
    rwa [Nat.zero_add] at this
  · rw [frozen_setCells]; exact h.free j
theorem zl16 : ([.int .u8 0, .int .u8 0, .int .u8 0, .int .u8 0, .int .u8 0, .int .u8 0, .int .u8 0, .int .u8 0, .int .u8 0, .int .u8 0, .int .u8 0, .int .u8 0, .int .u8 0, .int .u8 0, .int .u8 0, .int .u8 0] : List Value) = u8s (List.replicate 16 0) := by simp [u8s, List.replicate_succ]
theorem un_call (b : UInt8) (w : World) : Calls Tryd.prog 16 #[.string digs, .int .u8 (b.toNat : Int)] w fun e w' => e = .returned (.int .i64 (un b)) ∧ w = w' :=
  (Tryd.strings_IndexByte digs (b.toNat : Int) w).mono fun _ _ ⟨he, hw⟩ => ⟨by rw [he]; congr 2; unfold un; congr 1; exact UInt8.ofNat_toNat, hw.symm⟩

theorem row_new (w : World) (l : List UInt8) (t : TypeId) : Row16 (w.alloc (.cells ⟨u8s l⟩ t)) w.heap.size l :=
  ⟨fun j hj => (c_new w _ t j).trans (by simp [u8s, List.getElem?_eq_getElem hj]), fun j => f_new w _ t j⟩
theorem str_ix (t : ByteArray) (k : Nat) (c : UInt8) (h : t.data.toList[k]? = some c) (W : World) : (Instr.index 9 (.string t) (.int .i64 (k : Int))).run Tryd.prog W = .ok (.int .u8 (c.toNat : Int)) W := by
  have hk : k < t.size := by
    have := (List.getElem?_eq_some_iff.1 h).1
    rwa [Array.length_toList] at this
  have e : t[k]? = some c := by
    rw [← h, Array.getElem?_toList]
    simp [hk]
    rfl
  simp [Instr.index, run_underlying Tryd.underlying9, asIntOf, e]
/-- What Unhex gives. -/
def UnPost (t : ByteArray) (w : World) (e : Ending) (w' : World) : Prop :=
  ((∃ out : List UInt8, out.length = 16 ∧ hxs out = t.data.toList ∧ e = .returned (.tuple #[.agg ⟨u8s out⟩, .int .i64 0])) ∨ ((∀ out : List UInt8, out.length = 16 → hxs out ≠ t.data.toList) ∧ e = .returned (.tuple #[.agg ⟨u8s (List.replicate 16 0)⟩, .int .i64 5]))) ∧ Bl w w'

theorem unhex_len (t : ByteArray) (w : World) (hlen : ¬ t.size = 32) : Calls Tryd.prog 7 #[.string t] w (UnPost t w) := by
  have hl2 : ((t.size : Int) != 32) = true := by simp; omega
  have HL := Lib.hid hlen; clear hlen
  go_enter Tryd.func7, Tryd.ntmps7
  go_wp2_with fail
  refine bodyPost_ret (v := .tuple #[.agg ⟨u8s (List.replicate 16 0)⟩, .int .i64 5]) (by simp [results, Tryd.results7, go_sem, u8s]) rfl ⟨.inr ⟨fun out ho he => ?_, rfl⟩, ?_⟩
  · have := congrArg List.length he
    rw [hxs_length, ho] at this
    exact HL.out (by simpa using this.symm)
  · unfold Bl
    go_grown
theorem unhex_32 (t : ByteArray) (w : World) (hlen : t.size = 32) : Calls Tryd.prog 7 #[.string t] w (UnPost t w) := by
  have hl2 : ((t.size : Int) != 32) = false := by simp; omega
  have hl3 : (t.size : Int) = 32 := by omega
  have HL := Lib.hid hlen
  go_enter Tryd.func7, Tryd.ntmps7
  go_wp2_with fail
  have zR : Row16 ((w.alloc (.cells ⟨u8s (List.replicate 16 0)⟩ 22)).alloc (.cells ⟨u8s (List.replicate 16 0)⟩ 22)) w.heap.size (List.replicate 16 0) := (row_new w _ _).keep (Bl.new _ _) (by decide)
  have zO : Row16 ((w.alloc (.cells ⟨u8s (List.replicate 16 0)⟩ 22)).alloc (.cells ⟨u8s (List.replicate 16 0)⟩ 22)) (w.heap.size + 1) (List.replicate 16 0) := by
    have := row_new (w.alloc (.cells ⟨u8s (List.replicate 16 0)⟩ 22)) (List.replicate 16 0) 22
    rwa [World.size_alloc] at this
  have hbl : Bl w ((w.alloc (.cells ⟨u8s (List.replicate 16 0)⟩ 22)).alloc (.cells ⟨u8s (List.replicate 16 0)⟩ 22)) := (Bl.new w _).trans (Bl.new _ _)
  obtain ⟨gR, hgR⟩ : ∃ g, w.heap.size = g := ⟨_, rfl⟩
  have HGR := Lib.hid hgR
  rw [hgR] at zR zO ⊢
  clear hgR hlen
  go_loopw [13] (fun i wr => ∃ (k : Nat) (acc : List UInt8), k ≤ 32 ∧ i = .int .i64 k ∧ Read t.data.toList acc k ∧ Row16 wr (gR + 1) acc ∧ Row16 wr gR (List.replicate 16 0) ∧ Bl w wr) (fun i _ => 32 - (intOf i).toNat)
  case atStart => exact ⟨0, List.replicate 16 0, by omega, rfl, Read.zero _, zO, zR, hbl⟩
  case round =>
    clear zR zO hbl
    obtain ⟨k, acc, hk, rfl, hread, hrow, hres, hbl⟩ := hrel
    by_cases hlt : k < 32
    · obtain ⟨c, hc⟩ : ∃ c, t.data.toList[k]? = some c := ⟨_, List.getElem?_eq_getElem (by have := HL.out; show k < t.data.toList.length; rw [Array.length_toList]; show k < t.size; omega)⟩
      have hci := str_ix t k c hc
      have HC := Lib.hid hc; clear hc
      have hlt' : (k : Int) < 32 := by omega
      have hk0 : (0 : Int) ≤ (k : Int) := by omega
      go_wp2_with fail
      refine (un_call c _).mono ?_
      rintro e w1 ⟨rfl, rfl⟩
      rcases un_is c with hu | ⟨⟨hu0, hu1⟩, hu2⟩
      · have hneg : decide (un c < 0) = true := by simp [hu]
        have hnot : ∀ out : List UInt8, out.length = 16 → hxs out ≠ t.data.toList := fun out _ he => by
          have hm : c ∈ hxs out := by rw [he]; exact List.mem_of_getElem? HC.out
          have := hxs_un c hm
          omega
        have HN := Lib.hid hnot; clear hnot
        have HB : Below w.heap.size w wr := hbl
        generalize un c = u at *
        have r0 : wr.cell? ⟨gR, 0, none⟩ = some (.int .u8 0) := hres.cell 0 (by decide)
        have r1 : wr.cell? ⟨gR, 1, none⟩ = some (.int .u8 0) := hres.cell 1 (by decide)
        have r2 : wr.cell? ⟨gR, 2, none⟩ = some (.int .u8 0) := hres.cell 2 (by decide)
        have r3 : wr.cell? ⟨gR, 3, none⟩ = some (.int .u8 0) := hres.cell 3 (by decide)
        have r4 : wr.cell? ⟨gR, 4, none⟩ = some (.int .u8 0) := hres.cell 4 (by decide)
        have r5 : wr.cell? ⟨gR, 5, none⟩ = some (.int .u8 0) := hres.cell 5 (by decide)
        have r6 : wr.cell? ⟨gR, 6, none⟩ = some (.int .u8 0) := hres.cell 6 (by decide)
        have r7 : wr.cell? ⟨gR, 7, none⟩ = some (.int .u8 0) := hres.cell 7 (by decide)
        have r8 : wr.cell? ⟨gR, 8, none⟩ = some (.int .u8 0) := hres.cell 8 (by decide)
        have r9 : wr.cell? ⟨gR, 9, none⟩ = some (.int .u8 0) := hres.cell 9 (by decide)
        have r10 : wr.cell? ⟨gR, 10, none⟩ = some (.int .u8 0) := hres.cell 10 (by decide)
        have r11 : wr.cell? ⟨gR, 11, none⟩ = some (.int .u8 0) := hres.cell 11 (by decide)
        have r12 : wr.cell? ⟨gR, 12, none⟩ = some (.int .u8 0) := hres.cell 12 (by decide)
        have r13 : wr.cell? ⟨gR, 13, none⟩ = some (.int .u8 0) := hres.cell 13 (by decide)
        have r14 : wr.cell? ⟨gR, 14, none⟩ = some (.int .u8 0) := hres.cell 14 (by decide)
        have r15 : wr.cell? ⟨gR, 15, none⟩ = some (.int .u8 0) := hres.cell 15 (by decide)
        have q0 := hres.free 0
        have q1 := hres.free 1
        have q2 := hres.free 2
        have q3 := hres.free 3
        have q4 := hres.free 4
        have q5 := hres.free 5
        have q6 := hres.free 6
        have q7 := hres.free 7
        have q8 := hres.free 8
        have q9 := hres.free 9
        have q10 := hres.free 10
        have q11 := hres.free 11
        have q12 := hres.free 12
        have q13 := hres.free 13
        have q14 := hres.free 14
        have q15 := hres.free 15
        have HRES := Lib.hid hres
        clear hu hread hrow hbl hres
        go_upto_region 9 with fail
        go_cut [3] (fun v wz => v = .int .i64 5 ∧ Row16 wz gR (List.replicate 16 0) ∧ Bl w wz)
        case first =>
          go_wp2_with fail
          go_meet
          have hst := HRES.out.stored rfl (List.replicate 16 0) rfl
          rw [← zl16] at hst
          exact ⟨rfl, hst, (((((((((((((((HB.setCell (Nat.le_of_eq HGR.out) _).setCell (Nat.le_of_eq HGR.out) _).setCell (Nat.le_of_eq HGR.out) _).setCell (Nat.le_of_eq HGR.out) _).setCell (Nat.le_of_eq HGR.out) _).setCell (Nat.le_of_eq HGR.out) _).setCell (Nat.le_of_eq HGR.out) _).setCell (Nat.le_of_eq HGR.out) _).setCell (Nat.le_of_eq HGR.out) _).setCell (Nat.le_of_eq HGR.out) _).setCell (Nat.le_of_eq HGR.out) _).setCell (Nat.le_of_eq HGR.out) _).setCell (Nat.le_of_eq HGR.out) _).setCell (Nat.le_of_eq HGR.out) _).setCell (Nat.le_of_eq HGR.out) _).setCell (Nat.le_of_eq HGR.out) _⟩
        case rest =>
          obtain ⟨rfl, hrow, hbw⟩ := hcut
          have hld := run_loadVar_mid (P := Tryd.prog) wc gR 0 22 (u8s (List.replicate 16 0)) _ hrow.range Tryd.underlying22 rfl info16
          have HLD := Lib.hid hld; have HBW := Lib.hid hbw
          clear hld hbw hrow
          go_wp2_with fail
          refine bodyPost_ret (v := .tuple #[.agg (u8s (List.replicate 16 0)).toArray, .int .i64 5]) (results_two Tryd.results7 rfl HLD.out rfl) rfl (show UnPost _ _ _ _ from ⟨.inr ⟨HN.out, rfl⟩, HBW.out⟩)
      · have hneg : decide (un c < 0) = false := by simpa using hu0
        obtain ⟨x, hx⟩ : ∃ x, acc[k / 2]? = some x := ⟨_, List.getElem?_eq_getElem (by have := hread.len; omega)⟩
        have hcell : wr.cell? ⟨gR + 1, k / 2, none⟩ = some (.int .u8 (x.toNat : Int)) := by
          have hj : k / 2 < acc.length := by have := hread.len; omega
          rw [hrow.cell (k / 2) hj]
          rw [List.getElem?_eq_getElem hj] at hx
          rw [Option.some.inj hx]
        have hfree := hrow.free (k / 2)
        obtain ⟨q, hq⟩ : ∃ q, k / 2 = q := ⟨_, rfl⟩
        rw [hq] at hcell hfree hx
        have hq1 : (k : Int) / 2 = (q : Int) := by omega
        have hq2 : (q : Int) < 16 := by omega
        have hq3 : (0 : Int) ≤ (q : Int) := by omega
        have HQ := Lib.hid hq; clear hq
        have HX := Lib.hid hx; clear hx
        generalize un c = u at *
        go_wp2_with fail
        go_roundw
        case rel =>
          obtain ⟨un', rfl⟩ : ∃ n : Nat, u = n := ⟨u.toNat, by omega⟩
          have hxl : x.toNat < 16 ∧ (k % 2 = 0 → x = 0) := by
            rcases Nat.mod_two_eq_zero_or_one k with e | e
            · have := hread.rest (k / 2) (by omega) (by omega)
              rw [HQ.out, HX.out] at this
              obtain rfl := Option.some.inj this
              exact ⟨by decide, fun _ => rfl⟩
            · obtain ⟨_, _, d, hd1, hd2, _⟩ := hread.half e
              rw [HQ.out, HX.out] at hd1
              obtain rfl := Option.some.inj hd1
              exact ⟨hd2, fun h => by omega⟩
          obtain ⟨y, hy⟩ : ∃ y : UInt8, y.toNat = x.toNat * 16 + un' := ⟨UInt8.ofNat (x.toNat * 16 + un'), by rw [UInt8.toNat_ofNat']; omega⟩
          have hv : bits .or .u8 ((x.toNat : Int) * 16 % 256) (un' : Int) = (y.toNat : Int) := by rw [or_nib _ _ hxl.1 (by omega), hy]
          rw [hv]
          have hq := HQ.out
          refine ⟨k + 1, acc.set (k / 2) y, by omega, by go_num, ?_, ?_, hres.far _ _ _ (by omega), ?_⟩
          · rcases Nat.mod_two_eq_zero_or_one k with e | e
            · have hx0 := hxl.2 e
              subst hx0
              have hy' : y.toNat = un' := by rw [hy]; simp
              exact hread.even e hlt HC.out (by omega) (by rw [hy']; simpa using hu2)
            · exact hread.odd e hlt HC.out (by rw [hq]; exact HX.out) (by omega) (by rw [hy, show (x.toNat * 16 + un') % 16 = un' by omega]; simpa using hu2)
          · rw [hq]
            exact hrow.set q y (by have := hread.len; omega)
          · exact Below.setCell hbl (by rw [HGR.out]; show gR ≤ gR + 1; omega) _
        case measure => simp [intOf]; omega
    · obtain rfl : k = 32 := by omega
      have hacc := hread.len
      have HLEN := Lib.hid hacc
      have hdone := hread.done (by rw [Array.length_toList]; exact HL.out)
      have HD := Lib.hid hdone; clear hdone hread
      have HB : Below w.heap.size w wr := hbl
      have HT := Lib.hid (hres.there rfl)
      have HR := Lib.hid hrow.range
      have hal : (Tryd.prog.info? 22).map (·.size) = some (u8s acc).length := by rw [info16]; simp [u8s, hacc]
      have HT' : wr.there gR 0 (u8s acc).toArray.size := by
        have : (u8s acc).toArray.size = 16 := by simp [u8s, hacc]
        rw [this]; exact HT.out
      have hal2 : (Tryd.prog.info? 22).map (·.size) = some (u8s acc).toArray.size := by rw [info16]; simp [u8s, hacc]
      have HTT := Lib.hid HT'; have HAL := Lib.hid hal; have HAL2 := Lib.hid hal2
      clear hrow hres hbl HT' hal hal2 hacc
      go_wp2_with (first
        | ((with_reducible refine wpList_load_mid rfl 22 (.tmp 4) rfl (gR + 1) 0 ?hx (u8s acc) _ HR.out Tryd.underlying22 ?hy HAL.out ?_); (case hx => rfl); (case hy => rfl))
        | ((with_reducible refine wpList_store_mid rfl 22 (.tmp 2) (.tmp 35) rfl gR 0 (u8s acc).toArray ?hx2 ?hy2 HTT.out HAL2.out (u8s_all _) ?_); (case hx2 => rfl); (case hy2 => rfl)))
      have hld := run_loadVar_mid (P := Tryd.prog) (wr.setCells gR 0 (u8s acc)) gR 0 22 (u8s acc) _ (World.rangeAt_setCells_same wr gR 0 _ (by simpa using HTT.out)) Tryd.underlying22 rfl HAL.out
      refine bodyPost_ret (v := .tuple #[.agg ⟨u8s acc⟩, .int .i64 0]) (results_two Tryd.results7 rfl hld rfl) rfl (show UnPost _ _ _ _ from ⟨.inl ⟨_, HLEN.out, HD.out, rfl⟩, below_setCells (Nat.le_of_eq HGR.out) _ _ _ HB⟩)
theorem unhex_any (t : ByteArray) (w : World) : Calls Tryd.prog 7 #[.string t] w (UnPost t w) := by
  by_cases h : t.size = 32
  · exact unhex_32 t w h
  · exact unhex_len t w h
end Go.Proofs.YtajadhbbnahnjaaDoor
