/- Contracts of grids: drafted grids. -/
import Derived.Test.YtjinpngojdefiaaGrF
import Derived.Deep.DeepCutAuto
namespace Go.Proofs.Ytjinpngojdefiaa
open Go.RowKit
set_option maxRecDepth 20000
set_option maxHeartbeats 6400000

/-- A slice value that owns a list of integers. -/
def Ow (w : World) (base : Nat) (v : Value) (l : List Int) : Prop := w.ownsRow base 3 1 v l.length (ints l)
theorem Ow.keep {w w' : World} {base : Nat} {v : Value} {l : List Int} (h : Ow w base v l) (hb : Bl w w') : Ow w' base v l := by
  refine ⟨h.1, ?_⟩
  rcases h.2 with h0 | ⟨g, cap, cur, h1, h2, h3, h4⟩
  · exact .inl h0
  · exact .inr ⟨g, cap, cur, h1, h2, by rw [Below.block hb _ (Array.getElem?_eq_some_iff.1 h3).1]; exact h3, h4⟩
theorem Ow.addr {w : World} {base : Nat} {v : Value} {l : List Int} (h : Ow w base v l) : ∃ A c, v = .slice A l.length c ∧ Ls w .i64 A l ∧ l.length ≤ c := by
  have h' := h
  rcases h.2 with ⟨h1, h2⟩ | ⟨g, cap, cur, h1, h2, h3, h4, _⟩
  · exact ⟨none, 0, by rw [h1, h2], fun hl => by omega, by omega⟩
  · refine ⟨some ⟨g, 0, none⟩, cap, h1, fun hl => ?_, h4⟩
    obtain ⟨g', c', e, _, _, hr⟩ := Rw.of_own h' rfl hl
    rw [h1] at e
    cases e
    exact hr.ls hl
/-- A grid in a box of the call's own. -/
structure Gb (w : World) (g : Nat) (a : Value) (q : Int) (v : Value) : Prop where
  c0 : w.cell? ⟨g, 0, none⟩ = some a
  c1 : w.cell? ⟨g, 1, none⟩ = some (.int .i64 q)
  c2 : w.cell? ⟨g, 2, none⟩ = some v
  fz : ∀ j, w.frozen? ⟨g, j, none⟩ = false
theorem Gb.lt {w : World} {g : Nat} {a : Value} {q : Int} {v : Value} (h : Gb w g a q v) : g < w.heap.size := World.block_lt_of_cell? w _ h.c0
theorem Gb.keep {w w' : World} {g : Nat} {a : Value} {q : Int} {v : Value} (h : Gb w g a q v) (hb : Bl w w') : Gb w' g a q v :=
  ⟨hb.cell h.c0, hb.cell h.c1, hb.cell h.c2, fun j => kept_fz hb (by show g < _; exact h.lt) (h.fz j)⟩
theorem Gb.grown {w w' : World} {g : Nat} {a : Value} {q : Int} {v : Value} {row : Option Nat} (h : Gb w g a q v) (hg : w.grownBy w' row) (hr : ∀ k, row = some k → g + 1 ≤ k) : Gb w' g a q v := by
  have hne : some g ≠ row := fun e => by have := hr g e.symm; omega
  exact ⟨hg.cell h.c0 hne, hg.cell h.c1 hne, hg.cell h.c2 hne, fun j => (hg.frozen_far ⟨g, j, none⟩ h.lt hne).trans (h.fz j)⟩
theorem Gb.put {w : World} {g : Nat} {a : Value} {q : Int} {v : Value} (h : Gb w g a q v) (v' : Value) : Gb (w.setCell ⟨g, 2, none⟩ v') g a q v' := by
  refine ⟨?_, ?_, World.cell?_setCell_same' _ _ _ (by rw [h.c2]; rfl), fun j => by rw [World.frozen?_setCell]; exact h.fz j⟩
  · rw [World.cell?_setCell_other (h := (by intro e'; simp at e' : (⟨g, 2, none⟩ : Addr) ≠ ⟨g, 0, none⟩))]; exact h.c0
  · rw [World.cell?_setCell_other (h := (by intro e'; simp at e' : (⟨g, 2, none⟩ : Addr) ≠ ⟨g, 1, none⟩))]; exact h.c1
theorem Gb.new (w : World) (a v : Value) (q : Int) (t : TypeId) : Gb (w.alloc (.cells #[a, .int .i64 q, v] t)) w.heap.size a q v :=
  ⟨c_new w _ t 0, c_new w _ t 1, c_new w _ t 2, fun j => f_new w _ t j⟩
theorem Ow.put {w : World} {base g i : Nat} {v u : Value} {l : List Int} (h : Ow w base v l) (hg : g < base) : Ow (w.setCell ⟨g, i, none⟩ u) base v l := by
  refine ⟨h.1, ?_⟩
  rcases h.2 with h0 | ⟨g', cap, cur, h1, h2, h3, h4⟩
  · exact .inl h0
  · exact .inr ⟨g', cap, cur, h1, h2, (Below.heap_setCell w ⟨g, i, none⟩ u g' (by show g' ≠ g; omega)).trans h3, h4⟩
theorem Rw.grown {w w' : World} {g : Nat} {l : List Int} {row : Option Nat} (h : Rw w g l) (hg : w.grownBy w' row) (hr : ∀ k, row = some k → k ≠ g) : Rw w' g l := by
  have hne : some g ≠ row := fun e => hr g e.symm rfl
  exact ⟨Nat.lt_of_lt_of_le h.lt hg.size, fun j hj => hg.cell (h.cell j hj) hne, fun j => (hg.frozen_far ⟨g, j, none⟩ h.lt hne).trans (h.free j)⟩
/-- Three cells stored one after the other: what each store leaves. -/
theorem store_three {w : World} {g : Nat} {v0 v1 v2 : Value} (h0 : w.cell? ⟨g, 0, none⟩ = some v0) (h1 : w.cell? ⟨g, 1, none⟩ = some v1) (h2 : w.cell? ⟨g, 2, none⟩ = some v2) (a0 a1 a2 : Value) :
    (w.setCell ⟨g, 0, none⟩ a0).cell? ⟨g, 0, none⟩ = some a0 ∧
    ((w.setCell ⟨g, 0, none⟩ a0).setCell ⟨g, 1, none⟩ a1).cell? ⟨g, 1, none⟩ = some a1 ∧
    (((w.setCell ⟨g, 0, none⟩ a0).setCell ⟨g, 1, none⟩ a1).setCell ⟨g, 2, none⟩ a2).cell? ⟨g, 2, none⟩ = some a2 := by
  have n01 : (⟨g, 0, none⟩ : Addr) ≠ ⟨g, 1, none⟩ := by intro e'; simp at e'
  have n02 : (⟨g, 0, none⟩ : Addr) ≠ ⟨g, 2, none⟩ := by intro e'; simp at e'
  have n12 : (⟨g, 1, none⟩ : Addr) ≠ ⟨g, 2, none⟩ := by intro e'; simp at e'
  have e1 : (w.setCell ⟨g, 0, none⟩ a0).cell? ⟨g, 1, none⟩ = some v1 := by rw [World.cell?_setCell_other (h := n01)]; exact h1
  have e2 : ((w.setCell ⟨g, 0, none⟩ a0).setCell ⟨g, 1, none⟩ a1).cell? ⟨g, 2, none⟩ = some v2 := by rw [World.cell?_setCell_other (h := n12), World.cell?_setCell_other (h := n02)]; exact h2
  exact ⟨World.cell?_setCell_same w _ _ h0, World.cell?_setCell_same _ _ _ e1, World.cell?_setCell_same _ _ _ e2⟩
/-- A draft's number for a value: at most 65535. -/
theorem made_ok (A1 : Option Addr) (l1 c1 : Nat) (o : Int) (A2 : Option Addr) (c2 : Nat) (vs : List Int) (sm : Bool) (As : Option Addr) (cs : Nat) (s : List Nat) (q : Nat) (w : World)
    (hs : Sz s) (n1 : 1 ≤ s.length) (hq : 1 ≤ q) (hq4 : q ≤ 3) (hvs : ∀ x ∈ vs, 0 ≤ x ∧ x ≤ 65535) (hL : vs.length ≤ 9223372036854775807) (h1 : Ls w .i64 As (ofN s)) (h2 : Ls w .u16 A2 vs) (hpq : Gr.prod s ≤ 64) :
    Calls Try.prog 52 #[.agg #[.slice A1 l1 c1, .int .u8 o, .slice A2 vs.length c2, .bool sm], .slice As s.length cs, .int .i64 (q : Int)] w fun e w' =>
      ∃ (g cap : Nat) (d : List Nat), e = .returned (.agg #[.slice As s.length cs, .int .i64 (q : Int), .slice (some ⟨g, 0, none⟩) d.length cap]) ∧ GrOk s q d ∧ d.length ≤ cap ∧ Ls w' .i64 (some ⟨g, 0, none⟩) (ofN d) ∧ w.heap.size ≤ g ∧ Bl w w' := by
  have HS := Lib.hid hs; have HV := Lib.hid hvs
  have PT := fun w h => points_ok As cs s w hs h
  have IX := fun N w hN h => refindex_ok As cs s N w hs hN h
  obtain ⟨n, hn⟩ : ∃ n, s.length = n := ⟨_, rfl⟩
  obtain ⟨L, hLL⟩ : ∃ L, vs.length = L := ⟨_, rfl⟩
  obtain ⟨N, hN⟩ : ∃ N, Gr.prod s = N := ⟨_, rfl⟩
  have HN := Lib.hid hn; have HLL := Lib.hid hLL; have HP := Lib.hid hN
  have n4 : (n : Int) ≤ 4 := by have := hs.1; omega
  have n1' : 1 ≤ (n : Int) := by omega
  have q1 : 1 ≤ (q : Int) := by omega
  have q3 : (q : Int) ≤ 3 := by omega
  have N6 : (N : Int) ≤ 64 := by omega
  have L9 : (L : Int) ≤ 9223372036854775807 := by omega
  rw [hn, hN] at PT
  rw [hn, hN] at IX
  rw [hn, hLL]
  have H1 := Lib.hid h1; have H2 := Lib.hid h2
  clear hs hvs hn hLL hN hL n1 h1 h2
  obtain ⟨i0, hi, hz0, hz1, hz2⟩ := info_parts info_int
  go_enter Try.func52, Try.ntmps52
  go_wp2_with fail
  have b2 := (Bl.new w (.cells #[.slice A1 l1 c1, .int .u8 o, .slice A2 L c2, .bool sm] 28)).trans (Bl.new _ (.cells #[.slice none 0 0, .int .i64 0, .slice none 0 0] 24))
  have D1 := (Bl.new _ (.cells #[.slice none 0 0, .int .i64 0, .slice none 0 0] 24)).cell (c_new w #[.slice A1 l1 c1, .int .u8 o, .slice A2 L c2, .bool sm] 28 2)
  have D2 := (Bl.new _ (.cells #[.slice none 0 0, .int .i64 0, .slice none 0 0] 24)).cell (c_new w #[.slice A1 l1 c1, .int .u8 o, .slice A2 L c2, .bool sm] 28 3)
  have G6 := Gb.new (w.alloc (.cells #[.slice A1 l1 c1, .int .u8 o, .slice A2 L c2, .bool sm] 28)) (.slice none 0 0) (.slice none 0 0) 0 24
  have hsz1 : (w.alloc (.cells #[.slice A1 l1 c1, .int .u8 o, .slice A2 L c2, .bool sm] 28)).heap.size = w.heap.size + 1 := by simp
  have hsz : ((w.alloc (.cells #[.slice A1 l1 c1, .int .u8 o, .slice A2 L c2, .bool sm] 28)).alloc (.cells #[.slice none 0 0, .int .i64 0, .slice none 0 0] 24)).heap.size = w.heap.size + 1 + 1 := by simp
  rw [hsz1] at G6
  generalize (w.alloc (.cells #[.slice A1 l1 c1, .int .u8 o, .slice A2 L c2, .bool sm] 28)).alloc (.cells #[.slice none 0 0, .int .i64 0, .slice none 0 0] 24) = w2 at b2 D1 D2 G6 hsz ⊢
  have G7 := Gb.new w2 (.slice As n cs) (.slice none 0 0) (q : Int) 24
  have b7 := Bl.new w2 (.cells #[.slice As n cs, .int .i64 (q : Int), .slice none 0 0] 24)
  rw [hsz] at G7
  obtain ⟨g, hg⟩ : ∃ g, w.heap.size + 1 + 1 = g := ⟨_, rfl⟩
  obtain ⟨g6, hg6⟩ : ∃ g, w.heap.size + 1 = g := ⟨_, rfl⟩
  rw [hg] at G7 hsz ⊢
  rw [hg6] at G6 ⊢
  have HG := Lib.hid hg; have HG6 := Lib.hid hg6; have HSZ := Lib.hid hsz
  have H1 := Lib.hid (H1.out.keep b2); have H2 := Lib.hid (H2.out.keep b2)
  have HD1 := Lib.hid D1; have HD2 := Lib.hid D2; have HG6b := Lib.hid G6; have HB2 := Lib.hid b2
  clear hg hg6 hsz hsz1 D1 D2 G6 b2
  generalize w2.alloc (.cells #[.slice As n cs, .int .i64 (q : Int), .slice none 0 0] 24) = w3 at G7 b7 ⊢
  go_loopw [8, 9, 10, 11, 12] (fun iv _ _ _ _ wr => ∃ (k : Nat) (d : List Nat) (v : Value), iv = .int .i64 (k : Int) ∧ k ≤ N ∧ d.length = k * q ∧ (∀ x ∈ d, x ≤ 65535) ∧ Gb wr g (.slice As n cs) (q : Int) v ∧ Ow wr (g + 1) v (ofN d) ∧ Bl w2 wr) (fun iv _ _ _ _ _ => N - (intOf iv).toNat)
  case atStart => exact ⟨0, [], .slice none 0 0, rfl, by omega, by simp, fun x hx => by simp at hx, G7, World.ownsRow_nil _ _ _ _, b7⟩
  case round =>
    clear G7 b7
    obtain ⟨k, d, v, rfl, hk, hd, hx, hgb, how, hb⟩ := hrel
    by_cases hlt : k < N
    · have hlt' : (k : Int) < (N : Int) := by omega
      have HD := Lib.hid hd; have HX := Lib.hid hx; have HGB := Lib.hid hgb; have HOW := Lib.hid how; have HB := Lib.hid hb
      clear hd hx hgb how hb
      go_wp2_with fail
      refine (PT _ (H1.out.keep HB.out)).mono ?_
      rintro e w' ⟨rfl, rfl⟩
      go_wp2_with fail
      refine (IX k _ hlt (H1.out.keep HB.out)).mono ?_
      rintro e w4 ⟨gi, ix, rfl, hgi, hri, hbi, hpi, hb4⟩
      have HNE := Lib.hid (show ∀ r, v.ownBlock = some r → r ≠ gi from fun r hr => by have := (HOW.out.lt r hr).2; omega)
      have HGG := Lib.hid (show g ≠ gi from by have := Gb.lt HGB.out; omega)
      have HGI := Lib.hid hgi; have HRI := Lib.hid hri; have HBI := Lib.hid hbi; have HPI := Lib.hid hpi
      have HGB := Lib.hid (HGB.out.keep hb4); have HOW := Lib.hid (HOW.out.keep hb4); have HB := Lib.hid (HB.out.trans hb4)
      clear hgi hri hbi hpi hb4
      go_wp2_with fail
      have HIX := Lib.hid (show ix.length = n by rw [HBI.out.length, HN.out])
      go_loopw [10, 11, 12] (fun jv _ _ wz => ∃ (j : Nat) (d' : List Nat) (v' : Value), jv = .int .i64 (j : Int) ∧ j ≤ q ∧ d'.length = k * q + j ∧ (∀ x ∈ d', x ≤ 65535) ∧ Gb wz g (.slice As n cs) (q : Int) v' ∧ Ow wz (g + 1) v' (ofN d') ∧ (∀ r, v'.ownBlock = some r → r ≠ gi) ∧ Rw wz gi (ofN ix) ∧ Bl w2 wz) (fun jv _ _ _ => q - (intOf jv).toNat)
      case atStart => exact ⟨0, d, v, rfl, by omega, by rw [HD.out]; rfl, HX.out, HGB.out, HOW.out, HNE.out, HRI.out, HB.out⟩
      case round =>
        obtain ⟨j, e, u, rfl, hj, hd, hx, hgb, how, hne, hri, hb⟩ := hrel
        have elen := Lib.hid (show (ofN e).length ≤ 192 from by have h3 : k * q ≤ 63 * 3 := Nat.mul_le_mul (by omega) hq4; rw [ofN_len]; omega)
        have ED := Lib.hid hd; have EX := Lib.hid hx; have EGB := Lib.hid hgb; have EOW := Lib.hid how; have EB := Lib.hid hb; have ENE := Lib.hid hne; have ERI := Lib.hid hri
        clear hd hx hgb how hb hne hri
        by_cases hjq : j < q
        · have hjq' : (j : Int) < (q : Int) := by omega
          have dd1 := EB.out.cell HD1.out
          go_upto_if 33 with (fail)
          go_cut [11] (fun v11 wy => ∃ x : Nat, v11 = .int .i64 (x : Int) ∧ x ≤ 65535 ∧ Bl wr wy)
          case first =>
            by_cases hL0 : 0 < L
            · obtain ⟨bv, ov, rfl⟩ := H2.out.addr 0 (by rw [HLL.out]; exact hL0)
              obtain ⟨X, hX⟩ : ∃ X, k * q + j = X := ⟨_, rfl⟩
              have hXb : X ≤ 192 := by
                have h3 : k * q ≤ 63 * 3 := Nat.mul_le_mul (by omega) hq4
                omega
              have m0 : 0 ≤ (k : Int) * (q : Int) := by rw [← Int.natCast_mul]; omega
              have m1 : (k : Int) * (q : Int) + (j : Int) = (X : Int) := by rw [← Int.natCast_mul]; omega
              have hr : X % L < L := Nat.mod_lt _ hL0
              obtain ⟨r, er⟩ : ∃ r, X % L = r := ⟨_, rfl⟩
              rw [er] at hr
              have e1 : (X : Int).tmod (L : Int) = (r : Int) := by rw [Int.tmod_eq_emod_of_nonneg (by omega)]; omega
              have hrv : r < vs.length := by rw [HLL.out]; exact hr
              have c1 := (H2.out.keep EB.out).at r hrv
              have c2 := HV.out _ (List.getElem_mem hrv)
              obtain ⟨x, ex⟩ : ∃ x, vs[r] = x := ⟨_, rfl⟩
              rw [ex] at c1 c2
              obtain ⟨y, rfl⟩ : ∃ y : Nat, x = (y : Int) := ⟨x.toNat, by omega⟩
              have hy : (y : Int) ≤ 65535 := c2.2
              have hL1 : 1 ≤ (L : Int) := by omega
              have hr' : (r : Int) < (L : Int) := by omega
              have e2 : IntKind.i64.wrap ((k : Int) * (q : Int)) = (k : Int) * (q : Int) := IntWalk.i64_in _ (by omega)
              have e3 : IntKind.i64.wrap ((k : Int) * (q : Int) + (j : Int)) = (X : Int) := by rw [m1]; exact IntWalk.i64_in _ (by omega)
              have e4 : IntKind.i64.wrap (y : Int) = (y : Int) := IntWalk.i64_in _ (by omega)
              clear hX er hr m0 m1 ex c2 hrv hXb
              go_wp2_with fail
              go_quiet (fail)
              clear e1 e2 e3 e4
              go_wp2_with fail
              go_meet
              exact ⟨y, rfl, by omega, (Bl.refl wr).drewN nq⟩
            · have hL1 : decide (0 < L) = false := by simpa using hL0
              go_wp2_with fail
              go_meet
              exact ⟨0, rfl, by omega, Bl.refl wr⟩
          case rest =>
            obtain ⟨x, rfl, hx, hbc⟩ := hcut
            have EGB := Lib.hid (EGB.out.keep hbc); have EOW := Lib.hid (EOW.out.keep hbc); have EB := Lib.hid (EB.out.trans hbc); have ERI := Lib.hid (ERI.out.keep hbc)
            have dd2 := EB.out.cell HD2.out
            clear hbc dd1
            go_upto_if 49 with (fail)
            go_cut [11, 12] (fun v11 _ wy => ∃ y : Nat, v11 = .int .i64 (y : Int) ∧ y ≤ 65535 ∧ Bl wc wy)
            case first =>
              cases sm with
              | false =>
                go_wp2_with fail
                go_meet
                exact ⟨x, rfl, hx, Bl.refl _⟩
              | true =>
                have hr : j % n < n := Nat.mod_lt _ (by omega)
                obtain ⟨r, er⟩ : ∃ r, j % n = r := ⟨_, rfl⟩
                rw [er] at hr
                have e1 : (j : Int).tmod (n : Int) = (r : Int) := by rw [Int.tmod_eq_emod_of_nonneg (by omega)]; omega
                have e2 : (j : Int) % (n : Int) = (r : Int) := by omega
                have hrs : r < s.length := by rw [HN.out]; exact hr
                have hri : r < ix.length := by rw [HIX.out]; exact hr
                obtain ⟨bs, os, rfl⟩ := H1.out.addr r (by rw [ofN_len]; exact hrs)
                have c1 := (H1.out.keep EB.out).atN r hrs
                have c2 := ERI.out.cell r (by rw [ofN_len]; exact hri)
                have e3 : (ofN ix)[r]'(by rw [ofN_len]; exact hri) = ((ix[r] : Nat) : Int) := by simp [ofN]
                rw [e3] at c2
                have hlt2 := HBI.out.at r hri hrs
                have hsz := HS.out.at r hrs
                obtain ⟨a, ea⟩ : ∃ a, s[r] = a := ⟨_, rfl⟩
                obtain ⟨b, eb⟩ : ∃ b, ix[r] = b := ⟨_, rfl⟩
                rw [ea] at c1 hlt2 hsz
                rw [eb] at c2 hlt2
                obtain ⟨z, ez⟩ : ∃ z, 60000 * b / (a - 1) = z := ⟨_, rfl⟩
                have hz : z ≤ 60000 := by
                  rw [← ez]
                  apply Nat.div_le_of_le_mul
                  rw [Nat.mul_comm (a - 1)]
                  exact Nat.mul_le_mul_left _ (by omega)
                have f1 : IntKind.i64.wrap (60000 * (b : Int)) = 60000 * (b : Int) := IntWalk.i64_in _ (by omega)
                have f2 : IntKind.i64.wrap ((a : Int) - 1) = (a : Int) - 1 := IntWalk.i64_in _ (by omega)
                have f3 : (60000 * (b : Int)).tdiv ((a : Int) - 1) = (z : Int) := by
                  rw [Int.tdiv_eq_ediv_of_nonneg (by omega), ← ez, show (a : Int) - 1 = ((a - 1 : Nat) : Int) by omega]
                  simp
                obtain ⟨t, et⟩ : ∃ t, x % 5000 = t := ⟨_, rfl⟩
                have ht : t < 5000 := by rw [← et]; exact Nat.mod_lt _ (by omega)
                have f4 : (x : Int).tmod 5000 = (t : Int) := by rw [Int.tmod_eq_emod_of_nonneg (by omega)]; omega
                obtain ⟨zt, ezt⟩ : ∃ m, z + t = m := ⟨_, rfl⟩
                have hzt : zt ≤ 65535 := by omega
                have f5 : (z : Int) + (t : Int) = (zt : Int) := by omega
                have f6 : IntKind.i64.wrap (zt : Int) = (zt : Int) := IntWalk.i64_in _ (by omega)
                have hr' : (r : Int) < (n : Int) := by omega
                have ha1 : 1 ≤ (a : Int) - 1 := by omega
                clear er e3 hr hrs hri hlt2 hsz ea eb ez hz et ht ezt
                go_upto_region 14 with (fail)
                go_quiet (fail)
                clear e1 e2 f1 f2 f3 f4 f5 f6
                go_wp2_with fail
                go_meet
                exact ⟨zt, rfl, hzt, (Bl.refl wc).drewN nq⟩
            case rest =>
              obtain ⟨y, rfl, hy, hbc⟩ := hcut
              have EGB := Lib.hid (EGB.out.keep hbc); have EOW := Lib.hid (EOW.out.keep hbc); have EB := Lib.hid (EB.out.trans hbc); have ERI := Lib.hid (ERI.out.keep hbc)
              have HYX := Lib.hid hy
              clear hbc dd2 hx hy
              obtain ⟨u0, u1, u2, u3⟩ := EGB.out
              have hown := EOW.out
              have hgl := Gb.lt EGB.out
              go_wp2_with (at_builtin; refine wpList_append_lies _ rfl _ _ 22 rfl (g + 1) 3 i0 (.int .i64 0) 1 8 Try.underlying22 hi hz0 hz1 hz2 rfl (by decide) _ _ _ rfl (World.ownsRow.alloc hown _) ⟨_, 0, none⟩ 1 1 [.int .i64 (y : Int)] rfl rfl ?c1 ?c2 (by decide) ?c3 ?c4 ?c5 _ rfl ?_)
              case c1 =>
                intro j u hj
                match j, hj with
                | 0, hj => simp at hj; subst hj; simp [Addr.add]
              case c2 => intro u hu; simp at hu; subst hu; rfl
              case c3 => have := elen.out; unfold maxLen; omega
              case c4 => have := elen.out; omega
              case c5 => simp; omega
              intro g1 cap w1 hown' hgrow hat hlt1
              have hb1 := Bl.new wc (.cells #[.int .i64 (y : Int)] 3)
              have G1 := (EGB.out.keep hb1).grown hgrow (fun k hk => (EOW.out.lt k hk).1)
              have R1 := (ERI.out.keep hb1).grown hgrow (fun k hk => ENE.out k hk)
              have O1 : Ow w1 (g + 1) (.slice (some ⟨g1, 0, none⟩) ((ofN e).length + 1) cap) (ofN (e ++ [y])) := by
                unfold Ow
                rw [ofN_append, show ofN [y] = [(y : Int)] from rfl, ← ints_snoc, List.length_append]
                exact hown'
              have N1 : ∀ r, (Value.slice (some ⟨g1, 0, none⟩) ((ofN e).length + 1) cap).ownBlock = some r → r ≠ gi := fun r hr => by
                have hr' : g1 = r := by simpa [Value.ownBlock] using hr
                subst hr'
                rcases hat with h | h
                · exact ENE.out _ h
                · have := ERI.out.lt
                  first | omega | (simp at h; omega)
              have B1 : Bl w2 w1 := (EB.out.trans hb1).grown hgrow (by have := Below.size (EB.out.trans hb1); exact this) (fun k hk => by have := (EOW.out.lt k hk).1; have := HSZ.out; omega)
              obtain ⟨t0, t1, t2, t3⟩ := G1
              have HG1 := Lib.hid (Gb.put ⟨t0, t1, t2, t3⟩ (.slice (some ⟨g1, 0, none⟩) ((ofN e).length + 1) cap))
              have HR1 := Lib.hid (R1.far g 2 (.slice (some ⟨g1, 0, none⟩) ((ofN e).length + 1) cap) HGG.out)
              have HO1 := Lib.hid (O1.put (g := g) (i := 2) (u := .slice (some ⟨g1, 0, none⟩) ((ofN e).length + 1) cap) (Nat.lt_succ_self g))
              have HN1 := Lib.hid N1
              have HB1 := Lib.hid (show Bl w2 (w1.setCell ⟨g, 2, none⟩ (.slice (some ⟨g1, 0, none⟩) ((ofN e).length + 1) cap)) from Below.setCell B1 (by rw [HSZ.out]; exact Nat.le_refl _) _)
              clear hb1 R1 O1 N1 B1 hown hown' hgrow hat u0 u1 u2 u3
              go_wp2_with fail
              go_roundw
              case rel => exact ⟨j + 1, e ++ [y], _, by go_num, by omega, by rw [List.length_append, ED.out]; simp; omega, fun x hx => by rcases List.mem_append.1 hx with h | h; exact EX.out x h; simp at h; subst h; exact HYX.out, HG1.out, HO1.out, HN1.out, HR1.out, HB1.out⟩
              case measure => simp [intOf]; omega
        · obtain rfl : j = q := by omega
          go_wp2_with fail
          go_roundw
          case rel => exact ⟨k + 1, e, u, by go_num, by omega, by rw [ED.out, Nat.add_mul, Nat.one_mul], EX.out, EGB.out, EOW.out, EB.out⟩
          case measure => simp [intOf]; omega
    · obtain rfl : k = N := by omega
      have hN1 : 1 ≤ k := by rw [← HP.out]; exact Gr.prod_pos fun n hn => by have := HS.out.2 n hn; omega
      have hpos : 0 < d.length := by rw [hd]; exact Nat.mul_pos (by omega) (by omega)
      have hdb : d.length ≤ 64 * 3 := by rw [hd]; exact Nat.mul_le_mul (by omega) hq4
      obtain ⟨gd, cap, hv, hcap, hgd, hrow⟩ := Rw.of_own (n := (ofN d).length) how rfl (by rw [ofN_len]; exact hpos)
      rw [ofN_len] at hv hcap
      subst hv
      have HGR : GrOk s q d := ⟨HS.out, by rw [HN.out]; omega, hq, by omega, by rw [HP.out, hd, Nat.mul_comm], by omega, hx⟩
      obtain ⟨x0, x1, x2, x3⟩ := hgb
      have HB := Lib.hid (HB2.out.trans hb)
      have HROW := Lib.hid hrow
      have H6 := Lib.hid (HG6b.out.keep hb)
      obtain ⟨y0, y1, y2, y3⟩ := H6.out
      have f0 := y3 0; have f1 := y3 1; have f2 := y3 2
      have HGRH := Lib.hid HGR
      have HCAP := Lib.hid hcap
      have HGD := Lib.hid (show w.heap.size ≤ gd by have := HG.out; omega)
      have HGDn := Lib.hid (show g6 ≠ gd by have := HG.out; have := HG6.out; omega)
      have PTT := PT _ (H1.out.keep hb)
      clear hrow hb HGR hx hpos hdb hcap hgd hd how y3
      go_wp2_with fail
      refine PTT.mono ?_
      rintro e w' ⟨rfl, rfl⟩
      clear PTT
      go_wp2_with fail
      have ST := store_three y0 y1 y2 (.slice As n cs) (.int .i64 (q : Int)) (.slice (some ⟨gd, 0, none⟩) d.length cap)
      refine bodyPost_ret (v := .agg #[.slice As n cs, .int .i64 (q : Int), .slice (some ⟨gd, 0, none⟩) d.length cap]) (by obtain ⟨s0, s1, s2⟩ := ST; simp [results, Try.results52, go_sem, s0, s1, s2]) rfl ⟨gd, cap, d, rfl, HGRH.out, HCAP.out, ?_, HGD.out, ?_⟩
      · exact (((HROW.out.far g6 0 _ HGDn.out).far g6 1 _ HGDn.out).far g6 2 _ HGDn.out).ls
      · have hle : w.heap.size ≤ g6 := by have := HG6.out; omega
        exact Below.setCell (Below.setCell (Below.setCell HB.out hle _) hle _) hle _
end Go.Proofs.Ytjinpngojdefiaa
