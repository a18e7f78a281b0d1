/- Contracts of grids: looks at a grid, Place and At. -/
import Derived.Test.YtjinpngojdefiaaGrE
namespace Go.Proofs.Ytjinpngojdefiaa
open Go.RowKit
set_option maxRecDepth 20000
set_option maxHeartbeats 3200000

/-- An index with zeros behind it is four numbers. -/
theorem pad_four (ix : List Nat) (h : ix.length ≤ 4) : ∃ a b c d : Int, ofN (pad ix) = [a, b, c, d] := list_four _ (by rw [ofN_len]; exact pad_len ix h)

theorem looked_place (As : Option Addr) (bd od cs cd : Nat) (Ai : Option Addr) (ci : Nat) (s : List Nat) (q : Nat) (d ix : List Nat) (w : World) (hg : GrOk s q d) (_ : d.length ≤ cd) (hb : Gr.below ix s) (h1 : Ls w .i64 As (ofN s)) (h2 : Ls w .i64 (some ⟨bd, od, none⟩) (ofN d)) (h3 : Ls w .i64 Ai (ofN ix)) :
    Calls Try.prog 40 #[.agg #[.slice As s.length cs, .int .i64 (q : Int), .slice (some ⟨bd, od, none⟩) d.length cd], .slice Ai ix.length ci, .func (.func 41) #[] #[]] w fun e w' => e = .returned (.tuple #[.int .i64 ((Gr.plc s ix 0 * q : Nat) : Int), .int .i64 0]) ∧ Bl w w' := by
  have hl : ix.length = s.length := hb.length
  have h4 : ix.length ≤ 4 := by rw [hl]; exact hg.sz.1
  have CH := fun w h1 h2 => check_yes As (some ⟨bd, od, none⟩) cs cd s q d w hg h1 h2
  have SP := fun w h1 h3 => spot_yes As (some ⟨bd, od, none⟩) Ai cs cd d.length ci s q ix w hg.sz hb h1 h3
  have PL := fun w h => place_ok As (some ⟨bd, od, none⟩) cs cd d.length s q (pad ix) w hg.sz hg.q4 (pad_len ix h4) (by rw [show (pad ix).take s.length = ix from by rw [← hl]; exact pad_take ix]; exact hb) h
  have et : (pad ix).take s.length = ix := by rw [← hl]; exact pad_take ix
  rw [et] at PL
  clear et
  obtain ⟨p, hp⟩ : ∃ p, Gr.plc s ix 0 * q = p := ⟨_, rfl⟩
  rw [hp] at PL ⊢
  clear hp
  obtain ⟨m, hmm⟩ : ∃ m, d.length = m := ⟨_, rfl⟩
  obtain ⟨n, hn⟩ : ∃ n, s.length = n := ⟨_, rfl⟩
  obtain ⟨k, hk⟩ : ∃ k, ix.length = k := ⟨_, rfl⟩
  obtain ⟨a0, a1, a2, a3, e4⟩ := pad_four ix h4
  rw [hmm, hn] at CH SP PL
  rw [hk] at SP
  rw [e4] at SP PL
  rw [hmm, hn, hk]
  simp only [ints, List.map_cons, List.map_nil] at SP PL
  have b0 := Bl.new w (.cells #[.slice As n cs, .int .i64 (q : Int), .slice (some ⟨bd, od, none⟩) m cd] 24)
  have x0 := c_new w #[.slice As n cs, .int .i64 (q : Int), .slice (some ⟨bd, od, none⟩) m cd] 24 0
  have x1 := c_new w #[.slice As n cs, .int .i64 (q : Int), .slice (some ⟨bd, od, none⟩) m cd] 24 1
  have x2 := c_new w #[.slice As n cs, .int .i64 (q : Int), .slice (some ⟨bd, od, none⟩) m cd] 24 2
  simp only [List.getElem?_toArray, List.getElem?_cons_zero, List.getElem?_cons_succ] at x0 x1 x2
  have H1 := Lib.hid h1; have H2 := Lib.hid h2; have H3 := Lib.hid h3
  clear hl h4 hmm hn hk e4 hg hb h1 h2 h3
  go_enter Try.func40, Try.ntmps40
  go_wp2_with fail
  generalize w.alloc (.cells #[.slice As n cs, .int .i64 (q : Int), .slice (some ⟨bd, od, none⟩) m cd] 24) = w0 at b0 x0 x1 x2 ⊢
  refine (CH _ (H1.out.keep b0) (H2.out.keep b0)).mono ?_
  rintro e w1 ⟨rfl, hb1⟩
  have y0 := hb1.cell x0; have y1 := hb1.cell x1; have y2 := hb1.cell x2
  have B1 := Lib.hid (b0.trans hb1)
  clear x0 x1 x2 b0 hb1 CH
  go_wp2_with fail
  have b2 := Bl.new w1 (.cells #[.slice As n cs, .int .i64 (q : Int), .slice (some ⟨bd, od, none⟩) m cd] 74)
  have x0 := c_new w1 #[.slice As n cs, .int .i64 (q : Int), .slice (some ⟨bd, od, none⟩) m cd] 74 0
  have x1 := c_new w1 #[.slice As n cs, .int .i64 (q : Int), .slice (some ⟨bd, od, none⟩) m cd] 74 1
  have x2 := c_new w1 #[.slice As n cs, .int .i64 (q : Int), .slice (some ⟨bd, od, none⟩) m cd] 74 2
  simp only [List.getElem?_toArray, List.getElem?_cons_zero, List.getElem?_cons_succ] at x0 x1 x2
  generalize w1.alloc (.cells #[.slice As n cs, .int .i64 (q : Int), .slice (some ⟨bd, od, none⟩) m cd] 74) = w2 at b2 x0 x1 x2 ⊢
  refine (SP _ ((H1.out.keep B1.out).keep b2) ((H3.out.keep B1.out).keep b2)).mono ?_
  rintro e w3 ⟨rfl, hb3⟩
  have B3 := Lib.hid ((B1.out.trans b2).trans hb3)
  have z0 := hb3.cell x0; have z1 := hb3.cell x1; have z2 := hb3.cell x2
  have u0 := (Bl.new w3 (.cells #[.int .i64 a0, .int .i64 a1, .int .i64 a2, .int .i64 a3] 79)).cell z0
  have u1 := (Bl.new w3 (.cells #[.int .i64 a0, .int .i64 a1, .int .i64 a2, .int .i64 a3] 79)).cell z1
  have u2 := (Bl.new w3 (.cells #[.int .i64 a0, .int .i64 a1, .int .i64 a2, .int .i64 a3] 79)).cell z2
  clear x0 x1 x2 y0 y1 y2 b2 hb3 SP B1 z0 z1 z2
  go_wp2_with fail
  refine (PL _ ((H1.out.keep B3.out).keep (Bl.new _ _))).mono ?_
  rintro e w4 ⟨rfl, hb4⟩
  have B4 := Lib.hid ((B3.out.trans (Bl.new _ _)).trans hb4)
  clear hb4
  go_wp2_with fail
  go_ret2
  exact ⟨rfl, B4.out⟩

theorem looked_at (As : Option Addr) (bd od cs cd : Nat) (Ai : Option Addr) (ci : Nat) (s : List Nat) (q : Nat) (d ix : List Nat) (w : World) (hg : GrOk s q d) (hcd : d.length ≤ cd) (hb : Gr.below ix s) (h1 : Ls w .i64 As (ofN s)) (h2 : Ls w .i64 (some ⟨bd, od, none⟩) (ofN d)) (h3 : Ls w .i64 Ai (ofN ix)) :
    Calls Try.prog 43 #[.agg #[.slice As s.length cs, .int .i64 (q : Int), .slice (some ⟨bd, od, none⟩) d.length cd], .slice Ai ix.length ci, .func (.func 44) #[] #[]] w fun e w' => ∃ g c, e = .returned (.tuple #[.slice (some ⟨g, 0, none⟩) q c, .int .i64 0]) ∧ q ≤ c ∧ w.heap.size ≤ g ∧ Rw w' g (ofN (seg d (Gr.plc s ix 0 * q) q)) ∧ Bl w w' := by
  have hl : ix.length = s.length := hb.length
  have h4 : ix.length ≤ 4 := by rw [hl]; exact hg.sz.1
  have CH := fun w h1 h2 => check_yes As (some ⟨bd, od, none⟩) cs cd s q d w hg h1 h2
  have SP := fun w h1 h3 => spot_yes As (some ⟨bd, od, none⟩) Ai cs cd d.length ci s q ix w hg.sz hb h1 h3
  have PL := fun w h h' => at1_ok As bd od cs cd s q d ix w hg hcd hb h h'
  obtain ⟨sg, hsg⟩ : ∃ sg, seg d (Gr.plc s ix 0 * q) q = sg := ⟨_, rfl⟩
  rw [hsg] at PL ⊢
  clear hsg
  obtain ⟨m, hmm⟩ : ∃ m, d.length = m := ⟨_, rfl⟩
  obtain ⟨n, hn⟩ : ∃ n, s.length = n := ⟨_, rfl⟩
  obtain ⟨k, hk⟩ : ∃ k, ix.length = k := ⟨_, rfl⟩
  obtain ⟨a0, a1, a2, a3, e4⟩ := pad_four ix h4
  rw [hmm, hn] at CH SP PL
  rw [hk] at SP
  rw [e4] at SP PL
  rw [hmm, hn, hk]
  simp only [ints, List.map_cons, List.map_nil] at SP PL
  have b0 := Bl.new w (.cells #[.slice As n cs, .int .i64 (q : Int), .slice (some ⟨bd, od, none⟩) m cd] 24)
  have x0 := c_new w #[.slice As n cs, .int .i64 (q : Int), .slice (some ⟨bd, od, none⟩) m cd] 24 0
  have x1 := c_new w #[.slice As n cs, .int .i64 (q : Int), .slice (some ⟨bd, od, none⟩) m cd] 24 1
  have x2 := c_new w #[.slice As n cs, .int .i64 (q : Int), .slice (some ⟨bd, od, none⟩) m cd] 24 2
  simp only [List.getElem?_toArray, List.getElem?_cons_zero, List.getElem?_cons_succ] at x0 x1 x2
  have H1 := Lib.hid h1; have H2 := Lib.hid h2; have H3 := Lib.hid h3
  clear hl h4 hmm hn hk e4 hg hb hcd h1 h2 h3
  go_enter Try.func43, Try.ntmps43
  go_wp2_with fail
  generalize w.alloc (.cells #[.slice As n cs, .int .i64 (q : Int), .slice (some ⟨bd, od, none⟩) m cd] 24) = w0 at b0 x0 x1 x2 ⊢
  refine (CH _ (H1.out.keep b0) (H2.out.keep b0)).mono ?_
  rintro e w1 ⟨rfl, hb1⟩
  have y0 := hb1.cell x0; have y1 := hb1.cell x1; have y2 := hb1.cell x2
  have B1 := Lib.hid (b0.trans hb1)
  clear x0 x1 x2 b0 hb1 CH
  go_wp2_with fail
  have b2 := Bl.new w1 (.cells #[.slice As n cs, .int .i64 (q : Int), .slice (some ⟨bd, od, none⟩) m cd] 74)
  have x0 := c_new w1 #[.slice As n cs, .int .i64 (q : Int), .slice (some ⟨bd, od, none⟩) m cd] 74 0
  have x1 := c_new w1 #[.slice As n cs, .int .i64 (q : Int), .slice (some ⟨bd, od, none⟩) m cd] 74 1
  have x2 := c_new w1 #[.slice As n cs, .int .i64 (q : Int), .slice (some ⟨bd, od, none⟩) m cd] 74 2
  simp only [List.getElem?_toArray, List.getElem?_cons_zero, List.getElem?_cons_succ] at x0 x1 x2
  generalize w1.alloc (.cells #[.slice As n cs, .int .i64 (q : Int), .slice (some ⟨bd, od, none⟩) m cd] 74) = w2 at b2 x0 x1 x2 ⊢
  refine (SP _ ((H1.out.keep B1.out).keep b2) ((H3.out.keep B1.out).keep b2)).mono ?_
  rintro e w3 ⟨rfl, hb3⟩
  have B3 := Lib.hid ((B1.out.trans b2).trans hb3)
  have z0 := hb3.cell x0; have z1 := hb3.cell x1; have z2 := hb3.cell x2
  have u0 := (Bl.new w3 (.cells #[.int .i64 a0, .int .i64 a1, .int .i64 a2, .int .i64 a3] 79)).cell z0
  have u1 := (Bl.new w3 (.cells #[.int .i64 a0, .int .i64 a1, .int .i64 a2, .int .i64 a3] 79)).cell z1
  have u2 := (Bl.new w3 (.cells #[.int .i64 a0, .int .i64 a1, .int .i64 a2, .int .i64 a3] 79)).cell z2
  clear x0 x1 x2 y0 y1 y2 b2 hb3 SP B1 z0 z1 z2
  go_wp2_with fail
  refine (PL _ ((H1.out.keep B3.out).keep (Bl.new _ _)) ((H2.out.keep B3.out).keep (Bl.new _ _))).mono ?_
  rintro e w4 ⟨g, c, rfl, hc, hgl, hr, hb4⟩
  have B4 := Lib.hid ((B3.out.trans (Bl.new _ _)).trans hb4)
  have HG := Lib.hid (Nat.le_trans (Below.size (B3.out.trans (Bl.new _ _))) hgl)
  clear hb4 hgl
  go_wp2_with fail
  go_ret2
  exact ⟨g, c, rfl, hc, HG.out, hr, B4.out⟩

theorem Place_yes (As : Option Addr) (bd od cs cd : Nat) (Ai : Option Addr) (ci : Nat) (s : List Nat) (q : Nat) (d ix : List Nat) (w : World) (hg : GrOk s q d) (hcd : d.length ≤ cd) (hb : Gr.below ix s) (h1 : Ls w .i64 As (ofN s)) (h2 : Ls w .i64 (some ⟨bd, od, none⟩) (ofN d)) (h3 : Ls w .i64 Ai (ofN ix)) :
    Calls Try.prog 20 #[.agg #[.slice As s.length cs, .int .i64 (q : Int), .slice (some ⟨bd, od, none⟩) d.length cd], .slice Ai ix.length ci] w fun e w' => e = .returned (.tuple #[.int .i64 ((Gr.plc s ix 0 * q : Nat) : Int), .int .i64 0]) ∧ Bl w w' := by
  have PL := fun w h1 h2 h3 => looked_place As bd od cs cd Ai ci s q d ix w hg hcd hb h1 h2 h3
  obtain ⟨m, hmm⟩ : ∃ m, d.length = m := ⟨_, rfl⟩
  obtain ⟨n, hn⟩ : ∃ n, s.length = n := ⟨_, rfl⟩
  obtain ⟨k, hk⟩ : ∃ k, ix.length = k := ⟨_, rfl⟩
  rw [hmm, hn, hk] at PL ⊢
  have b0 := Bl.new w (.cells #[.slice As n cs, .int .i64 (q : Int), .slice (some ⟨bd, od, none⟩) m cd] 24)
  have x0 := c_new w #[.slice As n cs, .int .i64 (q : Int), .slice (some ⟨bd, od, none⟩) m cd] 24 0
  have x1 := c_new w #[.slice As n cs, .int .i64 (q : Int), .slice (some ⟨bd, od, none⟩) m cd] 24 1
  have x2 := c_new w #[.slice As n cs, .int .i64 (q : Int), .slice (some ⟨bd, od, none⟩) m cd] 24 2
  simp only [List.getElem?_toArray, List.getElem?_cons_zero, List.getElem?_cons_succ] at x0 x1 x2
  have H1 := Lib.hid h1; have H2 := Lib.hid h2; have H3 := Lib.hid h3
  clear hmm hn hk hg hb hcd h1 h2 h3
  go_enter Try.func20, Try.ntmps20
  go_wp2_with fail
  generalize w.alloc (.cells #[.slice As n cs, .int .i64 (q : Int), .slice (some ⟨bd, od, none⟩) m cd] 24) = w0 at b0 x0 x1 x2 ⊢
  refine (PL _ (H1.out.keep b0) (H2.out.keep b0) (H3.out.keep b0)).mono ?_
  rintro e w1 ⟨rfl, hb1⟩
  have B1 := Lib.hid (b0.trans hb1)
  clear hb1
  obtain ⟨p, hp⟩ : ∃ p, Gr.plc s ix 0 * q = p := ⟨_, rfl⟩
  rw [hp]
  have HP := Lib.hid hp
  clear hp
  go_wp2_with fail
  go_ret2
  exact ⟨by rw [HP.out]; rfl, B1.out⟩

theorem At_yes (As : Option Addr) (bd od cs cd : Nat) (Ai : Option Addr) (ci : Nat) (s : List Nat) (q : Nat) (d ix : List Nat) (w : World) (hg : GrOk s q d) (hcd : d.length ≤ cd) (hb : Gr.below ix s) (h1 : Ls w .i64 As (ofN s)) (h2 : Ls w .i64 (some ⟨bd, od, none⟩) (ofN d)) (h3 : Ls w .i64 Ai (ofN ix)) :
    Calls Try.prog 22 #[.agg #[.slice As s.length cs, .int .i64 (q : Int), .slice (some ⟨bd, od, none⟩) d.length cd], .slice Ai ix.length ci] w fun e w' => ∃ g c, e = .returned (.tuple #[.slice (some ⟨g, 0, none⟩) q c, .int .i64 0]) ∧ q ≤ c ∧ w.heap.size ≤ g ∧ Rw w' g (ofN (seg d (Gr.plc s ix 0 * q) q)) ∧ Bl w w' := by
  have PL := fun w h1 h2 h3 => looked_at As bd od cs cd Ai ci s q d ix w hg hcd hb h1 h2 h3
  obtain ⟨m, hmm⟩ : ∃ m, d.length = m := ⟨_, rfl⟩
  obtain ⟨n, hn⟩ : ∃ n, s.length = n := ⟨_, rfl⟩
  obtain ⟨k, hk⟩ : ∃ k, ix.length = k := ⟨_, rfl⟩
  rw [hmm, hn, hk] at PL ⊢
  have b0 := Bl.new w (.cells #[.slice As n cs, .int .i64 (q : Int), .slice (some ⟨bd, od, none⟩) m cd] 24)
  have x0 := c_new w #[.slice As n cs, .int .i64 (q : Int), .slice (some ⟨bd, od, none⟩) m cd] 24 0
  have x1 := c_new w #[.slice As n cs, .int .i64 (q : Int), .slice (some ⟨bd, od, none⟩) m cd] 24 1
  have x2 := c_new w #[.slice As n cs, .int .i64 (q : Int), .slice (some ⟨bd, od, none⟩) m cd] 24 2
  simp only [List.getElem?_toArray, List.getElem?_cons_zero, List.getElem?_cons_succ] at x0 x1 x2
  have H1 := Lib.hid h1; have H2 := Lib.hid h2; have H3 := Lib.hid h3
  clear hmm hn hk hg hb hcd h1 h2 h3
  go_enter Try.func22, Try.ntmps22
  go_wp2_with fail
  generalize w.alloc (.cells #[.slice As n cs, .int .i64 (q : Int), .slice (some ⟨bd, od, none⟩) m cd] 24) = w0 at b0 x0 x1 x2 ⊢
  refine (PL _ (H1.out.keep b0) (H2.out.keep b0) (H3.out.keep b0)).mono ?_
  rintro e w1 ⟨g, c, rfl, hc, hgl, hr, hb1⟩
  have B1 := Lib.hid (b0.trans hb1)
  have HG := Lib.hid (Nat.le_trans (Below.size b0) hgl)
  clear hb1 hgl
  go_wp2_with fail
  go_ret2
  exact ⟨g, c, rfl, hc, HG.out, hr, B1.out⟩
end Go.Proofs.Ytjinpngojdefiaa
