/- Contracts of grids: Place and At of any grid and any list. -/
import Derived.Test.YtjinpngojdefiaaGrK
namespace Go.Proofs.Ytjinpngojdefiaa
open Go.RowKit
set_option maxRecDepth 20000
set_option maxHeartbeats 3200000

theorem lookp_bad (As Ad Ai : Option Addr) (cs cd ci k : Nat) (F : Value) (sl : List Int) (q : Int) (dl : List Int) (w : World) (hl1 : sl.length ≤ 1000000) (hl2 : dl.length ≤ 1000000) (h1 : Ls w .i64 As sl) (h2 : Ls w .i64 Ad dl) (hno : ¬ okG sl q dl) :
    Calls Try.prog 40 #[.agg #[.slice As sl.length cs, .int .i64 q, .slice Ad dl.length cd], .slice Ai k ci, F] w fun e w' => e = .returned (.tuple #[.int .i64 0, .int .i64 100]) ∧ Bl w w' := by
  have CH := fun w h1 h2 => check_any As Ad cs cd sl q dl w hl1 hl2 h1 h2
  obtain ⟨m, hmm⟩ : ∃ m, dl.length = m := ⟨_, rfl⟩
  obtain ⟨n, hn⟩ : ∃ n, sl.length = n := ⟨_, rfl⟩
  rw [hmm, hn] at CH
  rw [hmm, hn]
  have HNO := Lib.hid hno
  have b0 := Bl.new w (.cells #[.slice As n cs, .int .i64 q, .slice Ad m cd] 24)
  have x0 := c_new w #[.slice As n cs, .int .i64 q, .slice Ad m cd] 24 0
  have x1 := c_new w #[.slice As n cs, .int .i64 q, .slice Ad m cd] 24 1
  have x2 := c_new w #[.slice As n cs, .int .i64 q, .slice Ad m cd] 24 2
  simp only [List.getElem?_toArray, List.getElem?_cons_zero, List.getElem?_cons_succ] at x0 x1 x2
  have H1 := Lib.hid h1; have H2 := Lib.hid h2
  clear hmm hn hl1 hl2 h1 h2 hno
  go_enter Try.func40, Try.ntmps40
  go_wp2_with fail
  generalize w.alloc (.cells #[.slice As n cs, .int .i64 q, .slice Ad m cd] 24) = w0 at b0 x0 x1 x2 ⊢
  refine (CH _ (H1.out.keep b0) (H2.out.keep b0)).mono ?_
  rintro e w1 ⟨c, rfl, hc, hb1⟩
  rcases hc with ⟨_, hok⟩ | ⟨rfl, _⟩
  · exact absurd hok HNO.out
  have B1 := Lib.hid (b0.trans hb1)
  clear x0 x1 x2 b0 hb1 CH
  go_wp2_with fail
  go_ret2
  exact ⟨rfl, B1.out⟩
theorem lookp_noix (As : Option Addr) (bd od cs cd : Nat) (Ai : Option Addr) (ci : Nat) (F : Value) (s : List Nat) (q : Nat) (d : List Nat) (il : List Int) (w : World) (hg : GrOk s q d) (hil : il.length ≤ 1000000) (hno : ¬ isIx s il) (h1 : Ls w .i64 As (ofN s)) (h2 : Ls w .i64 (some ⟨bd, od, none⟩) (ofN d)) (h3 : Ls w .i64 Ai il) :
    Calls Try.prog 40 #[.agg #[.slice As s.length cs, .int .i64 (q : Int), .slice (some ⟨bd, od, none⟩) d.length cd], .slice Ai il.length ci, F] w fun e w' => e = .returned (.tuple #[.int .i64 0, .int .i64 2]) ∧ Bl w w' := by
  have CH := fun w h1 h2 => check_yes As (some ⟨bd, od, none⟩) cs cd s q d w hg h1 h2
  have SP := fun w h1 h3 => spot_no As (some ⟨bd, od, none⟩) Ai cs cd d.length ci s q il w hg.sz hil hno h1 h3
  obtain ⟨m, hmm⟩ : ∃ m, d.length = m := ⟨_, rfl⟩
  obtain ⟨n, hn⟩ : ∃ n, s.length = n := ⟨_, rfl⟩
  obtain ⟨k, hk⟩ : ∃ k, il.length = k := ⟨_, rfl⟩
  rw [hmm, hn] at CH SP
  rw [hk] at SP
  rw [hmm, hn, hk]
  have b0 := Bl.new w (.cells #[.slice As n cs, .int .i64 (q : Int), .slice (some ⟨bd, od, none⟩) m cd] 24)
  have x0 := c_new w #[.slice As n cs, .int .i64 (q : Int), .slice (some ⟨bd, od, none⟩) m cd] 24 0
  have x1 := c_new w #[.slice As n cs, .int .i64 (q : Int), .slice (some ⟨bd, od, none⟩) m cd] 24 1
  have x2 := c_new w #[.slice As n cs, .int .i64 (q : Int), .slice (some ⟨bd, od, none⟩) m cd] 24 2
  simp only [List.getElem?_toArray, List.getElem?_cons_zero, List.getElem?_cons_succ] at x0 x1 x2
  have H1 := Lib.hid h1; have H2 := Lib.hid h2; have H3 := Lib.hid h3
  clear hmm hn hk hg hno hil h1 h2 h3
  go_enter Try.func40, Try.ntmps40
  go_wp2_with fail
  generalize w.alloc (.cells #[.slice As n cs, .int .i64 (q : Int), .slice (some ⟨bd, od, none⟩) m cd] 24) = w0 at b0 x0 x1 x2 ⊢
  refine (CH _ (H1.out.keep b0) (H2.out.keep b0)).mono ?_
  rintro e w1 ⟨rfl, hb1⟩
  have y0 := hb1.cell x0; have y1 := hb1.cell x1; have y2 := hb1.cell x2
  have B1 := Lib.hid (b0.trans hb1)
  clear x0 x1 x2 b0 hb1 CH
  go_wp2_with fail
  have b2 := Bl.new w1 (.cells #[.slice As n cs, .int .i64 (q : Int), .slice (some ⟨bd, od, none⟩) m cd] 74)
  have x0 := c_new w1 #[.slice As n cs, .int .i64 (q : Int), .slice (some ⟨bd, od, none⟩) m cd] 74 0
  have x1 := c_new w1 #[.slice As n cs, .int .i64 (q : Int), .slice (some ⟨bd, od, none⟩) m cd] 74 1
  have x2 := c_new w1 #[.slice As n cs, .int .i64 (q : Int), .slice (some ⟨bd, od, none⟩) m cd] 74 2
  simp only [List.getElem?_toArray, List.getElem?_cons_zero, List.getElem?_cons_succ] at x0 x1 x2
  generalize w1.alloc (.cells #[.slice As n cs, .int .i64 (q : Int), .slice (some ⟨bd, od, none⟩) m cd] 74) = w2 at b2 x0 x1 x2 ⊢
  refine (SP _ ((H1.out.keep B1.out).keep b2) ((H3.out.keep B1.out).keep b2)).mono ?_
  rintro e w3 ⟨rfl, hb3⟩
  have B3 := Lib.hid ((B1.out.trans b2).trans hb3)
  clear x0 x1 x2 y0 y1 y2 b2 hb3 SP B1
  go_wp2_with fail
  go_ret2
  exact ⟨rfl, B3.out.trans (Bl.new _ _)⟩

theorem looka_bad (As Ad Ai : Option Addr) (cs cd ci k : Nat) (F : Value) (sl : List Int) (q : Int) (dl : List Int) (w : World) (hl1 : sl.length ≤ 1000000) (hl2 : dl.length ≤ 1000000) (h1 : Ls w .i64 As sl) (h2 : Ls w .i64 Ad dl) (hno : ¬ okG sl q dl) :
    Calls Try.prog 43 #[.agg #[.slice As sl.length cs, .int .i64 q, .slice Ad dl.length cd], .slice Ai k ci, F] w fun e w' => e = .returned (.tuple #[.slice none 0 0, .int .i64 100]) ∧ Bl w w' := by
  have CH := fun w h1 h2 => check_any As Ad cs cd sl q dl w hl1 hl2 h1 h2
  obtain ⟨m, hmm⟩ : ∃ m, dl.length = m := ⟨_, rfl⟩
  obtain ⟨n, hn⟩ : ∃ n, sl.length = n := ⟨_, rfl⟩
  rw [hmm, hn] at CH
  rw [hmm, hn]
  have HNO := Lib.hid hno
  have b0 := Bl.new w (.cells #[.slice As n cs, .int .i64 q, .slice Ad m cd] 24)
  have x0 := c_new w #[.slice As n cs, .int .i64 q, .slice Ad m cd] 24 0
  have x1 := c_new w #[.slice As n cs, .int .i64 q, .slice Ad m cd] 24 1
  have x2 := c_new w #[.slice As n cs, .int .i64 q, .slice Ad m cd] 24 2
  simp only [List.getElem?_toArray, List.getElem?_cons_zero, List.getElem?_cons_succ] at x0 x1 x2
  have H1 := Lib.hid h1; have H2 := Lib.hid h2
  clear hmm hn hl1 hl2 h1 h2 hno
  go_enter Try.func43, Try.ntmps43
  go_wp2_with fail
  generalize w.alloc (.cells #[.slice As n cs, .int .i64 q, .slice Ad m cd] 24) = w0 at b0 x0 x1 x2 ⊢
  refine (CH _ (H1.out.keep b0) (H2.out.keep b0)).mono ?_
  rintro e w1 ⟨c, rfl, hc, hb1⟩
  rcases hc with ⟨_, hok⟩ | ⟨rfl, _⟩
  · exact absurd hok HNO.out
  have B1 := Lib.hid (b0.trans hb1)
  clear x0 x1 x2 b0 hb1 CH
  go_wp2_with fail
  go_ret2
  exact ⟨rfl, B1.out⟩
theorem looka_noix (As : Option Addr) (bd od cs cd : Nat) (Ai : Option Addr) (ci : Nat) (F : Value) (s : List Nat) (q : Nat) (d : List Nat) (il : List Int) (w : World) (hg : GrOk s q d) (hil : il.length ≤ 1000000) (hno : ¬ isIx s il) (h1 : Ls w .i64 As (ofN s)) (h2 : Ls w .i64 (some ⟨bd, od, none⟩) (ofN d)) (h3 : Ls w .i64 Ai il) :
    Calls Try.prog 43 #[.agg #[.slice As s.length cs, .int .i64 (q : Int), .slice (some ⟨bd, od, none⟩) d.length cd], .slice Ai il.length ci, F] w fun e w' => e = .returned (.tuple #[.slice none 0 0, .int .i64 2]) ∧ Bl w w' := by
  have CH := fun w h1 h2 => check_yes As (some ⟨bd, od, none⟩) cs cd s q d w hg h1 h2
  have SP := fun w h1 h3 => spot_no As (some ⟨bd, od, none⟩) Ai cs cd d.length ci s q il w hg.sz hil hno h1 h3
  obtain ⟨m, hmm⟩ : ∃ m, d.length = m := ⟨_, rfl⟩
  obtain ⟨n, hn⟩ : ∃ n, s.length = n := ⟨_, rfl⟩
  obtain ⟨k, hk⟩ : ∃ k, il.length = k := ⟨_, rfl⟩
  rw [hmm, hn] at CH SP
  rw [hk] at SP
  rw [hmm, hn, hk]
  have b0 := Bl.new w (.cells #[.slice As n cs, .int .i64 (q : Int), .slice (some ⟨bd, od, none⟩) m cd] 24)
  have x0 := c_new w #[.slice As n cs, .int .i64 (q : Int), .slice (some ⟨bd, od, none⟩) m cd] 24 0
  have x1 := c_new w #[.slice As n cs, .int .i64 (q : Int), .slice (some ⟨bd, od, none⟩) m cd] 24 1
  have x2 := c_new w #[.slice As n cs, .int .i64 (q : Int), .slice (some ⟨bd, od, none⟩) m cd] 24 2
  simp only [List.getElem?_toArray, List.getElem?_cons_zero, List.getElem?_cons_succ] at x0 x1 x2
  have H1 := Lib.hid h1; have H2 := Lib.hid h2; have H3 := Lib.hid h3
  clear hmm hn hk hg hno hil h1 h2 h3
  go_enter Try.func43, Try.ntmps43
  go_wp2_with fail
  generalize w.alloc (.cells #[.slice As n cs, .int .i64 (q : Int), .slice (some ⟨bd, od, none⟩) m cd] 24) = w0 at b0 x0 x1 x2 ⊢
  refine (CH _ (H1.out.keep b0) (H2.out.keep b0)).mono ?_
  rintro e w1 ⟨rfl, hb1⟩
  have y0 := hb1.cell x0; have y1 := hb1.cell x1; have y2 := hb1.cell x2
  have B1 := Lib.hid (b0.trans hb1)
  clear x0 x1 x2 b0 hb1 CH
  go_wp2_with fail
  have b2 := Bl.new w1 (.cells #[.slice As n cs, .int .i64 (q : Int), .slice (some ⟨bd, od, none⟩) m cd] 74)
  have x0 := c_new w1 #[.slice As n cs, .int .i64 (q : Int), .slice (some ⟨bd, od, none⟩) m cd] 74 0
  have x1 := c_new w1 #[.slice As n cs, .int .i64 (q : Int), .slice (some ⟨bd, od, none⟩) m cd] 74 1
  have x2 := c_new w1 #[.slice As n cs, .int .i64 (q : Int), .slice (some ⟨bd, od, none⟩) m cd] 74 2
  simp only [List.getElem?_toArray, List.getElem?_cons_zero, List.getElem?_cons_succ] at x0 x1 x2
  generalize w1.alloc (.cells #[.slice As n cs, .int .i64 (q : Int), .slice (some ⟨bd, od, none⟩) m cd] 74) = w2 at b2 x0 x1 x2 ⊢
  refine (SP _ ((H1.out.keep B1.out).keep b2) ((H3.out.keep B1.out).keep b2)).mono ?_
  rintro e w3 ⟨rfl, hb3⟩
  have B3 := Lib.hid ((B1.out.trans b2).trans hb3)
  clear x0 x1 x2 y0 y1 y2 b2 hb3 SP B1
  go_wp2_with fail
  go_ret2
  exact ⟨rfl, B3.out.trans (Bl.new _ _)⟩

/-- What a look answers, Place answers. -/
theorem place_of (vs vd il : Value) (q : Int) (r : Value) (c : Int) (w : World) (L : ∀ w', Bl w w' → Calls Try.prog 40 #[.agg #[vs, .int .i64 q, vd], il, .func (.func 41) #[] #[]] w' fun e w'' => e = .returned (.tuple #[r, .int .i64 c]) ∧ Bl w' w'') :
    Calls Try.prog 20 #[.agg #[vs, .int .i64 q, vd], il] w fun e w' => e = .returned (.tuple #[r, .int .i64 c]) ∧ Bl w w' := by
  have HL := Lib.hid L
  clear L
  have b0 := Bl.new w (.cells #[vs, .int .i64 q, vd] 24)
  have x0 := c_new w #[vs, .int .i64 q, vd] 24 0
  have x1 := c_new w #[vs, .int .i64 q, vd] 24 1
  have x2 := c_new w #[vs, .int .i64 q, vd] 24 2
  simp only [List.getElem?_toArray, List.getElem?_cons_zero, List.getElem?_cons_succ] at x0 x1 x2
  go_enter Try.func20, Try.ntmps20
  go_wp2_with fail
  generalize w.alloc (.cells #[vs, .int .i64 q, vd] 24) = w0 at b0 x0 x1 x2 ⊢
  refine (HL.out _ b0).mono ?_
  rintro e w1 ⟨rfl, hb1⟩
  have B1 := Lib.hid (b0.trans hb1)
  clear hb1
  go_wp2_with fail
  go_ret2
  exact ⟨rfl, B1.out⟩

/-- What a look answers, At answers. -/
theorem at_of (vs vd il : Value) (q : Int) (r : Value) (c : Int) (w : World) (L : ∀ w', Bl w w' → Calls Try.prog 43 #[.agg #[vs, .int .i64 q, vd], il, .func (.func 44) #[] #[]] w' fun e w'' => e = .returned (.tuple #[r, .int .i64 c]) ∧ Bl w' w'') :
    Calls Try.prog 22 #[.agg #[vs, .int .i64 q, vd], il] w fun e w' => e = .returned (.tuple #[r, .int .i64 c]) ∧ Bl w w' := by
  have HL := Lib.hid L
  clear L
  have b0 := Bl.new w (.cells #[vs, .int .i64 q, vd] 24)
  have x0 := c_new w #[vs, .int .i64 q, vd] 24 0
  have x1 := c_new w #[vs, .int .i64 q, vd] 24 1
  have x2 := c_new w #[vs, .int .i64 q, vd] 24 2
  simp only [List.getElem?_toArray, List.getElem?_cons_zero, List.getElem?_cons_succ] at x0 x1 x2
  go_enter Try.func22, Try.ntmps22
  go_wp2_with fail
  generalize w.alloc (.cells #[vs, .int .i64 q, vd] 24) = w0 at b0 x0 x1 x2 ⊢
  refine (HL.out _ b0).mono ?_
  rintro e w1 ⟨rfl, hb1⟩
  have B1 := Lib.hid (b0.trans hb1)
  clear hb1
  go_wp2_with fail
  go_ret2
  exact ⟨rfl, B1.out⟩

/-- What Place answers. -/
def PlaceIs (sl : List Int) (q : Int) (dl il : List Int) (p c : Int) : Prop := (¬ okG sl q dl ∧ p = 0 ∧ c = 100) ∨ ∃ s q' d, sl = ofN s ∧ q = ((q' : Nat) : Int) ∧ dl = ofN d ∧ GrOk s q' d ∧ ((∃ ix, il = ofN ix ∧ Gr.below ix s ∧ p = ((Gr.plc s ix 0 * q' : Nat) : Int) ∧ c = 0) ∨ (¬ isIx s il ∧ p = 0 ∧ c = 2))
theorem PlaceIs.uniq {sl : List Int} {q : Int} {dl il : List Int} {p c p' c' : Int} (h : PlaceIs sl q dl il p c) (h' : PlaceIs sl q dl il p' c') : p = p' ∧ c = c' := by
  rcases h with ⟨n, rfl, rfl⟩ | ⟨s, k, d, rfl, rfl, rfl, hg, h⟩
  · rcases h' with ⟨_, rfl, rfl⟩ | ⟨s, k, d, rfl, rfl, rfl, hg, _⟩
    · exact ⟨rfl, rfl⟩
    · exact absurd ⟨s, k, d, rfl, rfl, rfl, hg⟩ n
  · rcases h' with ⟨n, _, _⟩ | ⟨s', k', d', e1, e2, e3, _, h'⟩
    · exact absurd ⟨s, k, d, rfl, rfl, rfl, hg⟩ n
    · obtain rfl := ofN_inj e1
      obtain rfl : k = k' := by omega
      rcases h with ⟨ix, rfl, hb, rfl, rfl⟩ | ⟨n, rfl, rfl⟩
      · rcases h' with ⟨iy, e4, _, rfl, rfl⟩ | ⟨n, _, _⟩
        · obtain rfl := ofN_inj e4
          exact ⟨rfl, rfl⟩
        · exact absurd ⟨ix, rfl, hb⟩ n
      · rcases h' with ⟨iy, rfl, hb, _, _⟩ | ⟨_, rfl, rfl⟩
        · exact absurd ⟨iy, rfl, hb⟩ n
        · exact ⟨rfl, rfl⟩
def PlaceRes (sl : List Int) (q : Int) (dl il : List Int) (w : World) (e : Ending) (w' : World) : Prop := ∃ p c, e = .returned (.tuple #[.int .i64 p, .int .i64 c]) ∧ PlaceIs sl q dl il p c ∧ Bl w w'
/-- A valid grid has values, at some place. -/
theorem Ls.of_grid {w : World} {Ad : Option Addr} {s : List Nat} {q : Nat} {d : List Nat} (hg : GrOk s q d) (h : Ls w .i64 Ad (ofN d)) : ∃ bd od, Ad = some ⟨bd, od, none⟩ := by
  refine h.addr 0 ?_
  rw [ofN_len, ← hg.len]
  exact Nat.mul_pos hg.q1 (Gr.prod_pos fun n hn => by have := hg.sz.2 n hn; omega)
theorem Place_any (As Ad Ai : Option Addr) (cs cd ci : Nat) (sl : List Int) (q : Int) (dl il : List Int) (w : World) (hl1 : sl.length ≤ 1000000) (hl2 : dl.length ≤ 1000000) (hl3 : il.length ≤ 1000000) (hcd : dl.length ≤ cd) (h1 : Ls w .i64 As sl) (h2 : Ls w .i64 Ad dl) (h3 : Ls w .i64 Ai il) :
    Calls Try.prog 20 #[.agg #[.slice As sl.length cs, .int .i64 q, .slice Ad dl.length cd], .slice Ai il.length ci] w (PlaceRes sl q dl il w) := by
  by_cases hok : okG sl q dl
  · obtain ⟨s, k, d, rfl, rfl, rfl, hg⟩ := hok
    obtain ⟨bd, od, rfl⟩ := Ls.of_grid hg h2
    rw [ofN_len] at hcd
    rw [ofN_len, ofN_len]
    by_cases hix : isIx s il
    · obtain ⟨ix, rfl, hb⟩ := hix
      rw [ofN_len]
      refine (Place_yes As bd od cs cd Ai ci s k d ix w hg hcd hb h1 h2 h3).mono ?_
      rintro e w' ⟨rfl, hb'⟩
      exact ⟨_, _, rfl, .inr ⟨s, k, d, rfl, rfl, rfl, hg, .inl ⟨ix, rfl, hb, rfl, rfl⟩⟩, hb'⟩
    · refine (place_of _ _ _ _ _ _ w fun w' hb => lookp_noix As bd od cs cd Ai ci _ s k d il w' hg hl3 hix (h1.keep hb) (h2.keep hb) (h3.keep hb)).mono ?_
      rintro e w' ⟨rfl, hb'⟩
      exact ⟨_, _, rfl, .inr ⟨s, k, d, rfl, rfl, rfl, hg, .inr ⟨hix, rfl, rfl⟩⟩, hb'⟩
  · refine (place_of _ _ _ _ _ _ w fun w' hb => lookp_bad As Ad Ai cs cd ci il.length _ sl q dl w' hl1 hl2 (h1.keep hb) (h2.keep hb) hok).mono ?_
    rintro e w' ⟨rfl, hb'⟩
    exact ⟨_, _, rfl, .inl ⟨hok, rfl, rfl⟩, hb'⟩
/-- What At answers. -/
def AtIs (sl : List Int) (q : Int) (dl il l : List Int) (c : Int) : Prop := (¬ okG sl q dl ∧ l = [] ∧ c = 100) ∨ ∃ s q' d, sl = ofN s ∧ q = ((q' : Nat) : Int) ∧ dl = ofN d ∧ GrOk s q' d ∧ ((∃ ix, il = ofN ix ∧ Gr.below ix s ∧ l = ofN (seg d (Gr.plc s ix 0 * q') q') ∧ c = 0) ∨ (¬ isIx s il ∧ l = [] ∧ c = 2))
theorem AtIs.uniq {sl : List Int} {q : Int} {dl il l l' : List Int} {c c' : Int} (h : AtIs sl q dl il l c) (h' : AtIs sl q dl il l' c') : l = l' ∧ c = c' := by
  rcases h with ⟨n, rfl, rfl⟩ | ⟨s, k, d, rfl, rfl, rfl, hg, h⟩
  · rcases h' with ⟨_, rfl, rfl⟩ | ⟨s, k, d, rfl, rfl, rfl, hg, _⟩
    · exact ⟨rfl, rfl⟩
    · exact absurd ⟨s, k, d, rfl, rfl, rfl, hg⟩ n
  · rcases h' with ⟨n, _, _⟩ | ⟨s', k', d', e1, e2, e3, _, h'⟩
    · exact absurd ⟨s, k, d, rfl, rfl, rfl, hg⟩ n
    · obtain rfl := ofN_inj e1
      obtain rfl : k = k' := by omega
      obtain rfl := ofN_inj e3
      rcases h with ⟨ix, rfl, hb, rfl, rfl⟩ | ⟨n, rfl, rfl⟩
      · rcases h' with ⟨iy, e4, _, rfl, rfl⟩ | ⟨n, _, _⟩
        · obtain rfl := ofN_inj e4
          exact ⟨rfl, rfl⟩
        · exact absurd ⟨ix, rfl, hb⟩ n
      · rcases h' with ⟨iy, rfl, hb, _, _⟩ | ⟨_, rfl, rfl⟩
        · exact absurd ⟨iy, rfl, hb⟩ n
        · exact ⟨rfl, rfl⟩
def AtRes (sl : List Int) (q : Int) (dl il : List Int) (w : World) (e : Ending) (w' : World) : Prop := ∃ A cv l c, e = .returned (.tuple #[.slice A l.length cv, .int .i64 c]) ∧ AtIs sl q dl il l c ∧ Ls w' .i64 A l ∧ l.length ≤ 4 ∧ Bl w w'
theorem At_any (As Ad Ai : Option Addr) (cs cd ci : Nat) (sl : List Int) (q : Int) (dl il : List Int) (w : World) (hl1 : sl.length ≤ 1000000) (hl2 : dl.length ≤ 1000000) (hl3 : il.length ≤ 1000000) (hcd : dl.length ≤ cd) (h1 : Ls w .i64 As sl) (h2 : Ls w .i64 Ad dl) (h3 : Ls w .i64 Ai il) :
    Calls Try.prog 22 #[.agg #[.slice As sl.length cs, .int .i64 q, .slice Ad dl.length cd], .slice Ai il.length ci] w (AtRes sl q dl il w) := by
  by_cases hok : okG sl q dl
  · obtain ⟨s, k, d, rfl, rfl, rfl, hg⟩ := hok
    obtain ⟨bd, od, rfl⟩ := Ls.of_grid hg h2
    rw [ofN_len] at hcd
    rw [ofN_len, ofN_len]
    by_cases hix : isIx s il
    · obtain ⟨ix, rfl, hb⟩ := hix
      rw [ofN_len]
      refine (At_yes As bd od cs cd Ai ci s k d ix w hg hcd hb h1 h2 h3).mono ?_
      rintro e w' ⟨g, c, rfl, hqc, hgw, hr, hb'⟩
      have hsl : (ofN (seg d (Gr.plc s ix 0 * k) k)).length = k := by rw [ofN_len, seg_len d _ k (hg.fits hb)]
      exact ⟨_, c, ofN (seg d (Gr.plc s ix 0 * k) k), _, by rw [hsl], .inr ⟨s, k, d, rfl, rfl, rfl, hg, .inl ⟨ix, rfl, hb, rfl, rfl⟩⟩, hr.ls, by rw [hsl]; exact hg.q4, hb'⟩
    · refine (at_of _ _ _ _ _ _ w fun w' hb => looka_noix As bd od cs cd Ai ci _ s k d il w' hg hl3 hix (h1.keep hb) (h2.keep hb) (h3.keep hb)).mono ?_
      rintro e w' ⟨rfl, hb'⟩
      exact ⟨none, 0, [], _, rfl, .inr ⟨s, k, d, rfl, rfl, rfl, hg, .inr ⟨hix, rfl, rfl⟩⟩, Ls.nil _ _ _, by simp, hb'⟩
  · refine (at_of _ _ _ _ _ _ w fun w' hb => looka_bad As Ad Ai cs cd ci il.length _ sl q dl w' hl1 hl2 (h1.keep hb) (h2.keep hb) hok).mono ?_
    rintro e w' ⟨rfl, hb'⟩
    exact ⟨none, 0, [], _, rfl, .inl ⟨hok, rfl, rfl⟩, Ls.nil _ _ _, by simp, hb'⟩
end Go.Proofs.Ytjinpngojdefiaa
