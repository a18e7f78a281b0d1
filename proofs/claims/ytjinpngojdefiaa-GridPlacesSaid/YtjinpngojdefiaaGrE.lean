/- Contracts of grids: the values of a point, looks at a grid, Place and At. -/
import Derived.Test.YtjinpngojdefiaaGrD
import Derived.Deep.AppendLies
import Derived.OwnWalk
import Derived.Test.YtjinpngojdefiaaShelf
namespace Go.Proofs.Ytjinpngojdefiaa
open Go.RowKit
set_option maxRecDepth 20000
set_option maxHeartbeats 3200000

/-- A part of a list. -/
def seg (d : List Nat) (p q : Nat) : List Nat := (d.drop p).take q
theorem seg_len (d : List Nat) (p q : Nat) (h : p + q ≤ d.length) : (seg d p q).length = q := by simp [seg]; omega
theorem seg_at (d : List Nat) (p q j : Nat) (h : j < (seg d p q).length) (h' : p + j < d.length) : (seg d p q)[j] = d[p + j] := by
  simp only [seg, List.getElem_take, List.getElem_drop]
theorem Ls.seg {w : World} {b o : Nat} {d : List Nat} (h : Ls w .i64 (some ⟨b, o, none⟩) (ofN d)) (p q : Nat) (hp : p + q ≤ d.length) : Ls w .i64 (some ⟨b, o + p, none⟩) (ofN (seg d p q)) := fun _ => by
  refine ⟨b, o + p, rfl, fun j hj => ?_⟩
  rw [ofN_len, seg_len d p q hp] at hj
  have h1 := h.atN (p + j) (by omega)
  rw [Nat.add_assoc, h1]
  simp only [ofN, List.getElem_map]
  rw [seg_at d p q j (by rw [seg_len d p q hp]; exact hj) (by omega)]
/-- The place of a valid index lies in the values. -/
theorem GrOk.fits {s : List Nat} {q : Nat} {d ix : List Nat} (hg : GrOk s q d) (hb : Gr.below ix s) : Gr.plc s ix 0 * q + q ≤ d.length := by
  have h1 := Gr.plc_lt hb
  have h2 : (Gr.plc s ix 0 + 1) * q ≤ Gr.prod s * q := Nat.mul_le_mul_right _ h1
  rw [Nat.add_mul, Nat.one_mul, Nat.mul_comm (Gr.prod s) q, hg.len] at h2
  exact h2

theorem values_ok (As : Option Addr) (bd od cs cd : Nat) (s : List Nat) (q : Nat) (d ix : List Nat) (w : World) (hg : GrOk s q d) (hcd : d.length ≤ cd) (hb : Gr.below ix s) (h1 : Ls w .i64 As (ofN s)) :
    Calls Try.prog 45 #[.agg #[.slice As s.length cs, .int .i64 (q : Int), .slice (some ⟨bd, od, none⟩) d.length cd], .agg (ints (ofN (pad ix))).toArray] w fun e w' => ∃ o c, e = .returned (.slice (some ⟨bd, o, none⟩) q c) ∧ q ≤ c ∧ (o = od + Gr.plc s ix 0 * q) ∧ Bl w w' := by
  have hl : ix.length = s.length := hb.length
  have h4 : ix.length ≤ 4 := by rw [hl]; exact hg.sz.1
  have ht : (pad ix).take s.length = ix := by rw [← hl]; exact pad_take ix
  have P := fun w h => place_ok As (some ⟨bd, od, none⟩) cs cd d.length s q (pad ix) w hg.sz hg.q4 (pad_len ix h4) (by rw [ht]; exact hb) h
  rw [ht] at P
  have hf := hg.fits hb
  have hm := hg.most
  obtain ⟨p, hp⟩ : ∃ p, Gr.plc s ix 0 * q = p := ⟨_, rfl⟩
  obtain ⟨m, hmm⟩ : ∃ m, d.length = m := ⟨_, rfl⟩
  obtain ⟨n, hn⟩ : ∃ n, s.length = n := ⟨_, rfl⟩
  rw [hp, hmm, hn] at P
  rw [hp, hmm] at hf
  rw [hmm] at hm hcd
  rw [hp, hmm, hn]
  have q1 : 1 ≤ (q : Int) := by have := hg.q1; omega
  have hf' : (p : Int) + (q : Int) ≤ (m : Int) := by omega
  have hm' : (m : Int) ≤ 4096 := by omega
  have hcd' : (m : Int) ≤ (cd : Int) := by omega
  have hpc : (p : Int) < (cd : Int) := by omega
  have e1 : ((p : Int) + (q : Int)).toNat = p + q := by omega
  have e2 : ¬ cd = p := by omega
  have b1 := Bl.new w (.cells #[.slice As n cs, .int .i64 (q : Int), .slice (some ⟨bd, od, none⟩) m cd] 74)
  have b2 := Bl.new (w.alloc (.cells #[.slice As n cs, .int .i64 (q : Int), .slice (some ⟨bd, od, none⟩) m cd] 74)) (.cells (ints (ofN (pad ix))).toArray 79)
  have x0 := b2.cell (c_new w #[.slice As n cs, .int .i64 (q : Int), .slice (some ⟨bd, od, none⟩) m cd] 74 0)
  have x1 := b2.cell (c_new w #[.slice As n cs, .int .i64 (q : Int), .slice (some ⟨bd, od, none⟩) m cd] 74 1)
  have x2 := b2.cell (c_new w #[.slice As n cs, .int .i64 (q : Int), .slice (some ⟨bd, od, none⟩) m cd] 74 2)
  have r2 := Rw.new (w.alloc (.cells #[.slice As n cs, .int .i64 (q : Int), .slice (some ⟨bd, od, none⟩) m cd] 74)) (ofN (pad ix)) 79
  have hsz : (w.alloc (.cells #[.slice As n cs, .int .i64 (q : Int), .slice (some ⟨bd, od, none⟩) m cd] 74)).heap.size = w.heap.size + 1 := by simp
  rw [hsz] at r2
  have hl4 : (ofN (pad ix)).length = 4 := by rw [ofN_len]; exact pad_len ix h4
  obtain ⟨a0, a1, a2, a3, e4⟩ := list_four _ hl4
  have h1' := h1.keep (b1.trans b2)
  have b12 := b1.trans b2
  rw [e4] at P r2 x0 x1 x2 h1' b12 ⊢
  have c0 := r2.cell 0 (by simp); have c1 := r2.cell 1 (by simp); have c2 := r2.cell 2 (by simp); have c3 := r2.cell 3 (by simp)
  simp only [List.getElem_cons_zero, List.getElem_cons_succ] at c0 c1 c2 c3
  simp only [ints, List.map_cons, List.map_nil] at *
  have H1 := Lib.hid h1'
  clear b1 b2 hsz r2 hl4 e4 h1 h1' hl h4 ht hp hmm hn hg hb hf hm
  go_enter Try.func45, Try.ntmps45
  go_wp2_with fail
  generalize (w.alloc (.cells #[.slice As n cs, .int .i64 (q : Int), .slice (some ⟨bd, od, none⟩) m cd] 74)).alloc (.cells #[.int .i64 a0, .int .i64 a1, .int .i64 a2, .int .i64 a3] 79) = w0 at b12 x0 x1 x2 c0 c1 c2 c3 H1 ⊢
  refine (P _ H1.out).mono ?_
  rintro e w1 ⟨rfl, hb1⟩
  have y1 := hb1.cell x1
  have y2 := hb1.cell x2
  have hbb := b12.trans hb1
  clear x0 x1 x2 c0 c1 c2 c3 P H1 b12 hb1
  go_wp2_with fail
  go_ret
  exact ⟨od + p, cd - p, by simp, by omega, rfl, hbb⟩

/-- A row that is owned, as one that may be written. -/
theorem Rw.of_own {w : World} {base : Nat} {v : Value} {l : List Int} {n : Nat} (h : w.ownsRow base 3 1 v n (ints l)) (hn : l.length = n) (hl : 0 < n) : ∃ g cap, v = .slice (some ⟨g, 0, none⟩) n cap ∧ n ≤ cap ∧ base ≤ g ∧ Rw w g l := by
  obtain ⟨_, ⟨_, h0⟩ | ⟨g, cap, cur, rfl, hg, hh, hn', hc, hs, ht⟩⟩ := h
  · omega
  · refine ⟨g, cap, rfl, by omega, hg, ?_, fun j hj => ?_, fun j => Lib.frozen_of_heap hh j⟩
    · rcases Nat.lt_or_ge g w.heap.size with h' | h'
      · exact h'
      · rw [Array.getElem?_eq_none h'] at hh; cases hh
    · rw [cell_of_row w g j cur 3 (0, 0) hh]
      have e1 : cur.toList[j]? = (ints l)[j]? := by rw [← ht, List.getElem?_take_of_lt (by omega)]
      rw [← Array.getElem?_toList, e1]
      simp [ints, hj]
/-- slices.Clone of a list that is not empty. -/
theorem clone_ok (b o n c : Nat) (l : List Int) (w : World) (hl : l.length = n) (hn : 1 ≤ n) (hn2 : n ≤ 100000) (h : Ls w .i64 (some ⟨b, o, none⟩) l) :
    Calls Try.prog 19 #[.slice (some ⟨b, o, none⟩) n c] w fun e w' => ∃ g c, e = .returned (.slice (some ⟨g, 0, none⟩) n c) ∧ n ≤ c ∧ w.heap.size ≤ g ∧ Rw w' g l ∧ Bl w w' := by
  refine (Try.slices_Clone_int b o n c l w (by omega) (by omega) (fun j hj => by rw [List.getD_eq_getElem?_getD, List.getElem?_eq_getElem hj]; exact h.at j hj)).mono ?_
  rintro e w' ⟨v, rfl, ho, _, hb⟩
  rw [List.take_of_length_le (by omega)] at ho
  obtain ⟨g, cap, rfl, h1, h2, h3⟩ := Rw.of_own ho hl (by omega)
  exact ⟨g, cap, rfl, h1, h2, h3, hb⟩
theorem at1_ok (As : Option Addr) (bd od cs cd : Nat) (s : List Nat) (q : Nat) (d ix : List Nat) (w : World) (hg : GrOk s q d) (hcd : d.length ≤ cd) (hb : Gr.below ix s) (h1 : Ls w .i64 As (ofN s)) (h2 : Ls w .i64 (some ⟨bd, od, none⟩) (ofN d)) :
    Calls Try.prog 44 #[.agg #[.slice As s.length cs, .int .i64 (q : Int), .slice (some ⟨bd, od, none⟩) d.length cd], .agg (ints (ofN (pad ix))).toArray] w fun e w' => ∃ g c, e = .returned (.slice (some ⟨g, 0, none⟩) q c) ∧ q ≤ c ∧ w.heap.size ≤ g ∧ Rw w' g (ofN (seg d (Gr.plc s ix 0 * q) q)) ∧ Bl w w' := by
  have hl : ix.length = s.length := hb.length
  have h4 : ix.length ≤ 4 := by rw [hl]; exact hg.sz.1
  have P := fun w h => values_ok As bd od cs cd s q d ix w hg hcd hb h
  have hf := hg.fits hb
  have hseg := seg_len d _ q hf
  have C := fun (o c : Nat) (w : World) h => clone_ok bd o q c (ofN (seg d (Gr.plc s ix 0 * q) q)) w (by rw [ofN_len, hseg]) hg.q1 (by have := hg.q4; omega) h
  have hL := h2.seg _ _ hf
  clear hf hseg h2
  obtain ⟨sg, hsg⟩ : ∃ sg, seg d (Gr.plc s ix 0 * q) q = sg := ⟨_, rfl⟩
  obtain ⟨pp, hpp⟩ : ∃ pp, Gr.plc s ix 0 * q = pp := ⟨_, rfl⟩
  rw [hsg] at C hL ⊢
  rw [hpp] at P hL
  obtain ⟨m, hmm⟩ : ∃ m, d.length = m := ⟨_, rfl⟩
  obtain ⟨n, hn⟩ : ∃ n, s.length = n := ⟨_, rfl⟩
  rw [hmm, hn] at P ⊢
  have b1 := Bl.new w (.cells #[.slice As n cs, .int .i64 (q : Int), .slice (some ⟨bd, od, none⟩) m cd] 74)
  have b2 := Bl.new (w.alloc (.cells #[.slice As n cs, .int .i64 (q : Int), .slice (some ⟨bd, od, none⟩) m cd] 74)) (.cells (ints (ofN (pad ix))).toArray 79)
  have x0 := b2.cell (c_new w #[.slice As n cs, .int .i64 (q : Int), .slice (some ⟨bd, od, none⟩) m cd] 74 0)
  have x1 := b2.cell (c_new w #[.slice As n cs, .int .i64 (q : Int), .slice (some ⟨bd, od, none⟩) m cd] 74 1)
  have x2 := b2.cell (c_new w #[.slice As n cs, .int .i64 (q : Int), .slice (some ⟨bd, od, none⟩) m cd] 74 2)
  have r2 := Rw.new (w.alloc (.cells #[.slice As n cs, .int .i64 (q : Int), .slice (some ⟨bd, od, none⟩) m cd] 74)) (ofN (pad ix)) 79
  have hsz : (w.alloc (.cells #[.slice As n cs, .int .i64 (q : Int), .slice (some ⟨bd, od, none⟩) m cd] 74)).heap.size = w.heap.size + 1 := by simp
  rw [hsz] at r2
  have hl4 : (ofN (pad ix)).length = 4 := by rw [ofN_len]; exact pad_len ix h4
  obtain ⟨a0, a1, a2, a3, e4⟩ := list_four _ hl4
  have h1' := h1.keep (b1.trans b2)
  have hL' := hL.keep (b1.trans b2)
  have b12 := b1.trans b2
  rw [e4] at P r2 x0 x1 x2 h1' hL' b12 ⊢
  have c0 := r2.cell 0 (by simp); have c1 := r2.cell 1 (by simp); have c2 := r2.cell 2 (by simp); have c3 := r2.cell 3 (by simp)
  simp only [List.getElem_cons_zero, List.getElem_cons_succ] at c0 c1 c2 c3
  clear b1 b2 hsz r2 hl4 e4 h1 hL hl h4 hpp hsg hmm hn hg hb
  simp only [ints, List.map_cons, List.map_nil] at P x0 x1 x2 c0 c1 c2 c3 h1' hL' b12 ⊢
  have H1 := Lib.hid h1'; have HL := Lib.hid hL'
  clear h1' hL'
  go_enter Try.func44, Try.ntmps44
  go_wp2_with fail
  generalize (w.alloc (.cells #[.slice As n cs, .int .i64 (q : Int), .slice (some ⟨bd, od, none⟩) m cd] 74)).alloc (.cells #[.int .i64 a0, .int .i64 a1, .int .i64 a2, .int .i64 a3] 79) = w0 at b12 x0 x1 x2 c0 c1 c2 c3 H1 HL ⊢
  refine (P _ H1.out).mono ?_
  rintro e w1 ⟨o, c, rfl, hc, rfl, hb1⟩
  have B1 := Lib.hid (b12.trans hb1)
  have HL1 := Lib.hid (HL.out.keep hb1)
  clear x0 x1 x2 c0 c1 c2 c3 P H1 b12 hb1 HL
  go_wp2_with fail
  refine (C _ _ _ HL1.out).mono ?_
  rintro e w2 ⟨g, c', rfl, hc', hg, hr, hb2⟩
  have B2 := Lib.hid (B1.out.trans hb2)
  have HG := Lib.hid (Nat.le_trans (Below.size B1.out) hg)
  clear hb2 hg C
  go_wp2_with fail
  go_ret
  exact ⟨g, c', rfl, hc', HG.out, hr, B2.out⟩
end Go.Proofs.Ytjinpngojdefiaa
