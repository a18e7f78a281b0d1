/- Contract of mixed: the numbers 0 to n - 1, exchanged as a seed says. -/
import Derived.Test.YtccjmmdppjialaaGreatDoorCrA
import Derived.Deep.OwnRows
namespace Go.Proofs.YtccjmmdppjialaaGreatDoor
open Go.RowKit
set_option maxRecDepth 20000
set_option maxHeartbeats 3200000

def nums (l : List Nat) : List Value := l.map fun x : Nat => .int .i64 (x : Int)
theorem nums_at (l : List Nat) (i : Nat) (h : i < l.length) : (nums l)[i]? = some (.int .i64 ((l[i] : Nat) : Int)) := by simp [nums, h]
theorem nums_set (l : List Nat) (i x : Nat) : (nums l).set i (.int .i64 (x : Int)) = nums (l.set i x) := by simp [nums, List.map_set]
theorem made_nums (n : Nat) : madeCells #[.int .i64 0] n = (nums (List.replicate n 0)).toArray := by
  apply Array.ext'
  apply List.ext_getElem
  · simp [madeCells, nums]
  · intro i h1 h2
    simp [madeCells, nums, Nat.mod_one]
theorem cell?_setCell_some {w : World} {p q : Addr} {x v : Value} (h : w.cell? q = some v) : ∃ v', (w.setCell p x).cell? q = some v' := by
  by_cases e : p = q
  · subst e; exact ⟨x, World.cell?_setCell_same w p x h⟩
  · exact ⟨v, (World.cell?_setCell_other w p q x e).trans h⟩
/-- Numbers in a block that may be written. -/
structure Rw (w : World) (g : Nat) (l : List Nat) : Prop where
  lt : g < w.heap.size
  cell : ∀ j (h : j < l.length), w.cell? ⟨g, j, none⟩ = some (.int .i64 ((l[j]'h : Nat) : Int))
  free : ∀ j, w.frozen? ⟨g, j, none⟩ = false
theorem Rw.keep {w w' : World} {g : Nat} {l : List Nat} (h : Rw w g l) (hb : Bl w w') : Rw w' g l :=
  ⟨Nat.lt_of_lt_of_le h.lt (Below.size hb), fun j hj => hb.cell (h.cell j hj), fun j => kept_fz hb (by show g < _; exact h.lt) (h.free j)⟩
theorem Rw.set {w : World} {g : Nat} {l : List Nat} (h : Rw w g l) (i x : Nat) (hi : i < l.length) : Rw (w.setCell ⟨g, i, none⟩ (.int .i64 (x : Int))) g (l.set i x) := by
  refine ⟨by have := h.lt; simpa [World.setCell] using this, fun j hj => ?_, fun j => by rw [World.frozen?_setCell]; exact h.free j⟩
  by_cases e : i = j
  · subst e
    rw [World.cell?_setCell_same' _ _ _ (by rw [h.cell i hi]; rfl), List.getElem_set_self]
  · rw [World.cell?_setCell_other (h := (by intro e'; simp at e' : (⟨g, i, none⟩ : Addr) ≠ ⟨g, j, none⟩)), List.getElem_set_ne e]
    exact h.cell j (by simpa using hj)
theorem Rw.drew {w : World} {g : Nat} {l : List Nat} (h : Rw w g l) : Rw w.drew g l := ⟨h.lt, h.cell, h.free⟩
theorem Rw.far {w : World} {g : Nat} {l : List Nat} (h : Rw w g l) (g' i : Nat) (v : Value) (hg : g' ≠ g) : Rw (w.setCell ⟨g', i, none⟩ v) g l :=
  ⟨by have := h.lt; simpa [World.setCell] using this, fun j hj => by rw [World.cell?_setCell_other (h := (by intro e'; simp at e' : (⟨g', i, none⟩ : Addr) ≠ ⟨g, j, none⟩))]; exact h.cell j hj, fun j => by rw [World.frozen?_setCell]; exact h.free j⟩
theorem Rw.new (w : World) (l : List Nat) (t : TypeId) : Rw (w.alloc (.cells (nums l).toArray t)) w.heap.size l :=
  ⟨by simp, fun j hj => (c_new w _ t j).trans (by simp [nums, hj]), fun j => f_new w _ t j⟩
theorem info_int : (Tryz.prog.info? 3).map (fun i => (i.zero, i.size, i.bytes)) = some (some (.int .i64 0), 1, 8) := by kernel_rfl
theorem make_nums (n : Nat) (hn : n ≤ 1000000) (w : World) : (Instr.makeSlice 33 (.int .i64 (n : Int)) (.int .i64 (n : Int))).run Tryz.prog w = .ok (.slice (some ⟨w.heap.size, 0, none⟩) n n) (w.alloc (.cells (nums (List.replicate n 0)).toArray 3)) := by
  rw [← made_nums]
  exact run_make_row' 33 3 (.int .i64 0) 8 Tryz.underlying33 info_int rfl .i64 .i64 n (by omega) (by omega) w
theorem fill_step (n k : Nat) (h : k < n) : (List.range k ++ List.replicate (n - k) 0).set k k = List.range (k + 1) ++ List.replicate (n - (k + 1)) 0 := by
  apply List.ext_getElem?
  intro i
  rw [List.getElem?_set]
  by_cases e : k = i
  · subst e
    rw [if_pos rfl, if_pos (by simp; omega), List.getElem?_append_left (by simp)]
    simp
  · rw [if_neg e]
    rcases Nat.lt_or_ge i k with h1 | h1
    · rw [List.getElem?_append_left (by simpa using h1), List.getElem?_append_left (by simp; omega)]
      simp [h1, show i < k + 1 by omega]
    · rw [List.getElem?_append_right (by simpa using h1), List.getElem?_append_right (by simp; omega)]
      simp only [List.length_range, List.getElem?_replicate]
      congr 1
      apply propext
      omega
theorem mixed_ok (n : Nat) (s : Int) (w : World) (hn : 1 ≤ n) (hn2 : n ≤ 40) (hs : s = 0 ∨ (1 ≤ s ∧ s ≤ 2147483646)) :
    Calls Tryz.prog 31 #[.int .i64 (n : Int), .int .i64 s] w fun e w' => ∃ g, e = .returned (.slice (some ⟨g, 0, none⟩) n n) ∧ w.heap.size ≤ g ∧ Rw w' g (mixed n s) ∧ Bl w w' := by
  have hmk := make_nums n (by omega)
  have HS := Lib.hid hs; clear hs
  have hn' : (1 : Int) ≤ (n : Int) := by omega
  have hn2' : (n : Int) ≤ 40 := by omega
  go_enter Tryz.func31, Tryz.ntmps31
  go_wp2_with fail
  have r0 := Rw.new w (List.replicate n 0) 3
  have b0 := Bl.new w (.cells (nums (List.replicate n 0)).toArray 3)
  obtain ⟨g, hg⟩ : ∃ g, w.heap.size = g := ⟨_, rfl⟩
  have HG := Lib.hid hg
  rw [hg] at r0 ⊢
  clear hg hmk
  generalize w.alloc (.cells (nums (List.replicate n 0)).toArray 3) = w0 at r0 b0 ⊢
  go_loopw [6, 15] (fun _ i wr => ∃ k : Nat, k ≤ n ∧ i = .int .i64 (k : Int) ∧ Rw wr g (List.range k ++ List.replicate (n - k) 0) ∧ Bl w wr) (fun _ i _ => n - (intOf i).toNat)
  case atStart => exact ⟨0, by omega, rfl, by simpa using r0, b0⟩
  case round =>
    clear r0 b0
    obtain ⟨k, hk, rfl, hrow, hb⟩ := hrel
    by_cases hlt : k < n
    · have hlt' : (k : Int) < (n : Int) := by omega
      have hc : wr.cell? ⟨g, k, none⟩ = some (.int .i64 0) := by
        have h : k < (List.range k ++ List.replicate (n - k) 0).length := by simp; omega
        rw [hrow.cell k h]
        simp
      have hf := hrow.free k
      have hp := hrow.set k k (by simp; omega)
      rw [fill_step n k hlt] at hp
      have hbp : Bl w (wr.setCell ⟨g, k, none⟩ (.int .i64 (k : Int))) := Below.setCell hb (by rw [← HG.out]; exact Nat.le_refl _) _
      have HP := Lib.hid hp; have HB := Lib.hid hbp
      clear hp hbp hrow hb
      go_wp2_with fail
      go_roundw
      case rel => exact ⟨k + 1, by omega, by go_num, HP.out, HB.out⟩
      case measure => simp [intOf]; omega
    · obtain rfl : k = n := by omega
      rw [Nat.sub_self, List.replicate_zero, List.append_nil] at hrow
      rcases HS.out with rfl | ⟨h1, h2⟩
      · go_wp2_with fail
        go_ret
        exact ⟨g, rfl, by rw [HG.out]; exact Nat.le_refl _, by simpa [mixed] using hrow, hb⟩
      · have hz : (s == 0) = false := by simp; omega
        have hz' : ¬ s = 0 := by omega
        have HM := Lib.hid (show mixed k s = mix (k - 1) s (List.range k) from if_neg hz')
        clear hz'
        have r1 := hrow.keep (Bl.new wr (.cells #[.int .i64 s] 69))
        have c1 := c_new wr #[.int .i64 s] 69 0
        have f1 := f_new wr #[.int .i64 s] 69 0
        have b1 := hb.trans (Bl.new wr (.cells #[.int .i64 s] 69))
        have hlt2 := hrow.lt
        have hle : w.heap.size ≤ wr.heap.size := Below.size hb
        obtain ⟨q, hq⟩ : ∃ q, wr.heap.size = q := ⟨_, rfl⟩
        have HLT := Lib.hid (show g < q by omega); have HLE := Lib.hid (show w.heap.size ≤ q by omega)
        clear hrow hb hlt2 hle
        go_wp2_with fail
        rw [hq] at c1 f1
        clear hq
        generalize wr.alloc (.cells #[.int .i64 s] 69) = w1 at r1 c1 f1 b1 ⊢
        go_loopw [9, 10] (fun iv _ wz => ∃ (i : Nat) (s' : Int) (l : List Nat), iv = .int .i64 (i : Int) ∧ i < k ∧ l.length = k ∧ mix i s' l = mix (k - 1) s (List.range k) ∧ 1 ≤ s' ∧ s' ≤ 2147483646 ∧ Rw wz g l ∧ wz.cell? ⟨q, 0, none⟩ = some (.int .i64 s') ∧ wz.frozen? ⟨q, 0, none⟩ = false ∧ Bl w wz) (fun iv _ _ => (intOf iv).toNat)
        case atStart => exact ⟨k - 1, s, List.range k, by go_num, by omega, by simp, rfl, h1, h2, r1, c1, f1, b1⟩
        case round =>
          clear r1 c1 f1 b1
          obtain ⟨i, s', l, rfl, hi, hl, hmix, s1, s2, hrow, hc, hf, hb⟩ := hrel
          cases i with
          | zero =>
            have hm0 : l = mix (k - 1) s (List.range k) := hmix
            rw [hm0, ← HM.out] at hrow
            go_wp2_with fail
            go_ret
            exact ⟨g, rfl, by rw [HG.out]; exact Nat.le_refl _, hrow, hb⟩
          | succ i =>
            obtain ⟨_, x1, x2⟩ := nx_range s1 s2
            obtain ⟨x, hx⟩ : ∃ x, nx s' = x := ⟨_, rfl⟩
            have hstep : mix i x (swp l (i + 1) (x % ((i + 2 : Nat) : Int)).toNat) = mix (k - 1) s (List.range k) := by rw [← hmix, ← hx]; rfl
            have D := fun w => draw_ok q s' (((i + 1 : Nat) : Int) + 1) w s1 s2 (by omega) (by omega)
            rw [hx] at x1 x2 D
            clear hx
            obtain ⟨j, hj⟩ : ∃ j : Nat, x % (((i + 1 : Nat) : Int) + 1) = (j : Int) := ⟨(x % (((i + 1 : Nat) : Int) + 1)).toNat, by have := Int.emod_nonneg x (show (((i + 1 : Nat) : Int) + 1) ≠ 0 by omega); omega⟩
            have hjl : j < i + 2 := by have := Int.emod_lt_of_pos x (show 0 < (((i + 1 : Nat) : Int) + 1) by omega); omega
            have ej : (x % ((i + 2 : Nat) : Int)).toNat = j := by rw [show ((i + 2 : Nat) : Int) = ((i + 1 : Nat) : Int) + 1 by omega, hj]; rfl
            rw [ej] at hstep
            rw [hj] at D
            clear hj ej hmix
            have HSTEP := Lib.hid hstep; clear hstep
            obtain ⟨li, hli⟩ : ∃ v, l[i + 1]? = some v := ⟨_, List.getElem?_eq_getElem (by omega)⟩
            obtain ⟨lj, hlj⟩ : ∃ v, l[j]? = some v := ⟨_, List.getElem?_eq_getElem (by omega)⟩
            have hsw : swp l (i + 1) j = (l.set (i + 1) lj).set j li := by simp [swp, List.getD_eq_getElem?_getD, hli, hlj]
            have HSW := Lib.hid hsw; clear hsw
            have HROW := Lib.hid hrow; have HBL := Lib.hid hb; have HLEN := Lib.hid hl; have HLI := Lib.hid hli; have HLJ := Lib.hid hlj
            clear hrow hb hl hli hlj
            obtain ⟨I, hI⟩ : ∃ I : Int, ((i + 1 : Nat) : Int) = I := ⟨_, rfl⟩
            have hI1 : 1 ≤ I := by omega
            have hI2 : I < (k : Int) := by omega
            rw [hI] at D ⊢
            have HI := Lib.hid hI; clear hI
            go_wp2_with fail
            refine (D _ hc hf).mono ?_
            rintro e w5 ⟨rfl, w4, hb4, rfl⟩
            have r5 : Rw (w4.setCell ⟨q, 0, none⟩ (.int .i64 x)) g l := (HROW.out.keep hb4).far q 0 _ (by have := HLT.out; omega)
            have c5 : (w4.setCell ⟨q, 0, none⟩ (.int .i64 x)).cell? ⟨q, 0, none⟩ = some (.int .i64 x) := World.cell?_setCell_same' _ _ _ (by rw [hb4.cell hc]; rfl)
            have f5 : (w4.setCell ⟨q, 0, none⟩ (.int .i64 x)).frozen? ⟨q, 0, none⟩ = false := by rw [World.frozen?_setCell]; exact kept_fz hb4 (by show q < _; exact World.block_lt_of_cell? wr _ hc) hf
            have b5 : Bl w (w4.setCell ⟨q, 0, none⟩ (.int .i64 x)) := Below.setCell (HBL.out.trans hb4) HLE.out _
            generalize w4.setCell ⟨q, 0, none⟩ (.int .i64 x) = w5 at r5 c5 f5 b5 ⊢
            clear hc hf hb4
            have HC5 := Lib.hid c5; have HF5 := Lib.hid f5; have HB5 := Lib.hid b5; have HR5 := Lib.hid r5
            have hin : I.toNat = i + 1 := by have := HI.out; omega
            have ci : w5.cell? ⟨g, I.toNat, none⟩ = some (.int .i64 (li : Int)) := by
              rw [hin, r5.cell (i + 1) (by rw [HLEN.out]; exact hi)]
              have := HLI.out
              rw [List.getElem?_eq_getElem (by rw [HLEN.out]; exact hi)] at this
              rw [Option.some.inj this]
            have cj : w5.cell? ⟨g, j, none⟩ = some (.int .i64 (lj : Int)) := by
              rw [r5.cell j (by rw [HLEN.out]; omega)]
              have := HLJ.out
              rw [List.getElem?_eq_getElem (by rw [HLEN.out]; omega)] at this
              rw [Option.some.inj this]
            have fi := r5.free I.toNat
            have fj := r5.free j
            have HIN := Lib.hid hin
            clear c5 f5 b5 r5 hin
            have hjk : (j : Int) < (k : Int) := by omega
            obtain ⟨v', hy'⟩ := cell?_setCell_some (w := w5) (p := ⟨g, I.toNat, none⟩) (x := .int .i64 (lj : Int)) (q := ⟨g, j, none⟩) (v := .int .i64 (lj : Int)) cj
            go_wp2_with fail
            go_region
            have w7 : Rw ((w5.setCell ⟨g, I.toNat, none⟩ (.int .i64 (lj : Int))).setCell ⟨g, j, none⟩ (.int .i64 (li : Int))).drew g (swp l (i + 1) j) := by
              rw [HIN.out, HSW.out]
              exact ((HR5.out.set (i + 1) lj (by rw [HLEN.out]; exact hi)).set j li (by rw [List.length_set, HLEN.out]; omega)).drew
            have hgq : g ≠ q := by have := HLT.out; omega
            have c7 : ((w5.setCell ⟨g, I.toNat, none⟩ (.int .i64 (lj : Int))).setCell ⟨g, j, none⟩ (.int .i64 (li : Int))).drew.cell? ⟨q, 0, none⟩ = some (.int .i64 x) := by
              show World.cell? (World.setCell _ _ _) _ = _
              rw [World.cell?_setCell_other (h := (fun e' => hgq (congrArg Addr.block e') : (⟨g, j, none⟩ : Addr) ≠ ⟨q, 0, none⟩)), World.cell?_setCell_other (h := (fun e' => hgq (congrArg Addr.block e') : (⟨g, I.toNat, none⟩ : Addr) ≠ ⟨q, 0, none⟩))]
              exact HC5.out
            have f7 : ((w5.setCell ⟨g, I.toNat, none⟩ (.int .i64 (lj : Int))).setCell ⟨g, j, none⟩ (.int .i64 (li : Int))).drew.frozen? ⟨q, 0, none⟩ = false := by
              show World.frozen? (World.setCell _ _ _) _ = _
              rw [World.frozen?_setCell, World.frozen?_setCell]
              exact HF5.out
            have b7 : Bl w ((w5.setCell ⟨g, I.toNat, none⟩ (.int .i64 (lj : Int))).setCell ⟨g, j, none⟩ (.int .i64 (li : Int))).drew := Bl.drew (Below.setCell (Below.setCell HB5.out (by rw [← HG.out]; exact Nat.le_refl _) _) (by rw [← HG.out]; exact Nat.le_refl _) _)
            generalize ((w5.setCell ⟨g, I.toNat, none⟩ (.int .i64 (lj : Int))).setCell ⟨g, j, none⟩ (.int .i64 (li : Int))).drew = w8 at w7 c7 f7 b7 ⊢
            clear ci cj fi fj hy'
            go_wp2_with fail
            go_roundw
            case rel => exact ⟨i, x, swp l (i + 1) j, by rw [show I - 1 = ((i : Nat) : Int) by have := HI.out; omega], by omega, by rw [swp_len]; exact HLEN.out, HSTEP.out, x1, x2, w7, c7, f7, b7⟩
            case measure => simp [intOf]; omega
end Go.Proofs.YtccjmmdppjialaaGreatDoor
