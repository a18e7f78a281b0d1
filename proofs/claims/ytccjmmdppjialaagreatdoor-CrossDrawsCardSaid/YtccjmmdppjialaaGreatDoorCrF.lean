/- CrossDraws: for every input the law returns true and leaves what was there as it was: the reference's seeds and folds; what fails; both functions at once; the law. -/
import Derived.Test.YtccjmmdppjialaaGreatDoorCrS
import Derived.Deep.AppendLies
import Derived.OwnWalk
namespace Go.Proofs.YtccjmmdppjialaaGreatDoor
open Go.RowKit
set_option maxRecDepth 20000
set_option maxHeartbeats 3200000

theorem refnext_yes (s : Int) (w : World) (h1 : 1 ≤ s) (h2 : s ≤ 2147483646) :
    Calls Tryz.prog 9 #[.int .i64 s] w fun e w' => e = .returned (.tuple #[.int .i64 (nx s), .int .i64 0]) ∧ w = w' := by
  have hx : s * 48271 % 2147483647 = nx s := by unfold nx; rw [Int.mul_comm]
  have d1 : decide (s < 1) = false := by simp; omega
  have d2 : decide (2147483646 < s) = false := by simp; omega
  have HX := Lib.hid hx; clear hx
  go_enter Tryz.func9, Tryz.ntmps9
  go_wp2_with fail
  go_ret2
  exact ⟨by rw [← HX.out]; rfl, rfl⟩
theorem refnext_no (s : Int) (w : World) (h : ¬ (1 ≤ s ∧ s ≤ 2147483646)) :
    Calls Tryz.prog 9 #[.int .i64 s] w fun e w' => e = .returned (.tuple #[.int .i64 0, .int .i64 2]) ∧ w = w' := by
  by_cases h1 : s < 1
  · have d1 : decide (s < 1) = true := by simp; omega
    go_enter Tryz.func9, Tryz.ntmps9
    go_wp2_with fail
    go_ret2
    exact ⟨rfl, rfl⟩
  · have d1 : decide (s < 1) = false := by simp; omega
    have d2 : decide (2147483646 < s) = true := by simp; omega
    go_enter Tryz.func9, Tryz.ntmps9
    go_wp2_with fail
    go_ret2
    exact ⟨rfl, rfl⟩
theorem refdraw_yes (s n : Int) (w : World) (h1 : 1 ≤ s) (h2 : s ≤ 2147483646) (hn : 1 ≤ n) (hn2 : n ≤ 1000000) :
    Calls Tryz.prog 11 #[.int .i64 s, .int .i64 n] w fun e w' => e = .returned (.tuple #[.int .i64 (nx s % n), .int .i64 (nx s), .int .i64 0]) ∧ w = w' := by
  obtain ⟨_, x1, x2⟩ := nx_range h1 h2
  have N := refnext_yes s w h1 h2
  obtain ⟨x, hx⟩ : ∃ x, nx s = x := ⟨_, rfl⟩
  rw [hx] at x1 x2 N ⊢
  clear hx
  have d1 : decide (n < 1) = false := by simp; omega
  have d2 : decide (1000000 < n) = false := by simp; omega
  go_enter Tryz.func11, Tryz.ntmps11
  go_wp2_with fail
  refine N.mono ?_
  rintro e w1 ⟨rfl, rfl⟩
  go_wp2_with fail
  refine bodyPost_ret (v := .tuple #[.int .i64 (x % n), .int .i64 x, .int .i64 0]) (by simp [results, Tryz.results11, go_sem]) rfl ⟨rfl, rfl⟩
theorem refdraw_no (s n : Int) (w : World) (h : ¬ ((1 ≤ s ∧ s ≤ 2147483646) ∧ 1 ≤ n ∧ n ≤ 1000000)) :
    Calls Tryz.prog 11 #[.int .i64 s, .int .i64 n] w fun e w' => e = .returned (.tuple #[.int .i64 0, .int .i64 0, .int .i64 2]) ∧ w = w' := by
  by_cases hs : 1 ≤ s ∧ s ≤ 2147483646
  · have N := refnext_yes s w hs.1 hs.2
    obtain ⟨x, hx⟩ : ∃ x, nx s = x := ⟨_, rfl⟩
    rw [hx] at N
    clear hx
    by_cases h1 : n < 1
    · have d1 : decide (n < 1) = true := by simp; omega
      go_enter Tryz.func11, Tryz.ntmps11
      go_wp2_with fail
      refine N.mono ?_
      rintro e w1 ⟨rfl, rfl⟩
      go_wp2_with fail
      refine bodyPost_ret (v := .tuple #[.int .i64 0, .int .i64 0, .int .i64 2]) (by simp [results, Tryz.results11, go_sem]) rfl ⟨rfl, rfl⟩
    · have d1 : decide (n < 1) = false := by simp; omega
      have d2 : decide (1000000 < n) = true := by simp; omega
      go_enter Tryz.func11, Tryz.ntmps11
      go_wp2_with fail
      refine N.mono ?_
      rintro e w1 ⟨rfl, rfl⟩
      go_wp2_with fail
      refine bodyPost_ret (v := .tuple #[.int .i64 0, .int .i64 0, .int .i64 2]) (by simp [results, Tryz.results11, go_sem]) rfl ⟨rfl, rfl⟩
  · have N := refnext_no s w hs
    go_enter Tryz.func11, Tryz.ntmps11
    go_wp2_with fail
    refine N.mono ?_
    rintro e w1 ⟨rfl, rfl⟩
    go_wp2_with fail
    refine bodyPost_ret (v := .tuple #[.int .i64 0, .int .i64 0, .int .i64 2]) (by simp [results, Tryz.results11, go_sem]) rfl ⟨rfl, rfl⟩
theorem drawf_no (s n : Int) (w : World) (h : ¬ ((1 ≤ s ∧ s ≤ 2147483646) ∧ 1 ≤ n ∧ n ≤ 1000000)) :
    Calls Tryz.prog 10 #[.int .i64 s, .int .i64 n] w fun e w' => e = .returned (.tuple #[.int .i64 0, .int .i64 0, .int .i64 2]) ∧ Bl w w' := by
  by_cases hs : 1 ≤ s ∧ s ≤ 2147483646
  · have N := fun w => sound_yes s w hs.1 hs.2
    by_cases h1 : n < 1
    · have d1 : decide (n < 1) = true := by simp; omega
      go_enter Tryz.func10, Tryz.ntmps10
      go_wp2_with fail
      refine (N _).mono ?_
      rintro e w1 ⟨rfl, hb⟩
      have hb1 := (Bl.new w (.cells #[.int .i64 s] 69)).trans hb
      clear hb
      go_wp2_with fail
      refine bodyPost_ret (v := .tuple #[.int .i64 0, .int .i64 0, .int .i64 2]) (by simp [results, Tryz.results10, go_sem]) rfl ⟨rfl, hb1⟩
    · have d1 : decide (n < 1) = false := by simp; omega
      have d2 : decide (1000000 < n) = true := by simp; omega
      go_enter Tryz.func10, Tryz.ntmps10
      go_wp2_with fail
      refine (N _).mono ?_
      rintro e w1 ⟨rfl, hb⟩
      have hb1 := (Bl.new w (.cells #[.int .i64 s] 69)).trans hb
      clear hb
      go_wp2_with fail
      refine bodyPost_ret (v := .tuple #[.int .i64 0, .int .i64 0, .int .i64 2]) (by simp [results, Tryz.results10, go_sem]) rfl ⟨rfl, hb1⟩
  · have N := fun w => sound_no s w hs
    go_enter Tryz.func10, Tryz.ntmps10
    go_wp2_with fail
    refine (N _).mono ?_
    rintro e w1 ⟨rfl, hb⟩
    have hb1 := (Bl.new w (.cells #[.int .i64 s] 69)).trans hb
    clear hb
    go_wp2_with fail
    refine bodyPost_ret (v := .tuple #[.int .i64 0, .int .i64 0, .int .i64 2]) (by simp [results, Tryz.results10, go_sem]) rfl ⟨rfl, hb1⟩
/-- Both functions answer the same. -/
theorem next_two (s : Int) : ∃ a e, (∀ w, Calls Tryz.prog 8 #[.int .i64 s] w fun x w' => x = .returned (.tuple #[.int .i64 a, .int .i64 e]) ∧ Bl w w') ∧ ∀ w, Calls Tryz.prog 9 #[.int .i64 s] w fun x w' => x = .returned (.tuple #[.int .i64 a, .int .i64 e]) ∧ w = w' := by
  by_cases h : 1 ≤ s ∧ s ≤ 2147483646
  · exact ⟨_, _, fun w => next_yes s w h.1 h.2, fun w => refnext_yes s w h.1 h.2⟩
  · exact ⟨_, _, fun w => next_no s w h, fun w => refnext_no s w h⟩
theorem draw_two (s n : Int) : ∃ v a e, (∀ w, Calls Tryz.prog 10 #[.int .i64 s, .int .i64 n] w fun x w' => x = .returned (.tuple #[.int .i64 v, .int .i64 a, .int .i64 e]) ∧ Bl w w') ∧ ∀ w, Calls Tryz.prog 11 #[.int .i64 s, .int .i64 n] w fun x w' => x = .returned (.tuple #[.int .i64 v, .int .i64 a, .int .i64 e]) ∧ w = w' := by
  by_cases h : (1 ≤ s ∧ s ≤ 2147483646) ∧ 1 ≤ n ∧ n ≤ 1000000
  · exact ⟨_, _, _, fun w => drawf_yes s n w h.1.1 h.1.2 h.2.1 h.2.2, fun w => refdraw_yes s n w h.1.1 h.1.2 h.2.1 h.2.2⟩
  · exact ⟨_, _, _, fun w => drawf_no s n w h, fun w => refdraw_no s n w h⟩

theorem Rw.of_own {w : World} {base : Nat} {v : Value} {l : List Nat} (h : w.ownsRow base 3 1 v l.length (nums l)) (hl : 0 < l.length) : ∃ g cap, v = .slice (some ⟨g, 0, none⟩) l.length cap ∧ base ≤ g ∧ Rw w g l := by
  obtain ⟨_, ⟨_, h0⟩ | ⟨g, cap, cur, rfl, hg, hh, hn, hc, hs, ht⟩⟩ := h
  · omega
  · refine ⟨g, cap, rfl, hg, ?_, fun j hj => ?_, fun j => Lib.frozen_of_heap hh j⟩
    · rcases Nat.lt_or_ge g w.heap.size with h' | h'
      · exact h'
      · rw [Array.getElem?_eq_none h'] at hh; cases hh
    · rw [cell_of_row w g j cur 3 (0, 0) hh]
      have e1 : cur.toList[j]? = (nums l)[j]? := by rw [← ht, List.getElem?_take_of_lt (by omega)]
      rw [← Array.getElem?_toList, e1, nums_at l j hj]
theorem nums_snoc (l : List Nat) (x : Nat) : nums l ++ [.int .i64 (x : Int)] = nums (l ++ [x]) := by simp [nums]
theorem reffolds_yes (n k : Nat) (s : Int) (w : World) (hn : 1 ≤ n) (hn2 : n ≤ 40) (hk : 1 ≤ k) (hkn : k ≤ n) (hs : s = 0 ∨ (1 ≤ s ∧ s ≤ 2147483646)) :
    Calls Tryz.prog 13 #[.int .i64 (n : Int), .int .i64 (k : Int), .int .i64 s] w fun e w' => ∃ g, e = .returned (.tuple #[.slice (some ⟨g, 0, none⟩) n n, .int .i64 0]) ∧ w.heap.size ≤ g ∧ Rw w' g (folds n k s) ∧ Bl w w' := by
  obtain ⟨i0, hi, hz0, hz1, hz2⟩ := info_parts info_int
  have hmk := make_nums n (by omega)
  have hlen : (mixed n s).length = n := by rw [(mixed_perm n s (by omega)).length_eq]; simp
  have hlt : ∀ t ∈ mixed n s, t < n := fun t ht => by simpa using (mixed_perm n s (by omega)).mem_iff.1 ht
  have hfold : folds n k s = laid k 0 (mixed n s) (List.replicate n 0) := rfl
  have hm0 : s = 0 → mixed n s = List.range n := fun h => if_pos h
  have hm1 : 1 ≤ s → mixed n s = mix (n - 1) s (List.range n) := fun h => if_neg (by omega)
  have HF := Lib.hid hfold
  obtain ⟨ms, hms⟩ : ∃ ms, mixed n s = ms := ⟨_, rfl⟩
  rw [hms] at hlen hlt HF hm0 hm1
  have d1 : decide ((n : Int) < 1) = false := by simp; omega
  have d2 : decide (40 < (n : Int)) = false := by simp; omega
  have d3 : decide ((k : Int) < 1) = false := by simp; omega
  have d4 : decide (n < k) = false := by simp; omega
  have d5 : decide (s < 0) = false := by simp; omega
  have d6 : decide (2147483646 < s) = false := by simp; omega
  have HS := Lib.hid hs; have HM0 := Lib.hid hm0; have HM1 := Lib.hid hm1
  clear hms hs hfold hm0 hm1
  have hn' : (1 : Int) ≤ (n : Int) := by omega
  have hn2' : (n : Int) ≤ 40 := by omega
  have hk' : (1 : Int) ≤ (k : Int) := by omega
  have hkn' : (k : Int) ≤ (n : Int) := by omega
  have HL := Lib.hid hlen; have HT := Lib.hid hlt; clear hlen hlt
  have HMK := Lib.hid hmk; clear hmk
  go_enter Tryz.func13, Tryz.ntmps13
  go_wp2_with fail
  go_loopw [8, 9] (fun v iv wr => ∃ i : Nat, i ≤ n ∧ iv = .int .i64 (i : Int) ∧ wr.ownsRow w.heap.size 3 1 v i (nums (List.range i)) ∧ Bl w wr) (fun _ iv _ => n - (intOf iv).toNat)
  case atStart => exact ⟨0, by omega, rfl, World.ownsRow_nil _ _ _ _, Bl.refl w⟩
  case round =>
    obtain ⟨i, hi2, rfl, hown, hb⟩ := hrel
    by_cases hlt : i < n
    · have hlt' : (i : Int) < (n : Int) := by omega
      have hsz : w.heap.size ≤ wr.heap.size := Below.size hb
      go_wp2_with (at_builtin; refine wpList_append_own _ rfl _ _ 33 rfl w.heap.size 3 i0 (.int .i64 0) 1 8 Tryz.underlying33 hi hz0 hz1 hz2 rfl (by decide) _ _ _ rfl (hown.alloc _) ⟨wr.heap.size, 0, none⟩ 1 1 [.int .i64 (i : Int)] rfl rfl ?c1 ?c2 ?c3 ?c4 ?c5 ?_)
      case c1 =>
        intro j u hj
        match j, hj with
        | 0, hj => simp at hj; subst hj; simp [Addr.add]
      case c2 => intro u hu; simp at hu; subst hu; rfl
      case c3 => unfold maxLen; omega
      case c4 => omega
      case c5 => simp; omega
      intro v' w1 hown' hgrow _
      have hb1 : Bl w w1 := (Below.alloc hb hsz _).grown hgrow (by simp; omega) (fun k hk => (hown.lt k hk).1)
      rw [nums_snoc, ← List.range_succ] at hown'
      clear hown hb hgrow hsz
      go_wp2_with fail
      go_roundw
      case rel => exact ⟨i + 1, by omega, by go_num, hown', hb1⟩
      case measure => simp [intOf]; omega
    · obtain rfl : i = n := by omega
      obtain ⟨g, cap, rfl, hg, hrow⟩ := Rw.of_own (l := List.range i) (by simpa using hown) (by simp; omega)
      rw [List.length_range]
      have HG := Lib.hid hg
      clear hown hg hi hz0 hz1 hz2
      go_wp2_with fail
      go_loopw [2, 10, 11, 12, 13] (fun sv iv _ _ _ wr => ∃ (j : Nat) (s' : Int) (l : List Nat), sv = .int .i64 s' ∧ iv = .int .i64 (j : Int) ∧ j < i ∧ l.length = i ∧ ((s' = 0 ∧ l = ms) ∨ (1 ≤ s' ∧ s' ≤ 2147483646 ∧ mix j s' l = ms)) ∧ Rw wr g l ∧ Bl w wr) (fun _ iv _ _ _ _ => (intOf iv).toNat)
      case atStart =>
        refine ⟨i - 1, s, List.range i, rfl, by go_num, by omega, by simp, ?_, hrow, hb⟩
        rcases HS.out with h | ⟨h, h'⟩
        · exact .inl ⟨h, (HM0.out h).symm⟩
        · exact .inr ⟨h, h', (HM1.out h).symm⟩
      case round =>
        clear hrow hb
        obtain ⟨j, s', l, rfl, rfl, hj, hl, hcase, hrow, hb⟩ := hrel
        by_cases hgo : 1 ≤ j ∧ 1 ≤ s'
        · obtain ⟨hj1, hs1⟩ := hgo
          obtain ⟨s1, s2, hmix⟩ : 1 ≤ s' ∧ s' ≤ 2147483646 ∧ mix j s' l = ms := by
            rcases hcase with ⟨h, _⟩ | h
            · omega
            · exact h
          obtain ⟨j', rfl⟩ : ∃ j', j = j' + 1 := ⟨j - 1, by omega⟩
          clear hcase hs1 hj1
          obtain ⟨_, x1, x2⟩ := nx_range s1 s2
          obtain ⟨x, hx⟩ : ∃ x, nx s' = x := ⟨_, rfl⟩
          have hstep : mix j' x (swp l (j' + 1) (x % ((j' + 2 : Nat) : Int)).toNat) = ms := by rw [← hmix, ← hx]; rfl
          have D := fun w => refdraw_yes s' (((j' + 1 : Nat) : Int) + 1) w s1 s2 (by omega) (by omega)
          rw [hx] at x1 x2 D
          clear hx
          obtain ⟨y, hy⟩ : ∃ y : Nat, x % (((j' + 1 : Nat) : Int) + 1) = (y : Int) := ⟨(x % (((j' + 1 : Nat) : Int) + 1)).toNat, by have := Int.emod_nonneg x (show (((j' + 1 : Nat) : Int) + 1) ≠ 0 by omega); omega⟩
          have hyl : y < j' + 2 := by have := Int.emod_lt_of_pos x (show 0 < (((j' + 1 : Nat) : Int) + 1) by omega); omega
          have ey : (x % ((j' + 2 : Nat) : Int)).toNat = y := by rw [show ((j' + 2 : Nat) : Int) = ((j' + 1 : Nat) : Int) + 1 by omega, hy]; rfl
          rw [ey] at hstep
          rw [hy] at D
          clear hy ey hmix
          have HSTEP := Lib.hid hstep; clear hstep
          obtain ⟨li, hli⟩ : ∃ v, l[j' + 1]? = some v := ⟨_, List.getElem?_eq_getElem (by omega)⟩
          obtain ⟨ly, hly⟩ : ∃ v, l[y]? = some v := ⟨_, List.getElem?_eq_getElem (by omega)⟩
          have hsw : swp l (j' + 1) y = (l.set (j' + 1) ly).set y li := by simp [swp, List.getD_eq_getElem?_getD, hli, hly]
          have HSW := Lib.hid hsw; clear hsw
          have ci : wr.cell? ⟨g, j' + 1, none⟩ = some (.int .i64 (li : Int)) := by
            rw [hrow.cell (j' + 1) (by omega)]
            rw [List.getElem?_eq_getElem (by omega)] at hli
            rw [Option.some.inj hli]
          have cj : wr.cell? ⟨g, y, none⟩ = some (.int .i64 (ly : Int)) := by
            rw [hrow.cell y (by omega)]
            rw [List.getElem?_eq_getElem (by omega)] at hly
            rw [Option.some.inj hly]
          have HROW := Lib.hid hrow; have HBL := Lib.hid hb; have HLEN := Lib.hid hl
          obtain ⟨I, hI⟩ : ∃ I : Int, ((j' + 1 : Nat) : Int) = I := ⟨_, rfl⟩
          have hI1 : 1 ≤ I := by omega
          have hI2 : I < (i : Int) := by omega
          have hin : I.toNat = j' + 1 := by omega
          rw [← hin] at ci
          have fi := hrow.free I.toNat
          have fj := hrow.free y
          have hyk : (y : Int) < (i : Int) := by omega
          rw [hI] at D ⊢
          have HIN := Lib.hid hin; have HI := Lib.hid hI
          clear hI hin hli hly hl hrow hb
          have dI : decide (1 ≤ I) = true := by simp; omega
          have dS : decide (0 < s') = true := by simp; omega
          obtain ⟨v', hy'⟩ := cell?_setCell_some (w := wr) (p := ⟨g, I.toNat, none⟩) (x := .int .i64 (ly : Int)) (q := ⟨g, y, none⟩) (v := .int .i64 (ly : Int)) cj
          go_wp2_with fail
          refine (D _).mono ?_
          rintro e w5 ⟨rfl, rfl⟩
          go_wp2_with fail
          go_region
          have w7 : Rw ((wr.setCell ⟨g, I.toNat, none⟩ (.int .i64 (ly : Int))).setCell ⟨g, y, none⟩ (.int .i64 (li : Int))).drew g (swp l (j' + 1) y) := by
            rw [HIN.out, HSW.out]
            exact ((HROW.out.set (j' + 1) ly (by rw [HLEN.out]; exact hj)).set y li (by rw [List.length_set, HLEN.out]; omega)).drew
          have b7 : Bl w ((wr.setCell ⟨g, I.toNat, none⟩ (.int .i64 (ly : Int))).setCell ⟨g, y, none⟩ (.int .i64 (li : Int))).drew := Bl.drew (Below.setCell (Below.setCell HBL.out HG.out _) HG.out _)
          generalize ((wr.setCell ⟨g, I.toNat, none⟩ (.int .i64 (ly : Int))).setCell ⟨g, y, none⟩ (.int .i64 (li : Int))).drew = w8 at w7 b7 ⊢
          clear ci cj fi fj hy'
          go_wp2_with fail
          go_roundw
          case rel => exact ⟨j', x, swp l (j' + 1) y, rfl, by rw [show I - 1 = ((j' : Nat) : Int) by have := HI.out; omega], by omega, by rw [swp_len]; exact HLEN.out, .inr ⟨x1, x2, HSTEP.out⟩, w7, b7⟩
          case measure => simp [intOf]; omega
        · obtain rfl : l = ms := by
            rcases hcase with ⟨_, h⟩ | ⟨h1, _, h2⟩
            · exact h
            · obtain rfl : j = 0 := by omega
              exact h2
          have hx : j = 0 ∨ (1 ≤ j ∧ s' = 0) := by omega
          clear hcase hgo
          have hmk := HMK.out
          rcases hx with rfl | ⟨hj1, rfl⟩
          all_goals
            go_wp2_with fail
            have r0 := Rw.new wr (List.replicate i 0) 3
            have rm := hrow.keep (Bl.new wr (.cells (nums (List.replicate i 0)).toArray 3))
            have b3 := hb.trans (Bl.new wr (.cells (nums (List.replicate i 0)).toArray 3))
            have hle : w.heap.size ≤ wr.heap.size := Below.size hb
            have hne : g ≠ wr.heap.size := by have := hrow.lt; omega
            obtain ⟨q, hq⟩ : ∃ q, wr.heap.size = q := ⟨_, rfl⟩
            rw [hq] at r0 hle hne ⊢
            have HLE := Lib.hid hle; have HNE := Lib.hid hne
            clear hrow hb hle hne hq hmk
            generalize wr.alloc (.cells (nums (List.replicate i 0)).toArray 3) = w6 at r0 rm b3 ⊢
            go_loopw [15] (fun iv wr => ∃ u : Nat, u ≤ i ∧ iv = .int .i64 (u : Int) ∧ Rw wr g l ∧ Rw wr q (laid k 0 (l.take u) (List.replicate i 0)) ∧ Bl w wr) (fun iv _ => i - (intOf iv).toNat)
            case atStart => exact ⟨0, by omega, rfl, rm, by simpa [laid] using r0, b3⟩
            case round =>
              clear rm r0 b3
              obtain ⟨u, hu, rfl, rm, ro, hb⟩ := hrel
              by_cases hlt : u < i
              · have hlt' : (u : Int) < (i : Int) := by omega
                obtain ⟨t, ht⟩ : ∃ t, l[u]? = some t := ⟨_, List.getElem?_eq_getElem (by rw [HL.out]; exact hlt)⟩
                have htn : t < i := HT.out t (List.mem_of_getElem? ht)
                have htn' : (t : Int) < (i : Int) := by omega
                have c1 : wr.cell? ⟨g, u, none⟩ = some (.int .i64 (t : Int)) := by
                  have h : u < l.length := by rw [HL.out]; exact hlt
                  rw [rm.cell u h]
                  rw [List.getElem?_eq_getElem h] at ht
                  rw [Option.some.inj ht]
                have hlen : (laid k 0 (l.take u) (List.replicate i 0)).length = i := by rw [laid_len]; simp
                obtain ⟨v0, c2⟩ : ∃ v0, wr.cell? ⟨q, t, none⟩ = some v0 := ⟨_, ro.cell t (by rw [hlen]; exact htn)⟩
                have f2 := ro.free t
                obtain ⟨m, hm⟩ : ∃ m, u % k = m := ⟨_, rfl⟩
                have hmk : m < k := by rw [← hm]; exact Nat.mod_lt _ (by omega)
                have e2 : (u : Int) % (k : Int) = (m : Int) := by rw [← hm]; omega
                have e1 : (u : Int).tmod (k : Int) = (m : Int) := by rw [← hm]; rfl
                have hnew := ro.set t m (by rw [hlen]; exact htn)
                have hlaid : (laid k 0 (l.take u) (List.replicate i 0)).set t m = laid k 0 (l.take (u + 1)) (List.replicate i 0) := by
                  rw [List.take_add_one, ht, Option.toList_some, laid_snoc, List.length_take, HL.out, Nat.min_eq_left hu, Nat.zero_add, hm]
                rw [hlaid] at hnew
                have hfar := rm.far q t (.int .i64 (m : Int)) (Ne.symm HNE.out)
                have hbn : Bl w (wr.setCell ⟨q, t, none⟩ (.int .i64 (m : Int))) := Below.setCell hb HLE.out _
                have HNEW := Lib.hid hnew.drew; have HFAR := Lib.hid hfar.drew; have HBN := Lib.hid hbn.drew
                clear hnew hfar hbn hlaid hlen rm ro hb ht htn hm
                have hm0 : (m : Int) ≤ 40 := by omega
                go_wp2_with fail
                go_region
                go_wp2_with fail
                go_roundw
                case rel => exact ⟨u + 1, by omega, by go_num, by simpa using HFAR.out, by simpa using HNEW.out, by simpa using HBN.out⟩
                case measure => simp [intOf]; omega
              · obtain rfl : u = i := by omega
                rw [List.take_of_length_le (by rw [HL.out]; exact Nat.le_refl _), ← HF.out] at ro
                go_wp2_with fail
                go_ret2
                exact ⟨q, rfl, HLE.out, ro, hb⟩

theorem start_no (s : Int) (w : World) (hs : ¬ (s = 0 ∨ (1 ≤ s ∧ s ≤ 2147483646))) :
    Calls Tryz.prog 30 #[.int .i64 s] w fun e w' => e = .returned (.bool false) ∧ Bl w w' := by
  have hz : (s == 0) = false := by simp; omega
  have S := fun w => sound_no s w (by omega)
  go_enter Tryz.func30, Tryz.ntmps30
  go_wp2_with (go_at_call_of 27 (Value.agg #[.int .i64 s]); refine (S _).mono ?_; rintro e w1 ⟨rfl, hb⟩)
  go_ret
  exact ⟨rfl, by assumption⟩
/-- What Folds asks. -/
def FOk (n k s : Int) : Prop := (1 ≤ n ∧ n ≤ 40) ∧ (1 ≤ k ∧ k ≤ n) ∧ (s = 0 ∨ (1 ≤ s ∧ s ≤ 2147483646))
theorem folds_no (n k s : Int) (w : World) (h : ¬ FOk n k s) :
    Calls Tryz.prog 12 #[.int .i64 n, .int .i64 k, .int .i64 s] w fun e w' => e = .returned (.tuple #[.slice none 0 0, .int .i64 2]) ∧ Bl w w' := by
  by_cases h1 : n < 1
  · have d1 : decide (n < 1) = true := by simp; omega
    go_enter Tryz.func12, Tryz.ntmps12
    go_wp2_with fail
    go_ret2
    exact ⟨rfl, Bl.refl w⟩
  have d1 : decide (n < 1) = false := by simp; omega
  by_cases h2 : 40 < n
  · have d2 : decide (40 < n) = true := by simp; omega
    go_enter Tryz.func12, Tryz.ntmps12
    go_wp2_with fail
    go_ret2
    exact ⟨rfl, Bl.refl w⟩
  have d2 : decide (40 < n) = false := by simp; omega
  by_cases h3 : k < 1
  · have d3 : decide (k < 1) = true := by simp; omega
    go_enter Tryz.func12, Tryz.ntmps12
    go_wp2_with fail
    go_ret2
    exact ⟨rfl, Bl.refl w⟩
  have d3 : decide (k < 1) = false := by simp; omega
  by_cases h4 : n < k
  · have d4 : decide (n < k) = true := by simp; omega
    go_enter Tryz.func12, Tryz.ntmps12
    go_wp2_with fail
    go_ret2
    exact ⟨rfl, Bl.refl w⟩
  have d4 : decide (n < k) = false := by simp; omega
  have S := fun w => start_no s w (fun hs => h ⟨⟨by omega, by omega⟩, ⟨by omega, by omega⟩, hs⟩)
  clear h h1 h2 h3 h4
  go_enter Tryz.func12, Tryz.ntmps12
  go_wp2_with (go_at_call_of 30 (Value.int IntKind.i64 s); refine (S _).mono ?_; rintro e w1 ⟨rfl, hb1⟩)
  go_ret2
  exact ⟨rfl, by assumption⟩
theorem reffolds_no (n k s : Int) (w : World) (h : ¬ FOk n k s) :
    Calls Tryz.prog 13 #[.int .i64 n, .int .i64 k, .int .i64 s] w fun e w' => e = .returned (.tuple #[.slice none 0 0, .int .i64 2]) ∧ Bl w w' := by
  by_cases h1 : n < 1
  · have d1 : decide (n < 1) = true := by simp; omega
    go_enter Tryz.func13, Tryz.ntmps13
    go_wp2_with fail
    go_ret2
    exact ⟨rfl, Bl.refl w⟩
  have d1 : decide (n < 1) = false := by simp; omega
  by_cases h2 : 40 < n
  · have d2 : decide (40 < n) = true := by simp; omega
    go_enter Tryz.func13, Tryz.ntmps13
    go_wp2_with fail
    go_ret2
    exact ⟨rfl, Bl.refl w⟩
  have d2 : decide (40 < n) = false := by simp; omega
  by_cases h3 : k < 1
  · have d3 : decide (k < 1) = true := by simp; omega
    go_enter Tryz.func13, Tryz.ntmps13
    go_wp2_with fail
    go_ret2
    exact ⟨rfl, Bl.refl w⟩
  have d3 : decide (k < 1) = false := by simp; omega
  by_cases h4 : n < k
  · have d4 : decide (n < k) = true := by simp; omega
    go_enter Tryz.func13, Tryz.ntmps13
    go_wp2_with fail
    go_ret2
    exact ⟨rfl, Bl.refl w⟩
  have d4 : decide (n < k) = false := by simp; omega
  have hs : ¬ (s = 0 ∨ (1 ≤ s ∧ s ≤ 2147483646)) := fun hs => h ⟨⟨by omega, by omega⟩, ⟨by omega, by omega⟩, hs⟩
  clear h h1 h2 h3 h4
  by_cases h5 : s < 0
  · have d5 : decide (s < 0) = true := by simp; omega
    clear hs
    go_enter Tryz.func13, Tryz.ntmps13
    go_wp2_with fail
    go_ret2
    exact ⟨rfl, Bl.refl w⟩
  have d5 : decide (s < 0) = false := by simp; omega
  have d6 : decide (2147483646 < s) = true := by simp; omega
  clear hs h5
  go_enter Tryz.func13, Tryz.ntmps13
  go_wp2_with fail
  go_ret2
  exact ⟨rfl, Bl.refl w⟩
/-- A slice that reads as a list of numbers, or nil. -/
def SlV (w : World) (v : Value) : Option (List Nat) → Prop
  | none => v = .slice none 0 0
  | some l => ∃ g, v = .slice (some ⟨g, 0, none⟩) l.length l.length ∧ Rw w g l ∧ l.length ≤ 40
theorem SlV.keep {w w' : World} {v : Value} (hb : Bl w w') : ∀ {l : Option (List Nat)}, SlV w v l → SlV w' v l
  | none, h => h
  | some _, ⟨g, h1, h2, h3⟩ => ⟨g, h1, h2.keep hb, h3⟩
theorem folds_two (n k s : Int) : ∃ (e : Int) (l : Option (List Nat)),
    (∀ w, Calls Tryz.prog 12 #[.int .i64 n, .int .i64 k, .int .i64 s] w fun x w' => ∃ v, x = .returned (.tuple #[v, .int .i64 e]) ∧ SlV w' v l ∧ Bl w w') ∧
    ∀ w, Calls Tryz.prog 13 #[.int .i64 n, .int .i64 k, .int .i64 s] w fun x w' => ∃ v, x = .returned (.tuple #[v, .int .i64 e]) ∧ SlV w' v l ∧ Bl w w' := by
  by_cases h : FOk n k s
  · obtain ⟨⟨h1, h2⟩, ⟨h3, h4⟩, hs⟩ := h
    obtain ⟨N, rfl⟩ : ∃ N : Nat, n = (N : Int) := ⟨n.toNat, by omega⟩
    obtain ⟨K, rfl⟩ : ∃ K : Nat, k = (K : Int) := ⟨k.toNat, by omega⟩
    have hl := folds_len N K s
    refine ⟨0, some (folds N K s), fun w => ?_, fun w => ?_⟩
    · refine (folds_ok N K s w (by omega) (by omega) (by omega) (by omega) hs).mono ?_
      rintro x w' ⟨g, rfl, _, hr, hb⟩
      exact ⟨_, rfl, ⟨g, by rw [hl], hr, by omega⟩, hb⟩
    · refine (reffolds_yes N K s w (by omega) (by omega) (by omega) (by omega) hs).mono ?_
      rintro x w' ⟨g, rfl, _, hr, hb⟩
      exact ⟨_, rfl, ⟨g, by rw [hl], hr, by omega⟩, hb⟩
  · exact ⟨2, none, fun w => (folds_no n k s w h).mono fun x w' ⟨hx, hb⟩ => ⟨_, hx, rfl, hb⟩, fun w => (reffolds_no n k s w h).mono fun x w' ⟨hx, hb⟩ => ⟨_, hx, rfl, hb⟩⟩
theorem equal_nil (w : World) : Calls Tryz.prog 14 #[.slice none 0 0, .slice none 0 0] w fun e w' => e = .returned (.bool true) ∧ Bl w w' := by
  go_enter Tryz.func14, Tryz.ntmps14
  go_wp2_with fail
  refine wp_loop_rounds 1 ?_
  rw [rounds_succ]; go_wp2_with fail
  go_ret
  exact ⟨rfl, Bl.refl w⟩
theorem equal_two (v u : Value) (l : Option (List Nat)) (w : World) (hv : SlV w v l) (hu : SlV w u l) : Calls Tryz.prog 14 #[v, u] w fun e w' => e = .returned (.bool true) ∧ Bl w w' := by
  cases l with
  | none => cases hv; cases hu; exact equal_nil w
  | some l =>
    obtain ⟨g, rfl, hg, hl⟩ := hv
    obtain ⟨g', rfl, hg', _⟩ := hu
    exact equal_yes g g' l.length l w rfl hl hg hg'
theorem idx3 (a b c : Value) (i : Nat) (hi : i < 3) : ∃ v, (v = a ∨ v = b ∨ v = c) ∧ ∀ w : World, (Instr.index 24 (.agg #[a, b, c]) (.int .i64 (i : Int))).run Tryz.prog w = .ok v w := by
  obtain rfl | rfl | rfl : i = 0 ∨ i = 1 ∨ i = 2 := by omega
  · exact ⟨a, .inl rfl, fun w => by kernel_rfl⟩
  · exact ⟨b, .inr (.inl rfl), fun w => by kernel_rfl⟩
  · exact ⟨c, .inr (.inr rfl), fun w => by kernel_rfl⟩
theorem idx22 (a b c d : Value) (i : Nat) (hi : i < 2) : ∃ v, (v = .agg #[a, b] ∨ v = .agg #[c, d]) ∧ ∀ w : World, (Instr.index 30 (.agg #[a, b, c, d]) (.int .i64 (i : Int))).run Tryz.prog w = .ok v w := by
  obtain rfl | rfl : i = 0 ∨ i = 1 := by omega
  · exact ⟨_, .inl rfl, fun w => by kernel_rfl⟩
  · exact ⟨_, .inr rfl, fun w => by kernel_rfl⟩
theorem draws_walk (seed n k : Int) (w : World)
    (hw : ∀ v : World, Bl w v → Calls Tryz.prog 6 #[] v fun e w' => e = .returned (.bool true) ∧ Bl v w') :
    Calls Tryz.prog 3 #[.int .i64 seed, .int .i64 n, .int .i64 k] w fun e w' => e = .returned (.bool true) ∧ Bl w w' := by
  obtain ⟨s1, hs⟩ : ∃ s, sd seed = s := ⟨_, rfl⟩
  have S := fun w => seeded_ok seed w
  rw [hs] at S
  clear hs
  obtain ⟨n', hn'⟩ : ∃ x, wrap64 (1 + wrap64 ((IntKind.u64.wrap n).tmod 40)) = x := ⟨_, rfl⟩
  obtain ⟨k', hk'⟩ : ∃ x, wrap64 (1 + wrap64 ((IntKind.u64.wrap k).tmod 40)) = x := ⟨_, rfl⟩
  have HJ := Lib.hid (fun i hi => idx22 (.int .i64 n) (.int .i64 k) (.int .i64 n') (.int .i64 k') i hi)
  have HI := Lib.hid (fun i hi => idx3 (.int .i64 seed) (.int .i64 s1) (.int .i64 0) i hi)
  have HW := Lib.hid hw; clear hw
  go_enter Tryz.func3, Tryz.ntmps3
  go_wp2_with fail
  refine (HW.out _ (Bl.refl w)).mono ?_
  rintro e w1 ⟨rfl, hb1⟩
  go_wp2_with fail
  refine (S _).mono ?_
  rintro e w2 ⟨rfl, rfl⟩
  clear S HW
  go_wp2_with fail
  go_loopw [8, 9, 10, 11, 12, 14, 15, 16, 17, 18, 19, 20, 21, 22, 23, 24, 31] (fun _ _ _ _ _ _ _ _ _ _ _ _ _ _ _ _ iv wr => ∃ i : Nat, i ≤ 3 ∧ iv = .int .i64 (i : Int) ∧ Bl w wr) (fun _ _ _ _ _ _ _ _ _ _ _ _ _ _ _ _ iv _ => 3 - (intOf iv).toNat)
  case atStart => exact ⟨0, by omega, rfl, hb1⟩
  case round =>
    clear hb1
    obtain ⟨i, hi, rfl, hb⟩ := hrel
    by_cases hlt : i < 3
    · have hlt' : (i : Int) < 3 := by omega
      obtain ⟨v, hv, hix⟩ := HI.out i hlt
      obtain ⟨s, rfl⟩ : ∃ s : Int, v = .int .i64 s := by rcases hv with rfl | rfl | rfl <;> exact ⟨_, rfl⟩
      clear hv
      obtain ⟨a, e, NA, NB⟩ := next_two s
      go_wp2_with fail
      refine (NA _).mono ?_
      rintro x w3 ⟨rfl, h3⟩
      have b3 := hb.trans h3
      clear hb h3 NA hix
      go_wp2_with fail
      refine (NB _).mono ?_
      rintro x w4 ⟨rfl, rfl⟩
      clear NB
      go_wp2_with fail
      clear hn' hk'
      go_loopw [14, 15, 16, 17, 18, 19, 20, 21, 22, 23, 24, 67] (fun _ _ _ _ _ _ _ _ _ _ _ iv wr => ∃ j : Nat, j ≤ 2 ∧ iv = .int .i64 (j : Int) ∧ Bl w wr) (fun _ _ _ _ _ _ _ _ _ _ _ iv _ => 2 - (intOf iv).toNat)
      case atStart => exact ⟨0, by omega, rfl, b3⟩
      case round =>
        clear b3
        obtain ⟨j, hj, rfl, hb⟩ := hrel
        by_cases hjt : j < 2
        · have hjt' : (j : Int) < 2 := by omega
          obtain ⟨u, hu, hix⟩ := HJ.out j hjt
          obtain ⟨p, q, rfl⟩ : ∃ p q : Int, u = .agg #[.int .i64 p, .int .i64 q] := by rcases hu with rfl | rfl <;> exact ⟨_, _, rfl⟩
          clear hu
          obtain ⟨dv, dx, df, DA, DB⟩ := draw_two s p
          obtain ⟨fe, l, FA, FB⟩ := folds_two p q s
          go_wp2_with fail
          refine (DA _).mono ?_
          rintro x w5 ⟨rfl, h5⟩
          have a0 := h5.cell (c_new wr #[.int .i64 p, .int .i64 q] 28 0)
          have a1 := h5.cell (c_new wr #[.int .i64 p, .int .i64 q] 28 1)
          have b5 := (hb.trans (Bl.new wr (.cells #[.int .i64 p, .int .i64 q] 28))).trans h5
          clear hb h5 DA hix
          go_wp2_with fail
          refine (DB _).mono ?_
          rintro x w6 ⟨rfl, rfl⟩
          clear DB
          go_wp2_with fail
          refine (FA _).mono ?_
          rintro x w7 ⟨va, rfl, sa, h7⟩
          have a0 := h7.cell a0
          have a1 := h7.cell a1
          have b7 := b5.trans h7
          clear b5 h7 FA
          go_wp2_with fail
          refine (FB _).mono ?_
          rintro x w8 ⟨vb, rfl, sb, h8⟩
          have E := equal_two va vb l w8 (sa.keep h8) sb
          have b8 := b7.trans h8
          clear b7 h8 FB a0 a1 sa sb
          go_wp2_with (go_at_call_of 14 va; refine E.mono ?_; rintro e w9 ⟨rfl, h9⟩)
          go_roundw
          case rel => exact ⟨j + 1, by omega, by go_num, b8.trans (by assumption)⟩
          case measure => simp [intOf]; omega
        · obtain rfl : j = 2 := by omega
          go_wp2_with fail
          go_roundw
          case rel => exact ⟨i + 1, by omega, by go_num, hb⟩
          case measure => simp [intOf]; omega
    · obtain rfl : i = 3 := by omega
      go_wp2_with fail
      go_ret
      exact ⟨rfl, hb⟩
end Go.Proofs.YtccjmmdppjialaaGreatDoor
