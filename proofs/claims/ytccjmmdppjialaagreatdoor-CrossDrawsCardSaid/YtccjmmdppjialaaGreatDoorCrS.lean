/- CrossSizes: for every input the law returns true and leaves what was there as it was. -/
import Derived.Test.YtccjmmdppjialaaGreatDoorCrC
import Derived.Test.YtccjmmdppjialaaGreatDoorCrG
namespace Go.Proofs.YtccjmmdppjialaaGreatDoor
open Go.RowKit
set_option maxRecDepth 20000
set_option maxHeartbeats 3200000

theorem equal_yes (g1 g2 n : Nat) (l : List Nat) (w : World) (hl : l.length = n) (hn : n ≤ 40) (h1 : Rw w g1 l) (h2 : Rw w g2 l) :
    Calls Tryz.prog 14 #[.slice (some ⟨g1, 0, none⟩) n n, .slice (some ⟨g2, 0, none⟩) n n] w fun e w' => e = .returned (.bool true) ∧ Bl w w' := by
  have HL := Lib.hid hl; clear hl
  have hn' : (n : Int) ≤ 40 := by omega
  go_enter Tryz.func14, Tryz.ntmps14
  go_wp2_with fail
  go_loopw [5, 13] (fun _ iv wr => ∃ i : Nat, i ≤ n ∧ iv = .int .i64 (i : Int) ∧ Rw wr g1 l ∧ Rw wr g2 l ∧ Bl w wr) (fun _ iv _ => n - (intOf iv).toNat)
  case atStart => exact ⟨0, by omega, rfl, h1, h2, Bl.refl w⟩
  case round =>
    clear h1 h2
    obtain ⟨i, hi, rfl, r1, r2, hb⟩ := hrel
    by_cases hlt : i < n
    · have hlt' : (i : Int) < (n : Int) := by omega
      have c1 := r1.cell i (by rw [HL.out]; exact hlt)
      have c2 := r2.cell i (by rw [HL.out]; exact hlt)
      obtain ⟨x, hx⟩ : ∃ x : Int, ((l[i]'(by rw [HL.out]; exact hlt) : Nat) : Int) = x := ⟨_, rfl⟩
      rw [hx] at c1 c2
      clear hx
      have R1 := Lib.hid r1; have R2 := Lib.hid r2; have HB := Lib.hid hb
      clear r1 r2 hb
      go_wp2_with fail
      go_quiet (fail)
      go_wp2_with fail
      go_roundw
      case rel => exact ⟨i + 1, by omega, by go_num, R1.out.keep ((Bl.refl wr).drewN nq), R2.out.keep ((Bl.refl wr).drewN nq), HB.out.drewN nq⟩
      case measure => simp [intOf]; omega
    · obtain rfl : i = n := by omega
      go_wp2_with fail
      go_ret
      exact ⟨rfl, hb⟩
/-- How many of a list are each number below k. -/
def cntL (k : Nat) (l : List Nat) : List Nat := (List.range k).map fun x => l.count x
theorem cntL_len (k : Nat) (l : List Nat) : (cntL k l).length = k := by simp [cntL]
theorem cntL_nil (k : Nat) : cntL k [] = List.replicate k 0 := by
  apply List.ext_getElem
  · simp [cntL]
  · intro i h1 h2; simp [cntL]
theorem cntL_snoc (k : Nat) (l : List Nat) (x : Nat) : cntL k (l ++ [x]) = (cntL k l).set x (l.count x + 1) := by
  apply List.ext_getElem
  · simp [cntL]
  · intro i h1 h2
    rw [List.getElem_set]
    simp only [cntL, List.getElem_map, List.getElem_range, List.count_append, List.count_cons, List.count_nil, beq_iff_eq]
    split <;> simp_all
theorem idx2 (a b : Value) (w : World) : (Instr.index 28 (.agg #[a, b]) (.int .i64 0)).run Tryz.prog w = .ok a w := by kernel_rfl
theorem idx2' (a b : Value) (w : World) : (Instr.index 28 (.agg #[a, b]) (.int .i64 1)).run Tryz.prog w = .ok b w := by kernel_rfl
theorem idx_any (s1 : Int) (h1 : 1 ≤ s1) (h2 : s1 ≤ 2147483646) (i : Nat) (hi : i < 2) : ∃ s : Int, (s = 0 ∨ (1 ≤ s ∧ s ≤ 2147483646)) ∧ ∀ w : World, (Instr.index 28 (.agg #[.int .i64 s1, .int .i64 0]) (.int .i64 (i : Int))).run Tryz.prog w = .ok (.int .i64 s) w := by
  obtain rfl | rfl : i = 0 ∨ i = 1 := by omega
  · exact ⟨s1, .inr ⟨h1, h2⟩, fun w => idx2 _ _ w⟩
  · exact ⟨0, .inl rfl, fun w => idx2' _ _ w⟩
theorem sizes_walk (x0 x1 seed : Int) (w : World) (b0 : 0 ≤ x0 ∧ x0 ≤ 255) (b1 : 0 ≤ x1 ∧ x1 ≤ 255)
    (hw : ∀ v : World, Bl w v → Calls Tryz.prog 6 #[] v fun e w' => e = .returned (.bool true) ∧ Bl v w') :
    Calls Tryz.prog 4 #[.int .u8 x0, .int .u8 x1, .int .i64 seed] w fun e w' => e = .returned (.bool true) ∧ Bl w w' := by
  obtain ⟨h1, h2⟩ := sd_range seed
  obtain ⟨s1, hs⟩ : ∃ s, sd seed = s := ⟨_, rfl⟩
  have S := fun w => seeded_ok seed w
  rw [hs] at h1 h2 S
  clear hs
  obtain ⟨p0, p1⟩ := b0
  obtain ⟨q0, q1⟩ := b1
  obtain ⟨m, hm⟩ : ∃ m : Nat, 1 + x0 % 40 = (m : Int) := ⟨(1 + x0 % 40).toNat, by omega⟩
  have m1 : 1 ≤ (m : Int) := by omega
  have m2 : (m : Int) ≤ 40 := by omega
  have hr0 : 0 ≤ x1 % (m : Int) := Int.emod_nonneg _ (by omega)
  have hr1 : x1 % (m : Int) < (m : Int) := Int.emod_lt_of_pos _ (by omega)
  obtain ⟨f, hf⟩ : ∃ f : Nat, 1 + x1 % (m : Int) = (f : Int) := ⟨(1 + x1 % (m : Int)).toNat, by omega⟩
  have f1 : 1 ≤ (f : Int) := by omega
  have f2 : (f : Int) ≤ (m : Int) := by omega
  have HI := Lib.hid (idx_any s1 h1 h2)
  have HW := Lib.hid hw; clear hw
  clear h1 h2
  have hmk := make_nums f (by omega)
  go_enter Tryz.func4, Tryz.ntmps4
  go_wp2_with fail
  refine (HW.out _ (Bl.refl w)).mono ?_
  rintro e w1 ⟨rfl, hb1⟩
  go_wp2_with fail
  refine (S _).mono ?_
  rintro e w2 ⟨rfl, rfl⟩
  clear S HW
  go_wp2_with fail
  clear hm hf hr0 hr1 p0 p1 q0 q1
  go_loopw [10, 11, 12, 13, 14, 15, 16, 17, 19, 34] (fun _ _ _ _ _ _ _ _ _ iv wr => ∃ i : Nat, i ≤ 2 ∧ iv = .int .i64 (i : Int) ∧ Bl w wr) (fun _ _ _ _ _ _ _ _ _ iv _ => 2 - (intOf iv).toNat)
  case atStart => exact ⟨0, by omega, rfl, hb1⟩
  case round =>
    clear hb1
    obtain ⟨i, hi, rfl, hb⟩ := hrel
    by_cases hlt : i < 2
    · have hlt' : (i : Int) < 2 := by omega
      obtain ⟨s, hs, hix⟩ := HI.out i hlt
      have F := fun w => folds_ok m f s w (by omega) (by omega) (by omega) (by omega) hs
      have HS := Lib.hid hs; clear hs
      go_wp2_with fail
      refine (F _).mono ?_
      rintro e w3 ⟨ga, rfl, _, ra, hb3⟩
      have ba := hb.trans hb3
      clear hb hb3 hix
      go_wp2_with fail
      refine (F _).mono ?_
      rintro e w4 ⟨gb, rfl, _, rb, hb4⟩
      have ra := ra.keep hb4
      have bb := ba.trans hb4
      clear ba hb4
      have E := equal_yes ga gb m (folds m f s) w4 (folds_len m f s) (by omega) ra rb
      clear rb
      go_wp2_with (go_at_call_of 14 (Value.slice (some ⟨ga, 0, none⟩) m m); refine E.mono ?_; rintro e w5 ⟨rfl, hb5⟩)
      have ra := (ra.keep hb5).keep (Bl.new w5 (.cells (nums (List.replicate f 0)).toArray 3))
      have rm : Rw (w5.alloc (.cells (nums (List.replicate f 0)).toArray 3)) w5.heap.size (cntL f []) := by rw [cntL_nil]; exact Rw.new w5 (List.replicate f 0) 3
      have bm := (bb.trans hb5).trans (Bl.new w5 (.cells (nums (List.replicate f 0)).toArray 3))
      have hle : w.heap.size ≤ w5.heap.size := Below.size (bb.trans hb5)
      have hne : ga ≠ w5.heap.size := by have := (show Rw w4 ga _ from by assumption).lt; have := Below.size hb5; omega
      clear bb hb5 E F
      obtain ⟨gm, hgm⟩ : ∃ g, w5.heap.size = g := ⟨_, rfl⟩
      rw [hgm] at rm hle hne ⊢
      have HLE := Lib.hid hle; have HNE := Lib.hid hne
      clear hle hne hgm
      generalize w5.alloc (.cells (nums (List.replicate f 0)).toArray 3) = w6 at ra rm bm ⊢
      have hlen := folds_len m f s
      have hall := folds_lt m f s (by omega) (by omega)
      have hcnt := fun x hx => folds_count m f s (by omega) x hx
      have hzero : s = 0 → ∀ j, j < m → (folds m f s)[j]? = some (j % f) := fun h => by subst h; exact folds_zero m f
      obtain ⟨l, hl⟩ : ∃ l, folds m f s = l := ⟨_, rfl⟩
      rw [hl] at ra hlen hall hcnt hzero
      have HLEN := Lib.hid hlen; have HALL := Lib.hid hall; have HCNT := Lib.hid hcnt; have HZ := Lib.hid hzero
      clear hl hlen hall hcnt hzero
      go_loopw [16, 17, 73] (fun _ _ iv wr => ∃ j : Nat, j ≤ m ∧ iv = .int .i64 (j : Int) ∧ Rw wr ga l ∧ Rw wr gm (cntL f (l.take j)) ∧ Bl w wr) (fun _ _ iv _ => m - (intOf iv).toNat)
      case atStart => exact ⟨0, by omega, rfl, ra, by simpa using rm, bm⟩
      case round =>
        clear ra rm bm
        obtain ⟨j, hj, rfl, ra, rm, hb⟩ := hrel
        by_cases hjt : j < m
        · have hjt' : (j : Int) < (m : Int) := by omega
          have hjl : j < l.length := by rw [HLEN.out]; exact hjt
          obtain ⟨x, hx⟩ : ∃ x, l[j]? = some x := ⟨_, List.getElem?_eq_getElem hjl⟩
          have hxf : x < f := HALL.out x (List.mem_of_getElem? hx)
          have hxf' : (x : Int) < (f : Int) := by omega
          have c1 := ra.cell j hjl
          have hx' := hx
          rw [List.getElem?_eq_getElem hjl] at hx'
          rw [Option.some.inj hx'] at c1
          have hcl : x < (cntL f (l.take j)).length := by rw [cntL_len]; exact hxf
          have c2 := rm.cell x hcl
          have f2 := rm.free x
          have hcv : (cntL f (l.take j))[x]'hcl = (l.take j).count x := by simp [cntL]
          rw [hcv] at c2
          have hle : (l.take j).count x ≤ 40 := by
            have := List.count_le_length (a := x) (l := l.take j)
            rw [List.length_take] at this
            omega
          have hnew := rm.set x ((l.take j).count x + 1) hcl
          have htk : (cntL f (l.take j)).set x ((l.take j).count x + 1) = cntL f (l.take (j + 1)) := by rw [List.take_add_one, hx, Option.toList_some, cntL_snoc]
          rw [htk] at hnew
          obtain ⟨c, hc⟩ : ∃ c, (l.take j).count x = c := ⟨_, rfl⟩
          rw [hc] at c2 hnew hle
          have hfar := ra.far gm x (.int .i64 ((c + 1 : Nat) : Int)) (Ne.symm HNE.out)
          have hbn : Bl w (wr.setCell ⟨gm, x, none⟩ (.int .i64 ((c + 1 : Nat) : Int))) := Below.setCell hb HLE.out _
          have ec : ((c + 1 : Nat) : Int) = (c : Int) + 1 := by omega
          rw [ec] at hnew hfar hbn
          have HNEW := Lib.hid hnew; have HFAR := Lib.hid hfar; have HBN := Lib.hid hbn
          have hz : s = 0 → x = j % f := fun h => by
            have := HZ.out h j hjt
            rw [hx] at this
            exact Option.some.inj this
          clear hnew hfar hbn htk hc hcv hcl hx hx' ra rm hb ec
          by_cases hs0 : s = 0
          · have hxj := hz hs0
            subst hs0
            obtain ⟨y, hy⟩ : ∃ y, j % f = y := ⟨_, rfl⟩
            have e2 : (j : Int) % (f : Int) = (y : Int) := by rw [← hy]; omega
            have e1 : (j : Int).tmod (f : Int) = (y : Int) := by rw [← hy]; rfl
            rw [hy] at hxj
            subst hxj
            clear hy hz
            go_wp2_with fail
            go_roundw
            case rel => exact ⟨j + 1, by omega, by go_num, HFAR.out, HNEW.out, HBN.out⟩
            case measure => simp [intOf]; omega
          · have hs1 : (s == 0) = false := by simp [hs0]
            clear hz hs0
            go_wp2_with fail
            go_roundw
            case rel => exact ⟨j + 1, by omega, by go_num, HFAR.out, HNEW.out, HBN.out⟩
            case measure => simp [intOf]; omega
        · obtain rfl : j = m := by omega
          rw [List.take_of_length_le (by rw [HLEN.out]; exact Nat.le_refl _)] at rm
          clear ra
          go_wp2_with fail
          obtain ⟨q, hq⟩ : ∃ q, j / f = q := ⟨_, rfl⟩
          obtain ⟨r, hr⟩ : ∃ r, (j + f - 1) / f = r := ⟨_, rfl⟩
          have hq40 : q ≤ j := by rw [← hq]; exact Nat.div_le_self _ _
          have hr80 : r ≤ j + f - 1 := by rw [← hr]; exact Nat.div_le_self _ _
          have hbd : ∀ x, x < f → q ≤ l.count x ∧ l.count x ≤ r := fun x hx => by
            have := cnt_le j f x (by omega)
            rw [← HCNT.out x hx, hq, hr] at this
            exact this
          have e1 : (j : Int).tdiv (f : Int) = (q : Int) := by rw [← hq]; rfl
          have e2 : (j : Int) / (f : Int) = (q : Int) := by rw [← hq]; rfl
          have e0 : ((j + f - 1 : Nat) : Int) = (j : Int) + (f : Int) - 1 := by omega
          have e3 : ((j : Int) + (f : Int) - 1).tdiv (f : Int) = (r : Int) := by rw [← hr, ← e0]; rfl
          have e4 : ((j : Int) + (f : Int) - 1) / (f : Int) = (r : Int) := by rw [← hr, ← e0]; rfl
          have HBD := Lib.hid hbd
          clear hq hr hbd e0
          go_loopw [19, 105] (fun _ iv wr => ∃ x : Nat, x ≤ f ∧ iv = .int .i64 (x : Int) ∧ Rw wr gm (cntL f l) ∧ Bl w wr) (fun _ iv _ => f - (intOf iv).toNat)
          case atStart => exact ⟨0, by omega, rfl, rm, hb⟩
          case round =>
            clear rm hb
            obtain ⟨x, hx, rfl, rm, hb⟩ := hrel
            by_cases hxf : x < f
            · have hxf' : (x : Int) < (f : Int) := by omega
              have hcl : x < (cntL f l).length := by rw [cntL_len]; exact hxf
              have c1 := rm.cell x hcl
              have hcv : (cntL f l)[x]'hcl = l.count x := by simp [cntL]
              rw [hcv] at c1
              obtain ⟨lo, hi2⟩ := HBD.out x hxf
              obtain ⟨c, hc⟩ : ∃ c, l.count x = c := ⟨_, rfl⟩
              rw [hc] at c1 lo hi2
              have lo' : decide ((c : Int) < (q : Int)) = false := by simp; omega
              have hi' : decide ((r : Int) < (c : Int)) = false := by simp; omega
              have RM := Lib.hid rm; have HB := Lib.hid hb
              clear hc hcv hcl rm hb
              go_wp2_with fail
              go_roundw
              case rel => exact ⟨x + 1, by omega, by go_num, RM.out, HB.out⟩
              case measure => simp [intOf]; omega
            · obtain rfl : x = f := by omega
              clear e1 e2 e3 e4
              go_wp2_with fail
              go_roundw
              case rel => exact ⟨i + 1, by omega, by go_num, hb⟩
              case measure => simp [intOf]; omega
    · obtain rfl : i = 2 := by omega
      go_wp2_with fail
      go_ret
      exact ⟨rfl, hb⟩
end Go.Proofs.YtccjmmdppjialaaGreatDoor
