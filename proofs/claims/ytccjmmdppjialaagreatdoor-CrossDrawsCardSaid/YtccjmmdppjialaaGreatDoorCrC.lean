/- Contract of Folds. -/
import Derived.Test.YtccjmmdppjialaaGreatDoorCrB
import Derived.Deep.RegionWith
namespace Go.Proofs.YtccjmmdppjialaaGreatDoor
open Go.RowKit
set_option maxRecDepth 20000
set_option maxHeartbeats 3200000

theorem start_yes (s : Int) (w : World) (hs : s = 0 ∨ (1 ≤ s ∧ s ≤ 2147483646)) :
    Calls Tryz.prog 30 #[.int .i64 s] w fun e w' => e = .returned (.bool true) ∧ Bl w w' := by
  rcases hs with rfl | ⟨h1, h2⟩
  · go_enter Tryz.func30, Tryz.ntmps30
    go_wp2_with fail
    go_ret
    exact ⟨rfl, Bl.refl w⟩
  · have hz : (s == 0) = false := by simp; omega
    have S := fun w => sound_yes s w h1 h2
    go_enter Tryz.func30, Tryz.ntmps30
    go_wp2_with (go_at_call_of 27 (Value.agg #[.int .i64 s]); refine (S _).mono ?_; rintro e w1 ⟨rfl, hb⟩)
    go_ret
    exact ⟨rfl, by assumption⟩
theorem laid_snoc (k : Nat) : ∀ (i : Nat) (ts : List Nat) (t : Nat) (o : List Nat), laid k i (ts ++ [t]) o = (laid k i ts o).set t ((i + ts.length) % k)
  | i, [], t, o => by simp [laid]
  | i, x :: ts, t, o => by
    simp only [List.cons_append, laid, laid_snoc k (i + 1) ts t, List.length_cons]
    congr 2
    omega
theorem folds_ok (n k : Nat) (s : Int) (w : World) (hn : 1 ≤ n) (hn2 : n ≤ 40) (hk : 1 ≤ k) (hkn : k ≤ n) (hs : s = 0 ∨ (1 ≤ s ∧ s ≤ 2147483646)) :
    Calls Tryz.prog 12 #[.int .i64 (n : Int), .int .i64 (k : Int), .int .i64 s] w fun e w' => ∃ g, e = .returned (.tuple #[.slice (some ⟨g, 0, none⟩) n n, .int .i64 0]) ∧ w.heap.size ≤ g ∧ Rw w' g (folds n k s) ∧ Bl w w' := by
  have hmk := make_nums n (by omega)
  have S := fun w => start_yes s w hs
  have X := fun w => mixed_ok n s w hn hn2 hs
  have hlen : (mixed n s).length = n := by rw [(mixed_perm n s (by omega)).length_eq]; simp
  have hlt : ∀ t ∈ mixed n s, t < n := fun t ht => by simpa using (mixed_perm n s (by omega)).mem_iff.1 ht
  have hfold : folds n k s = laid k 0 (mixed n s) (List.replicate n 0) := rfl
  have HF := Lib.hid hfold
  obtain ⟨ms, hms⟩ : ∃ ms, mixed n s = ms := ⟨_, rfl⟩
  rw [hms] at hlen hlt X HF
  clear hms hs hfold
  have hn' : (1 : Int) ≤ (n : Int) := by omega
  have hn2' : (n : Int) ≤ 40 := by omega
  have hk' : (1 : Int) ≤ (k : Int) := by omega
  have hkn' : (k : Int) ≤ (n : Int) := by omega
  have d1 : decide ((n : Int) < 1) = false := by simp; omega
  have d2 : decide (40 < (n : Int)) = false := by simp; omega
  have d3 : decide ((k : Int) < 1) = false := by simp; omega
  have d4 : decide (n < k) = false := by simp; omega
  have HL := Lib.hid hlen; have HT := Lib.hid hlt; clear hlen hlt
  go_enter Tryz.func12, Tryz.ntmps12
  go_wp2_with (go_at_call_of 30 (Value.int IntKind.i64 s); refine (S _).mono ?_; rintro e w1 ⟨rfl, hb1⟩)
  refine (X _).mono ?_
  rintro e w3 ⟨gm, rfl, hgm, rm, hb⟩
  have hle := Below.size hb1
  have r0 := (Rw.new w1 (List.replicate n 0) 3).keep hb
  have b3 : Bl w w3 := (hb1.trans (Bl.new _ _)).trans hb
  have hne : gm ≠ w1.heap.size := by intro h; rw [h] at hgm; simp at hgm; omega
  obtain ⟨g, hg⟩ : ∃ g, w1.heap.size = g := ⟨_, rfl⟩
  rw [hg] at r0 hne hle
  have HNE := Lib.hid hne; have HLE := Lib.hid hle
  clear hgm hb hb1 hmk hne hle
  go_wp2_with fail
  clear hg
  go_loopw [9, 10, 37] (fun _ _ iv wr => ∃ i : Nat, i ≤ n ∧ iv = .int .i64 (i : Int) ∧ Rw wr gm ms ∧ Rw wr g (laid k 0 (ms.take i) (List.replicate n 0)) ∧ Bl w wr) (fun _ _ iv _ => n - (intOf iv).toNat)
  case atStart => exact ⟨0, by omega, rfl, rm, by simpa [laid] using r0, b3⟩
  case round =>
    clear rm r0 b3
    obtain ⟨i, hi, rfl, rm, ro, hb⟩ := hrel
    by_cases hlt : i < n
    · have hlt' : (i : Int) < (n : Int) := by omega
      obtain ⟨t, ht⟩ : ∃ t, ms[i]? = some t := ⟨_, List.getElem?_eq_getElem (by rw [HL.out]; exact hlt)⟩
      have htn : t < n := HT.out t (List.mem_of_getElem? ht)
      have htn' : (t : Int) < (n : Int) := by omega
      have c1 : wr.cell? ⟨gm, i, none⟩ = some (.int .i64 (t : Int)) := by
        have h : i < ms.length := by rw [HL.out]; exact hlt
        rw [rm.cell i h]
        rw [List.getElem?_eq_getElem h] at ht
        rw [Option.some.inj ht]
      have hlen : (laid k 0 (ms.take i) (List.replicate n 0)).length = n := by rw [laid_len]; simp
      obtain ⟨v0, c2⟩ : ∃ v0, wr.cell? ⟨g, t, none⟩ = some v0 := ⟨_, ro.cell t (by rw [hlen]; exact htn)⟩
      have f2 := ro.free t
      obtain ⟨m, hm⟩ : ∃ m, i % k = m := ⟨_, rfl⟩
      have hmk : m < k := by rw [← hm]; exact Nat.mod_lt _ (by omega)
      have e2 : (i : Int) % (k : Int) = (m : Int) := by rw [← hm]; omega
      have e1 : (i : Int).tmod (k : Int) = (m : Int) := by rw [← hm]; rfl
      have hnew := ro.set t m (by rw [hlen]; exact htn)
      have hlaid : (laid k 0 (ms.take i) (List.replicate n 0)).set t m = laid k 0 (ms.take (i + 1)) (List.replicate n 0) := by
        rw [List.take_add_one, ht, Option.toList_some, laid_snoc, List.length_take, HL.out, Nat.min_eq_left hi, Nat.zero_add, hm]
      rw [hlaid] at hnew
      have hfar := rm.far g t (.int .i64 (m : Int)) (Ne.symm HNE.out)
      have hbn : Bl w (wr.setCell ⟨g, t, none⟩ (.int .i64 (m : Int))) := Below.setCell hb HLE.out _
      have HNEW := Lib.hid hnew; have HFAR := Lib.hid hfar; have HBN := Lib.hid hbn
      clear hnew hfar hbn hlaid hlen rm ro hb ht htn hm
      have hm0 : (m : Int) ≤ 40 := by omega
      go_wp2_with fail
      go_roundw
      case rel => exact ⟨i + 1, by omega, by go_num, by simpa using HFAR.out, by simpa using HNEW.out, by simpa using HBN.out⟩
      case measure => simp [intOf]; omega
    · obtain rfl : i = n := by omega
      rw [List.take_of_length_le (by rw [HL.out]; exact Nat.le_refl _), ← HF.out] at ro
      go_wp2_with fail
      go_ret2
      exact ⟨g, rfl, HLE.out, ro, hb⟩
end Go.Proofs.YtccjmmdppjialaaGreatDoor
