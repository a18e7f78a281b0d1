/- Contracts of the reference's writers of numbers and texts. -/
import Derived.Test.YteddodfpgaadoaaDoorOctR
namespace Go.Proofs.YteddodfpgaadoaaDoor
open Go.RowKit

theorem make1 (w : World) : (Instr.makeSlice 69 (.int .i64 1) (.int .i64 1)).run Tryd.prog w = .ok (.slice (some ⟨w.heap.size, 0, none⟩) 1 1) (w.alloc (.cells #[.int .u8 0] 5)) := by kernel_rfl
theorem make2 (w : World) : (Instr.makeSlice 69 (.int .i64 2) (.int .i64 2)).run Tryd.prog w = .ok (.slice (some ⟨w.heap.size, 0, none⟩) 2 2) (w.alloc (.cells #[.int .u8 0, .int .u8 0] 5)) := by kernel_rfl
theorem make4 (w : World) : (Instr.makeSlice 69 (.int .i64 4) (.int .i64 4)).run Tryd.prog w = .ok (.slice (some ⟨w.heap.size, 0, none⟩) 4 4) (w.alloc (.cells #[.int .u8 0, .int .u8 0, .int .u8 0, .int .u8 0] 5)) := by kernel_rfl

/-- A slice of octets of a block of the call's own, as a string. -/
theorem conv_row (w : World) (c : Nat) (l : List UInt8) (cs : Array Value) (h : cs = (l.map fun b => Value.int .u8 (b.toNat : Int)).toArray) :
    (convert 69 9 (.slice (some ⟨w.heap.size, 0, none⟩) l.length c)).run Tryd.prog (w.alloc (.cells cs 5)) =
      .ok (.string ⟨l.toArray⟩) (w.alloc (.cells cs 5)) := by
  subst h
  refine run_convert_bytes_back _ 69 9 5 _ c l Tryd.underlying69 Tryd.underlying5 Tryd.underlying9 ?_
  intro j hj
  have e : (⟨w.heap.size, 0, none⟩ : Addr).add j = ⟨w.heap.size, j, none⟩ := by unfold Addr.add; split <;> simp_all
  rw [e, cell_of_row _ _ _ _ _ _ (heap_alloc_new w _)]
  simp [hj]

set_option maxRecDepth 20000 in
set_option maxHeartbeats 800000 in
theorem octets1 (n : Int) (w : World) (h0 : 0 ≤ n) (h1 : n ≤ 4294967295) :
    Calls Tryd.prog 34 #[.int .i64 n, .int .i64 1] w fun e w' => e = .returned (.string ⟨#[oc n 1]⟩) ∧ Below w.heap.size w w' := by
  have hmk := make1
  have hcv : ∀ w : World, (convert 69 9 (.slice (some ⟨w.heap.size, 0, none⟩) 1 1)).run Tryd.prog (w.alloc (.cells #[.int .u8 (n % 256)] 5)) = .ok (.string ⟨#[oc n 1]⟩) (w.alloc (.cells #[.int .u8 (n % 256)] 5)) :=
    fun w => conv_row w 1 [oc n 1] _ (by simp [oc_val])
  go_enter Tryd.func34, Tryd.ntmps34
  go_wp2_with fail
  refine wp_loop_rounds 2 ?_
  rw [rounds_succ]; go_wp2_with fail
  rw [rounds_succ]; go_wp2_with fail
  go_ret
  exact ⟨rfl, (Below.refl _ _).alloc (Nat.le_refl _) _⟩

set_option maxRecDepth 20000 in
set_option maxHeartbeats 800000 in
theorem octets2 (n : Int) (w : World) (h0 : 0 ≤ n) (h1 : n ≤ 4294967295) :
    Calls Tryd.prog 34 #[.int .i64 n, .int .i64 2] w fun e w' => e = .returned (.string ⟨#[oc n 256, oc n 1]⟩) ∧ Below w.heap.size w w' := by
  have hmk := make2
  have hcv : ∀ w : World, (convert 69 9 (.slice (some ⟨w.heap.size, 0, none⟩) 2 2)).run Tryd.prog (w.alloc (.cells #[.int .u8 (n / 256 % 256), .int .u8 (n % 256)] 5)) = .ok (.string ⟨#[oc n 256, oc n 1]⟩) (w.alloc (.cells #[.int .u8 (n / 256 % 256), .int .u8 (n % 256)] 5)) :=
    fun w => conv_row w 2 [oc n 256, oc n 1] _ (by simp [oc_val])
  go_enter Tryd.func34, Tryd.ntmps34
  go_wp2_with fail
  refine wp_loop_rounds 3 ?_
  rw [rounds_succ]; go_wp2_with fail
  rw [rounds_succ]; go_wp2_with fail
  rw [rounds_succ]; go_wp2_with fail
  go_ret
  exact ⟨rfl, (Below.refl _ _).alloc (Nat.le_refl _) _⟩

set_option maxRecDepth 20000 in
set_option maxHeartbeats 800000 in
theorem octets4 (n : Int) (w : World) (h0 : 0 ≤ n) (h1 : n ≤ 4294967295) :
    Calls Tryd.prog 34 #[.int .i64 n, .int .i64 4] w fun e w' => e = .returned (.string ⟨#[oc n 16777216, oc n 65536, oc n 256, oc n 1]⟩) ∧ Below w.heap.size w w' := by
  have hmk := make4
  have hcv : ∀ w : World, (convert 69 9 (.slice (some ⟨w.heap.size, 0, none⟩) 4 4)).run Tryd.prog (w.alloc (.cells #[.int .u8 (n / 256 / 256 / 256 % 256), .int .u8 (n / 256 / 256 % 256), .int .u8 (n / 256 % 256), .int .u8 (n % 256)] 5)) = .ok (.string ⟨#[oc n 16777216, oc n 65536, oc n 256, oc n 1]⟩) (w.alloc (.cells #[.int .u8 (n / 256 / 256 / 256 % 256), .int .u8 (n / 256 / 256 % 256), .int .u8 (n / 256 % 256), .int .u8 (n % 256)] 5)) :=
    fun w => conv_row w 4 [oc n 16777216, oc n 65536, oc n 256, oc n 1] _ (by simp [oc_val, Int.ediv_ediv])
  go_enter Tryd.func34, Tryd.ntmps34
  go_wp2_with fail
  refine wp_loop_rounds 5 ?_
  rw [rounds_succ]; go_wp2_with fail
  rw [rounds_succ]; go_wp2_with fail
  rw [rounds_succ]; go_wp2_with fail
  rw [rounds_succ]; go_wp2_with fail
  rw [rounds_succ]; go_wp2_with fail
  go_ret
  exact ⟨rfl, (Below.refl _ _).alloc (Nat.le_refl _) _⟩

theorem refPutU8_ok (n : Int) (w : World) (h0 : 0 ≤ n) (h1 : n ≤ 255) :
    Calls Tryd.prog 11 #[.int .i64 n] w fun e w' => e = .returned (.tuple #[.string ⟨#[oc n 1]⟩, .int .i64 0]) ∧ Below w.heap.size w w' := by
  go_enter Tryd.func11, Tryd.ntmps11
  go_wp2_with fail
  refine (octets1 n _ (by omega) (by omega)).mono ?_
  rintro e w' ⟨rfl, hb⟩
  go_wp2_with fail
  go_ret2
  exact ⟨rfl, hb⟩
theorem refPutU8_low (n : Int) (w : World) (h : n < 0) :
    Calls Tryd.prog 11 #[.int .i64 n] w fun e w' => e = .returned (.tuple #[.string ⟨#[]⟩, .int .i64 2]) ∧ Below w.heap.size w w' := by
  go_enter Tryd.func11, Tryd.ntmps11
  go_wp2_with fail
  go_ret2
  exact ⟨rfl, Below.refl _ _⟩
theorem refPutU8_high (n : Int) (w : World) (h : 255 < n) :
    Calls Tryd.prog 11 #[.int .i64 n] w fun e w' => e = .returned (.tuple #[.string ⟨#[]⟩, .int .i64 2]) ∧ Below w.heap.size w w' := by
  have h2 : ¬ n < 0 := by omega
  go_enter Tryd.func11, Tryd.ntmps11
  go_wp2_with fail
  go_ret2
  exact ⟨rfl, Below.refl _ _⟩
theorem refPutU16_ok (n : Int) (w : World) (h0 : 0 ≤ n) (h1 : n ≤ 65535) :
    Calls Tryd.prog 12 #[.int .i64 n] w fun e w' => e = .returned (.tuple #[.string ⟨#[oc n 256, oc n 1]⟩, .int .i64 0]) ∧ Below w.heap.size w w' := by
  go_enter Tryd.func12, Tryd.ntmps12
  go_wp2_with fail
  refine (octets2 n _ (by omega) (by omega)).mono ?_
  rintro e w' ⟨rfl, hb⟩
  go_wp2_with fail
  go_ret2
  exact ⟨rfl, hb⟩
theorem refPutU16_low (n : Int) (w : World) (h : n < 0) :
    Calls Tryd.prog 12 #[.int .i64 n] w fun e w' => e = .returned (.tuple #[.string ⟨#[]⟩, .int .i64 2]) ∧ Below w.heap.size w w' := by
  go_enter Tryd.func12, Tryd.ntmps12
  go_wp2_with fail
  go_ret2
  exact ⟨rfl, Below.refl _ _⟩
theorem refPutU16_high (n : Int) (w : World) (h : 65535 < n) :
    Calls Tryd.prog 12 #[.int .i64 n] w fun e w' => e = .returned (.tuple #[.string ⟨#[]⟩, .int .i64 2]) ∧ Below w.heap.size w w' := by
  have h2 : ¬ n < 0 := by omega
  go_enter Tryd.func12, Tryd.ntmps12
  go_wp2_with fail
  go_ret2
  exact ⟨rfl, Below.refl _ _⟩
theorem refPutU32_ok (n : Int) (w : World) (h0 : 0 ≤ n) (h1 : n ≤ 4294967295) :
    Calls Tryd.prog 13 #[.int .i64 n] w fun e w' => e = .returned (.tuple #[.string ⟨#[oc n 16777216, oc n 65536, oc n 256, oc n 1]⟩, .int .i64 0]) ∧ Below w.heap.size w w' := by
  go_enter Tryd.func13, Tryd.ntmps13
  go_wp2_with fail
  refine (octets4 n _ (by omega) (by omega)).mono ?_
  rintro e w' ⟨rfl, hb⟩
  go_wp2_with fail
  go_ret2
  exact ⟨rfl, hb⟩
theorem refPutU32_low (n : Int) (w : World) (h : n < 0) :
    Calls Tryd.prog 13 #[.int .i64 n] w fun e w' => e = .returned (.tuple #[.string ⟨#[]⟩, .int .i64 2]) ∧ Below w.heap.size w w' := by
  go_enter Tryd.func13, Tryd.ntmps13
  go_wp2_with fail
  go_ret2
  exact ⟨rfl, Below.refl _ _⟩
theorem refPutU32_high (n : Int) (w : World) (h : 4294967295 < n) :
    Calls Tryd.prog 13 #[.int .i64 n] w fun e w' => e = .returned (.tuple #[.string ⟨#[]⟩, .int .i64 2]) ∧ Below w.heap.size w w' := by
  have h2 : ¬ n < 0 := by omega
  go_enter Tryd.func13, Tryd.ntmps13
  go_wp2_with fail
  go_ret2
  exact ⟨rfl, Below.refl _ _⟩
theorem oc_turn (n k : Int) (hk : k = 1 ∨ k = 256 ∨ k = 65536 ∨ k = 16777216) : oc (n + 4294967296) k = oc n k := by
  have h : (n + 4294967296) / k % 256 = n / k % 256 := by rcases hk with rfl | rfl | rfl | rfl <;> omega
  unfold oc; rw [h]
theorem refPutS32_pos (n : Int) (w : World) (h0 : 0 ≤ n) (h1 : n ≤ 2147483647) :
    Calls Tryd.prog 14 #[.int .i64 n] w fun e w' => e = .returned (.tuple #[.string ⟨#[oc n 16777216, oc n 65536, oc n 256, oc n 1]⟩, .int .i64 0]) ∧ Below w.heap.size w w' := by
  have h2 : ¬ n < -2147483648 := by omega
  go_enter Tryd.func14, Tryd.ntmps14
  go_wp2_with fail
  refine (octets4 n _ (by omega) (by omega)).mono ?_
  rintro e w' ⟨rfl, hb⟩
  go_wp2_with fail
  go_ret2
  exact ⟨rfl, hb⟩
theorem refPutS32_neg (n : Int) (w : World) (h0 : -2147483648 ≤ n) (h1 : n < 0) :
    Calls Tryd.prog 14 #[.int .i64 n] w fun e w' => e = .returned (.tuple #[.string ⟨#[oc n 16777216, oc n 65536, oc n 256, oc n 1]⟩, .int .i64 0]) ∧ Below w.heap.size w w' := by
  have h2 : ¬ (2147483647 : Int) < n := by omega
  have q0 : 0 ≤ n + 4294967296 := by omega
  have q1 : n + 4294967296 ≤ 4294967295 := by omega
  go_enter Tryd.func14, Tryd.ntmps14
  go_wp2_with fail
  refine (octets4 (n + 4294967296) _ q0 q1).mono ?_
  rw [oc_turn n 16777216 (by omega), oc_turn n 65536 (by omega), oc_turn n 256 (by omega), oc_turn n 1 (by omega)]
  rintro e w' ⟨rfl, hb⟩
  go_wp2_with fail
  go_ret2
  exact ⟨rfl, hb⟩
theorem refPutS32_ok (n : Int) (w : World) (h0 : -2147483648 ≤ n) (h1 : n ≤ 2147483647) :
    Calls Tryd.prog 14 #[.int .i64 n] w fun e w' => e = .returned (.tuple #[.string ⟨#[oc n 16777216, oc n 65536, oc n 256, oc n 1]⟩, .int .i64 0]) ∧ Below w.heap.size w w' := by
  by_cases h : n < 0
  · exact refPutS32_neg n w h0 h
  · exact refPutS32_pos n w (by omega) h1
theorem refPutS32_low (n : Int) (w : World) (h : n < (-2147483648)) :
    Calls Tryd.prog 14 #[.int .i64 n] w fun e w' => e = .returned (.tuple #[.string ⟨#[]⟩, .int .i64 2]) ∧ Below w.heap.size w w' := by
  go_enter Tryd.func14, Tryd.ntmps14
  go_wp2_with fail
  go_ret2
  exact ⟨rfl, Below.refl _ _⟩
theorem refPutS32_high (n : Int) (w : World) (h : 2147483647 < n) :
    Calls Tryd.prog 14 #[.int .i64 n] w fun e w' => e = .returned (.tuple #[.string ⟨#[]⟩, .int .i64 2]) ∧ Below w.heap.size w w' := by
  have h2 : ¬ n < (-2147483648) := by omega
  go_enter Tryd.func14, Tryd.ntmps14
  go_wp2_with fail
  go_ret2
  exact ⟨rfl, Below.refl _ _⟩

/-! Zeros, printed texts, fields, padding. -/
theorem refZeros (k : Nat) (c : Int) (w : World) (hc : c = k) (hk : k ≤ 100000) :
    Calls Tryd.prog 38 #[.int .i64 c] w fun e w' => e = .returned (.string ⟨(zeros k).toArray⟩) ∧ Below w.heap.size w w' := by
  subst hc
  obtain ⟨i0, hi, hz0, hz1, hz2⟩ := info_parts infoU8
  have hmk : ∀ w : World, (Instr.makeSlice 69 (.int .i64 (k : Int)) (.int .i64 (k : Int))).run Tryd.prog w = .ok (.slice (some ⟨w.heap.size, 0, none⟩) k k) (w.alloc (.cells (madeCells #[.int .u8 0] k) 5)) := by
    intro w
    have h := run_make w 69 5 i0 (.int .u8 0) Tryd.underlying69 hi hz0 .i64 .i64 (k : Int) (k : Int) (by omega) (by omega) (by rw [hz2]; omega) (by omega)
    rw [hz1] at h
    simpa [Value.cells] using h
  have hm : madeCells #[Value.int .u8 0] k = ((zeros k).map fun b => Value.int .u8 (b.toNat : Int)).toArray := by
    apply Array.toList_inj.1
    rw [toList_madeCells_one]
    simp [zeros]
  have hcv : ∀ w : World, (convert 69 9 (.slice (some ⟨w.heap.size, 0, none⟩) k k)).run Tryd.prog (w.alloc (.cells (madeCells #[.int .u8 0] k) 5)) = .ok (.string ⟨(zeros k).toArray⟩) (w.alloc (.cells (madeCells #[.int .u8 0] k) 5)) := by
    intro w
    have := conv_row w k (zeros k) _ hm
    rwa [zeros_len] at this
  clear hm
  go_enter Tryd.func38, Tryd.ntmps38
  go_wp2_with fail
  go_ret
  exact ⟨rfl, (Below.refl _ _).alloc (Nat.le_refl _) _⟩

set_option maxRecDepth 20000 in
set_option maxHeartbeats 800000 in
theorem refPrinted (s : ByteArray) (w : World) (hs : s.size ≤ 100000) :
    Calls Tryd.prog 37 #[.string s] w fun e w' => e = .returned (.bool (textB s.data.toList)) ∧ w = w' := by
  go_enter Tryd.func37, Tryd.ntmps37
  go_wp2_with fail
  go_loop [3] (fun i => ∃ k : Nat, k ≤ s.size ∧ i = .int .i64 k ∧ Hid (∀ j (hj : j < s.size), j < k → goodB s[j] = true)) (fun i => s.size - (intOf i).toNat)
  case atStart => exact ⟨0, Nat.zero_le _, rfl, fun j hj h => by omega⟩
  case round =>
    obtain ⟨k, hk, rfl, hall⟩ := hrel
    by_cases hp : k < s.size
    · obtain ⟨b, hbk⟩ : ∃ b, s[k] = b := ⟨_, rfl⟩
      by_cases hg : goodB b = true
      · have h1 : ¬ (b.toNat : Int) < 32 := by unfold goodB at hg; simp at hg; omega
        have h2 : ¬ (126 : Int) < (b.toNat : Int) := by unfold goodB at hg; simp at hg; omega
        have HG := Lib.hid hg; clear hg
        go_wp2_with fail
        refine ⟨⟨k + 1, by omega, by go_num, fun j hj h => ?_⟩, by simp [intOf]; omega⟩
        by_cases e : j = k
        · subst e; rw [hbk]; exact HG.out
        · exact hall j hj (by omega)
      · have hg' : goodB b = false := by simpa using hg
        have HB := Lib.hid (textB_bad s k hp (by rw [hbk]; exact hg'))
        by_cases h1 : (b.toNat : Int) < 32
        · clear hg hg'
          go_wp2_with fail
          go_ret
          exact ⟨by rw [HB.out]; rfl, rfl⟩
        · have h2 : (126 : Int) < (b.toNat : Int) := by unfold goodB at hg'; simp only [decide_eq_false_iff_not] at hg'; omega
          clear hg hg'
          go_wp2_with fail
          go_ret
          exact ⟨by rw [HB.out]; rfl, rfl⟩
    · have HB := Lib.hid (textB_yes s k hall hp)
      go_wp2_with fail
      go_ret
      exact ⟨by rw [HB.out]; rfl, rfl⟩

/-- Fields and padding. -/
theorem refPutText_ok (t : ByteArray) (n : Nat) (w : World) (hn : n ≤ 65536) (hs : t.size ≤ 100000) (ht : textB t.data.toList = true) (hl : t.size ≤ n) :
    Calls Tryd.prog 17 #[.string t, .int .i64 n] w fun e w' => e = .returned (.tuple #[.string (t ++ ⟨(zeros (n - t.size)).toArray⟩), .int .i64 0]) ∧ Below w.heap.size w w' := by
  have h1 : ¬ (n : Int) < 0 := by omega
  have h2 : ¬ (65536 : Int) < n := by omega
  have h3 : ¬ (n : Int) < t.size := by omega
  go_enter Tryd.func17, Tryd.ntmps17
  go_wp2_with fail
  refine (refPrinted t _ hs).mono ?_
  rw [ht]
  rintro e w1 ⟨rfl, rfl⟩
  clear ht
  go_wp2_with fail
  refine (refZeros (n - t.size) _ _ (by omega) (by omega)).mono ?_
  rintro e w2 ⟨rfl, hb2⟩
  have hz : (zeros (n - t.size)).length ≤ 65536 := by rw [zeros_len]; omega
  go_wp2_with fail
  go_ret2
  exact ⟨rfl, hb2⟩
theorem refPutText_form (t : ByteArray) (n : Nat) (w : World) (hn : n ≤ 65536) (hs : t.size ≤ 100000) (ht : textB t.data.toList = false) :
    Calls Tryd.prog 17 #[.string t, .int .i64 n] w fun e w' => e = .returned (.tuple #[.string ⟨#[]⟩, .int .i64 5]) ∧ Below w.heap.size w w' := by
  have h1 : ¬ (n : Int) < 0 := by omega
  have h2 : ¬ (65536 : Int) < n := by omega
  go_enter Tryd.func17, Tryd.ntmps17
  go_wp2_with fail
  refine (refPrinted t _ hs).mono ?_
  rw [ht]
  rintro e w1 ⟨rfl, rfl⟩
  clear ht
  go_wp2_with fail
  go_ret2
  exact ⟨rfl, Below.refl _ _⟩
theorem refPutText_long (t : ByteArray) (n : Nat) (w : World) (hn : n ≤ 65536) (hs : t.size ≤ 100000) (ht : textB t.data.toList = true) (hl : n < t.size) :
    Calls Tryd.prog 17 #[.string t, .int .i64 n] w fun e w' => e = .returned (.tuple #[.string ⟨#[]⟩, .int .i64 3]) ∧ Below w.heap.size w w' := by
  have h1 : ¬ (n : Int) < 0 := by omega
  have h2 : ¬ (65536 : Int) < n := by omega
  have h3 : (n : Int) < t.size := by omega
  go_enter Tryd.func17, Tryd.ntmps17
  go_wp2_with fail
  refine (refPrinted t _ hs).mono ?_
  rw [ht]
  rintro e w1 ⟨rfl, rfl⟩
  clear ht
  go_wp2_with fail
  go_ret2
  exact ⟨rfl, Below.refl _ _⟩
theorem refPutText_arg (t : ByteArray) (n : Int) (w : World) (hn : n < 0 ∨ 65536 < n) :
    Calls Tryd.prog 17 #[.string t, .int .i64 n] w fun e w' => e = .returned (.tuple #[.string ⟨#[]⟩, .int .i64 2]) ∧ Below w.heap.size w w' := by
  by_cases h1 : n < 0
  · clear hn
    go_enter Tryd.func17, Tryd.ntmps17
    go_wp2_with fail
    go_ret2
    exact ⟨rfl, Below.refl _ _⟩
  · have h2 : 65536 < n := by omega
    clear hn
    go_enter Tryd.func17, Tryd.ntmps17
    go_wp2_with fail
    go_ret2
    exact ⟨rfl, Below.refl _ _⟩
theorem putText_arg (t : ByteArray) (n : Int) (w : World) (hn : n < 0 ∨ 65536 < n) :
    Calls Tryd.prog 16 #[.string t, .int .i64 n] w fun e w' => e = .returned (.tuple #[.string ⟨#[]⟩, .int .i64 2]) ∧ Below w.heap.size w w' := by
  by_cases h1 : n < 0
  · clear hn
    go_enter Tryd.func16, Tryd.ntmps16
    go_wp2_with fail
    go_ret2
    exact ⟨rfl, Below.refl _ _⟩
  · have h2 : 65536 < n := by omega
    clear hn
    go_enter Tryd.func16, Tryd.ntmps16
    go_wp2_with fail
    go_ret2
    exact ⟨rfl, Below.refl _ _⟩

theorem pad_least (a n k : Nat) (hn : 1 ≤ n) (h : k < (n - a % n) % n) : (a + k) % n ≠ 0 := by
  have hlt : a % n < n := Nat.mod_lt _ (by omega)
  by_cases h0 : a % n = 0
  · simp [h0] at h
  · rw [Nat.mod_eq_of_lt (show n - a % n < n by omega)] at h
    have hd := Nat.div_add_mod a n
    have e : a + k = n * (a / n) + (a % n + k) := by omega
    rw [e, Nat.mul_add_mod, Nat.mod_eq_of_lt (by omega)]
    omega
theorem zeros_more (s : ByteArray) (k : Nat) : s ++ (⟨(zeros k).toArray⟩ : ByteArray) ++ (⟨(zeros 1).toArray⟩ : ByteArray) = s ++ (⟨(zeros (k + 1)).toArray⟩ : ByteArray) := by
  apply ba_ext
  simp only [ByteArray.data_append]
  apply Array.toList_inj.1
  simp [zeros, List.replicate_succ']

def strLen : Value → Nat | .string y => y.size | _ => 0

set_option maxRecDepth 20000 in
set_option maxHeartbeats 1600000 in
/-- The loop of the reference's Pad ends at the fewest zeros; what follows is told by the length. -/
theorem refPad_in (s : ByteArray) (n : Nat) (w : World) (hs : s.size ≤ 65536) (hn : 1 ≤ n) (hn' : n ≤ 64) (fits : Bool) (hf : fits = decide (s.size + (n - s.size % n) % n ≤ 65536)) :
    Calls Tryd.prog 19 #[.string s, .int .i64 n] w fun e w' => e = .returned (.tuple #[.string (if fits then s ++ ⟨(zeros ((n - s.size % n) % n)).toArray⟩ else ⟨#[]⟩), .int .i64 (if fits then 0 else 3)]) ∧ Below w.heap.size w w' := by
  have hmod := pad_mod s.size n hn
  have hlt := pad_lt s.size n hn
  have hleast := fun k => pad_least s.size n k hn
  obtain ⟨M, hM⟩ : ∃ M, (n - s.size % n) % n = M := ⟨_, rfl⟩
  rw [hM] at hmod hlt hf ⊢
  simp only [hM] at hleast
  clear hM
  have h1 : ¬ (65536 : Int) < s.size := by omega
  have h2 : ¬ (n : Int) < 1 := by omega
  have h3 : ¬ (64 : Int) < n := by omega
  have h0 : s ++ (⟨(zeros 0).toArray⟩ : ByteArray) = s := pad_none s
  have H0 := Lib.hid h0; clear h0
  have HL := Lib.hid hleast; clear hleast
  have HM := Lib.hid hmod; clear hmod
  have HF := Lib.hid hf; clear hf
  go_enter Tryd.func19, Tryd.ntmps19
  go_wp2_with fail
  go_loopw [0] (fun v wr => ∃ (k : Nat) (y : ByteArray), k ≤ M ∧ v = .string y ∧ Hid (y = s ++ ⟨(zeros k).toArray⟩) ∧ Hid (y.size = s.size + k) ∧ Below w.heap.size w wr) (fun v _ => s.size + M - strLen v)
  case atStart => exact ⟨0, s, Nat.zero_le _, rfl, H0.out.symm, rfl, Below.refl _ _⟩
  case round =>
    obtain ⟨k, y, hk, rfl, hy, hsz, hb⟩ := hrel
    have hys : y.size ≤ 65600 := by have := hsz.out; omega
    by_cases hkM : k < M
    · have hne : (((y.size : Int) % (n : Int) != 0) : Bool) = true := by
        have h5 : y.size % n ≠ 0 := by rw [hsz.out]; exact HL.out k hkM
        rw [bne_iff_ne]
        omega
      go_wp2_with fail
      refine (refZeros 1 _ _ rfl (by omega)).mono ?_
      rintro e w1 ⟨rfl, hb1⟩
      have hz : (zeros 1).length ≤ 1 := by decide
      go_wp2_with fail
      go_roundw
      case rel =>
        refine ⟨k + 1, _, by omega, rfl, ?_, ?_, hb.trans (hb1.mono hb.size)⟩
        · have e := hy.out
          show y ++ _ = _
          rw [e]
          exact zeros_more s k
        · have e := hsz.out
          show (y ++ (⟨(zeros 1).toArray⟩ : ByteArray)).size = _
          rw [size_pads, e, Nat.add_assoc]
      case measure =>
        have e := hsz.out
        show s.size + M - (y ++ (⟨(zeros 1).toArray⟩ : ByteArray)).size < s.size + M - y.size
        rw [size_pads, e]
        omega
    · obtain rfl : k = M := by omega
      have hne : (((y.size : Int) % (n : Int) != 0) : Bool) = false := by
        have h5 : y.size % n = 0 := by rw [hsz.out]; exact HM.out
        rw [bne_eq_false_iff_eq]
        omega
      cases fits with
      | true =>
        have hfit := of_decide_eq_true HF.out.symm
        have h5 : ¬ (65536 : Int) < y.size := by rw [hsz.out]; omega
        clear hfit
        go_wp2_with fail
        go_ret2
        exact ⟨by rw [← hy.out]; rfl, hb⟩
      | false =>
        have hfit := of_decide_eq_false HF.out.symm
        have h5 : (65536 : Int) < y.size := by rw [hsz.out]; omega
        clear hfit
        go_wp2_with fail
        go_ret2
        exact ⟨rfl, hb⟩
theorem refPad_long (s : ByteArray) (n : Int) (w : World) (hs : 65536 < s.size) :
    Calls Tryd.prog 19 #[.string s, .int .i64 n] w fun e w' => e = .returned (.tuple #[.string ⟨#[]⟩, .int .i64 3]) ∧ Below w.heap.size w w' := by
  have h1 : (65536 : Int) < s.size := by omega
  go_enter Tryd.func19, Tryd.ntmps19
  go_wp2_with fail
  go_ret2
  exact ⟨rfl, Below.refl _ _⟩
theorem pad_long (s : ByteArray) (n : Int) (w : World) (hs : 65536 < s.size) :
    Calls Tryd.prog 18 #[.string s, .int .i64 n] w fun e w' => e = .returned (.tuple #[.string ⟨#[]⟩, .int .i64 3]) ∧ Below w.heap.size w w' := by
  have h1 : (65536 : Int) < s.size := by omega
  go_enter Tryd.func18, Tryd.ntmps18
  go_wp2_with fail
  go_ret2
  exact ⟨rfl, Below.refl _ _⟩
theorem refPad_arg (s : ByteArray) (n : Int) (w : World) (hs : s.size ≤ 65536) (hn : n < 1 ∨ 64 < n) :
    Calls Tryd.prog 19 #[.string s, .int .i64 n] w fun e w' => e = .returned (.tuple #[.string ⟨#[]⟩, .int .i64 2]) ∧ Below w.heap.size w w' := by
  have h0 : ¬ (65536 : Int) < s.size := by omega
  by_cases h1 : n < 1
  · clear hn
    go_enter Tryd.func19, Tryd.ntmps19
    go_wp2_with fail
    go_ret2
    exact ⟨rfl, Below.refl _ _⟩
  · have h2 : 64 < n := by omega
    clear hn
    go_enter Tryd.func19, Tryd.ntmps19
    go_wp2_with fail
    go_ret2
    exact ⟨rfl, Below.refl _ _⟩
theorem pad_arg (s : ByteArray) (n : Int) (w : World) (hs : s.size ≤ 65536) (hn : n < 1 ∨ 64 < n) :
    Calls Tryd.prog 18 #[.string s, .int .i64 n] w fun e w' => e = .returned (.tuple #[.string ⟨#[]⟩, .int .i64 2]) ∧ Below w.heap.size w w' := by
  have h0 : ¬ (65536 : Int) < s.size := by omega
  by_cases h1 : n < 1
  · clear hn
    go_enter Tryd.func18, Tryd.ntmps18
    go_wp2_with fail
    go_ret2
    exact ⟨rfl, Below.refl _ _⟩
  · have h2 : 64 < n := by omega
    clear hn
    go_enter Tryd.func18, Tryd.ntmps18
    go_wp2_with fail
    go_ret2
    exact ⟨rfl, Below.refl _ _⟩
set_option maxHeartbeats 400000 in
theorem pad_over (s : ByteArray) (n : Nat) (w : World) (hs : s.size ≤ 65536) (hn : 1 ≤ n) (hn' : n ≤ 64) (hl : 65536 < s.size + (n - s.size % n) % n) :
    Calls Tryd.prog 18 #[.string s, .int .i64 n] w fun e w' => e = .returned (.tuple #[.string ⟨#[]⟩, .int .i64 3]) ∧ Below w.heap.size w w' := by
  have hc := cast_missing s.size n hn
  obtain ⟨m, hm⟩ : ∃ m, m = (n - s.size % n) % n := ⟨_, rfl⟩
  rw [← hm] at hc hl
  have hm64 : m ≤ 64 := by have := Nat.mod_lt (n - s.size % n) (show 0 < n by omega); omega
  have q0 : 0 ≤ (n : Int) - (s.size : Int) % n := by have := Int.emod_lt_of_pos (s.size : Int) (show (0 : Int) < n by omega); omega
  have q1 : (n : Int) - (s.size : Int) % n ≤ 64 := by have := Int.emod_nonneg (s.size : Int) (show (n : Int) ≠ 0 by omega); omega
  have q2 : (65536 : Int) < (s.size : Int) + -((s.size : Int) % n) % n := by rw [hc]; omega
  have q3 : 0 ≤ -((s.size : Int) % n) % n := by rw [hc]; omega
  have q4 : -((s.size : Int) % n) % n ≤ 64 := by rw [hc]; omega
  have h1 : ¬ (65536 : Int) < s.size := by omega
  have h2 : ¬ (n : Int) < 1 := by omega
  have h3 : ¬ (64 : Int) < n := by omega
  clear hc hm
  go_enter Tryd.func18, Tryd.ntmps18
  go_wp2_with fail
  go_ret2
  exact ⟨rfl, Below.refl _ _⟩
end Go.Proofs.YteddodfpgaadoaaDoor
