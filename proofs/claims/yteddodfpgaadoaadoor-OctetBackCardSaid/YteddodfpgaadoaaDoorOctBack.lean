/- OctetBack: for every input the law returns true and leaves what was there as it was. -/
import Derived.Test.YteddodfpgaadoaaDoorOctH
import Derived.Test.YteddodfpgaadoaaDoorOctR
import Derived.RegionTactic
namespace Go.Proofs.YteddodfpgaadoaaDoor
open Go.RowKit

theorem int3_0 (x0 x1 x2 : Value) (w : World) : (Instr.index 34 (.agg #[x0, x1, x2]) (.int .i64 0)).run Tryd.prog w = .ok x0 w := by kernel_rfl
theorem int3_1 (x0 x1 x2 : Value) (w : World) : (Instr.index 34 (.agg #[x0, x1, x2]) (.int .i64 1)).run Tryd.prog w = .ok x1 w := by kernel_rfl
theorem int3_2 (x0 x1 x2 : Value) (w : World) : (Instr.index 34 (.agg #[x0, x1, x2]) (.int .i64 2)).run Tryd.prog w = .ok x2 w := by kernel_rfl
theorem put3_0 (x0 x1 x2 : Value) (w : World) : (Instr.index 37 (.agg #[x0, x1, x2]) (.int .i64 0)).run Tryd.prog w = .ok x0 w := by kernel_rfl
theorem put3_1 (x0 x1 x2 : Value) (w : World) : (Instr.index 37 (.agg #[x0, x1, x2]) (.int .i64 1)).run Tryd.prog w = .ok x1 w := by kernel_rfl
theorem put3_2 (x0 x1 x2 : Value) (w : World) : (Instr.index 37 (.agg #[x0, x1, x2]) (.int .i64 2)).run Tryd.prog w = .ok x2 w := by kernel_rfl
theorem get3_0 (x0 x1 x2 : Value) (w : World) : (Instr.index 39 (.agg #[x0, x1, x2]) (.int .i64 0)).run Tryd.prog w = .ok x0 w := by kernel_rfl
theorem get3_1 (x0 x1 x2 : Value) (w : World) : (Instr.index 39 (.agg #[x0, x1, x2]) (.int .i64 1)).run Tryd.prog w = .ok x1 w := by kernel_rfl
theorem get3_2 (x0 x1 x2 : Value) (w : World) : (Instr.index 39 (.agg #[x0, x1, x2]) (.int .i64 2)).run Tryd.prog w = .ok x2 w := by kernel_rfl

theorem text_back (x y t : ByteArray) (z : Nat) (w : World) (hx : x.size ≤ 300) (hy : y.size ≤ 300) (ht : t.size ≤ 100) (hz : z ≤ 255) (htx : textB t.data.toList = true) :
    Calls Tryd.prog 29 #[.string (x ++ (t ++ (⟨(zeros z).toArray⟩ : ByteArray)) ++ y), .int .i64 x.size, .int .i64 (t ++ (⟨(zeros z).toArray⟩ : ByteArray)).size] w fun e w' => e = .returned (.tuple #[.string t, .int .i64 0]) ∧ Below w.heap.size w w' := by
  have hs := size_pads t z
  cases z with
  | zero =>
    rw [pad_none]
    refine text_whole _ t x.size t.size (x.size + t.size) w (by rw [size_mid]; omega) rfl (by rw [size_mid]; omega) (mid x t y) (index_none _ htx) htx
  | succ z =>
    have h := text_nul (x ++ (t ++ (⟨(zeros (z + 1)).toArray⟩ : ByteArray)) ++ y) (t ++ (⟨(zeros (z + 1)).toArray⟩ : ByteArray)) x.size (t ++ (⟨(zeros (z + 1)).toArray⟩ : ByteArray)).size (x.size + (t ++ (⟨(zeros (z + 1)).toArray⟩ : ByteArray)).size) t.size w
      (by rw [size_mid]; omega) rfl (by rw [size_mid]; omega) (mid _ _ _) (by omega) (by rw [data_pad, index_zeros _ _ htx, len_eq]) (by omega) (by rw [front]; exact htx) (by rw [extract_behind]; exact trim_replicate (z + 1))
    rwa [front] at h

theorem uk (n m : Int) (h0 : 0 < m) (h1 : m ≤ 4294967296) : 0 ≤ wrap64 ((IntKind.u64.wrap n).tmod m) ∧ wrap64 ((IntKind.u64.wrap n).tmod m) ≤ m - 1 := by
  rw [IntKind.wrap_u64, Int.tmod_eq_emod_of_nonneg (by omega)]
  have a := Int.emod_nonneg (n % 18446744073709551616) (show m ≠ 0 by omega)
  have b := Int.emod_lt_of_pos (n % 18446744073709551616) h0
  simp only [wrap64]
  omega

set_option maxRecDepth 20000 in
set_option maxHeartbeats 6400000 in
theorem back_walk (a' b' t' : ByteArray) (n more : Int) (w : World) (ha : a'.size ≤ 9223372036854775807) (hb0 : b'.size ≤ 9223372036854775807) (ht0 : t'.size ≤ 9223372036854775807)
    (hn0 : -9223372036854775808 ≤ n) (hn1 : n ≤ 9223372036854775807) (hm0 : 0 ≤ more) (hm1 : more ≤ 255) :
    Calls Tryd.prog 4 #[.string a', .string b', .int .i64 n, .string t', .int .u8 more] w fun e w' => e = .returned (.bool true) ∧ Below w.heap.size w w' := by
  have HN0 := Lib.hid hn0; have HN1 := Lib.hid hn1
  clear hn0 hn1
  go_enter Tryd.func4, Tryd.ntmps4
  go_wp2_with fail
  refine (works_true _).mono ?_
  rintro e w1 ⟨rfl, hb⟩
  go_upto_region 3 with fail
  go_region
  go_upto_region 4 with fail
  have hx : (a'.extract 0 (min (a'.size : Int) 300).toNat).size ≤ 300 := by simp; omega
  have hy : (b'.extract 0 (min (b'.size : Int) 300).toNat).size ≤ 300 := by simp; omega
  have ht : (t'.extract 0 (min (t'.size : Int) 100).toNat).size ≤ 100 := by simp; omega
  generalize a'.extract 0 (min (a'.size : Int) 300).toNat = x at hx ⊢
  generalize b'.extract 0 (min (b'.size : Int) 300).toNat = y at hy ⊢
  generalize t'.extract 0 (min (t'.size : Int) 100).toNat = t at ht ⊢
  clear ha hb0 ht0
  have j0 := int3_0
  have j1 := int3_1
  have j2 := int3_2
  have p0 := put3_0
  have p1 := put3_1
  have p2 := put3_2
  have g0 := get3_0
  have g1 := get3_1
  have g2 := get3_2
  go_upto_region 5 with fail
  go_wp2_with fail
  have hbd := hb.drew
  clear hb
  have hb := hbd
  clear hbd
  generalize w1.drew = v0 at hb ⊢
  refine wp_loop_rounds 4 ?_
  rw [rounds_succ]
  go_upto_region 9 with fail
  have hk := uk n 256 (by omega) (by omega)
  generalize wrap64 ((IntKind.u64.wrap n).tmod 256) = k at hk ⊢
  obtain ⟨k0, k1⟩ := hk
  go_wp2_with fail
  refine (putU8_ok k _ k0 (by omega)).mono ?_
  rintro e w2 ⟨rfl, hb2⟩
  go_wp2_with fail
  refine (says_any k _).mono ?_
  rintro e u ⟨rfl, rfl⟩
  go_wp2_with fail
  refine (u8_ok (x ++ (⟨#[oc k 1]⟩ : ByteArray) ++ y) x.size _ (oc k 1) (by rw [size_mid]; show x.size + 1 + y.size ≤ _; omega) (by rw [size_mid]; show x.size + 1 ≤ x.size + 1 + y.size; omega) (mid_at x ⟨#[oc k 1]⟩ y 1 rfl)).mono ?_
  rintro e w3 ⟨rfl, hb3⟩
  rw [back1 k k0 (by omega)]
  have hc := cell_kept hb3 (p := ⟨w2.heap.size, 0, none⟩) (v := .int .i64 k) (by simp [World.cell?_alloc_new])
  go_wp2_with fail
  refine (says_yes k _ _ hc).mono ?_
  rintro e u ⟨rfl, rfl⟩
  go_wp2_with fail
  have hb4 := hb.trans (hb2.mono hb.size)
  have hb5 := (hb4.alloc hb4.size (.cells #[.int .i64 k] 3)).trans (hb3.mono (by have := hb4.size; simp; omega))
  clear hb hb2 hb3 hb4 hc k0 k1
  have hb := hb5
  clear hb5
  rw [rounds_succ]
  go_upto_region 9 with fail
  have hk := uk n 65536 (by omega) (by omega)
  generalize wrap64 ((IntKind.u64.wrap n).tmod 65536) = k at hk ⊢
  obtain ⟨k0, k1⟩ := hk
  go_wp2_with fail
  refine (putU16_ok k _ k0 (by omega)).mono ?_
  rintro e w2 ⟨rfl, hb2⟩
  go_wp2_with fail
  refine (says_any k _).mono ?_
  rintro e u ⟨rfl, rfl⟩
  go_wp2_with fail
  refine (u16_ok (x ++ (⟨#[oc k 256, oc k 1]⟩ : ByteArray) ++ y) x.size _ (oc k 256) (oc k 1) (by rw [size_mid]; show x.size + 2 + y.size ≤ _; omega) (by rw [size_mid]; show x.size + 2 ≤ x.size + 2 + y.size; omega) (mid_at x ⟨#[oc k 256, oc k 1]⟩ y 2 rfl)).mono ?_
  rintro e w3 ⟨rfl, hb3⟩
  rw [back2 k k0 (by omega)]
  have hc := cell_kept hb3 (p := ⟨w2.heap.size, 0, none⟩) (v := .int .i64 k) (by simp [World.cell?_alloc_new])
  go_wp2_with fail
  refine (says_yes k _ _ hc).mono ?_
  rintro e u ⟨rfl, rfl⟩
  go_wp2_with fail
  have hb4 := hb.trans (hb2.mono hb.size)
  have hb5 := (hb4.alloc hb4.size (.cells #[.int .i64 k] 3)).trans (hb3.mono (by have := hb4.size; simp; omega))
  clear hb hb2 hb3 hb4 hc k0 k1
  have hb := hb5
  clear hb5
  rw [rounds_succ]
  go_upto_region 9 with fail
  have hk := uk n 4294967296 (by omega) (by omega)
  generalize wrap64 ((IntKind.u64.wrap n).tmod 4294967296) = k at hk ⊢
  obtain ⟨k0, k1⟩ := hk
  go_wp2_with fail
  refine (putU32_ok k _ k0 (by omega)).mono ?_
  rintro e w2 ⟨rfl, hb2⟩
  go_wp2_with fail
  refine (says_any k _).mono ?_
  rintro e u ⟨rfl, rfl⟩
  go_wp2_with fail
  refine (u32_ok (x ++ (⟨#[oc k 16777216, oc k 65536, oc k 256, oc k 1]⟩ : ByteArray) ++ y) x.size _ (oc k 16777216) (oc k 65536) (oc k 256) (oc k 1) (by rw [size_mid]; show x.size + 4 + y.size ≤ _; omega) (by rw [size_mid]; show x.size + 4 ≤ x.size + 4 + y.size; omega) (mid_at x ⟨#[oc k 16777216, oc k 65536, oc k 256, oc k 1]⟩ y 4 rfl)).mono ?_
  rintro e w3 ⟨rfl, hb3⟩
  rw [back4 k k0 (by omega)]
  have hc := cell_kept hb3 (p := ⟨w2.heap.size, 0, none⟩) (v := .int .i64 k) (by simp [World.cell?_alloc_new])
  go_wp2_with fail
  refine (says_yes k _ _ hc).mono ?_
  rintro e u ⟨rfl, rfl⟩
  go_wp2_with fail
  have hb4 := hb.trans (hb2.mono hb.size)
  have hb5 := (hb4.alloc hb4.size (.cells #[.int .i64 k] 3)).trans (hb3.mono (by have := hb4.size; simp; omega))
  clear hb hb2 hb3 hb4 hc k0 k1
  have hb := hb5
  clear hb5
  rw [rounds_succ]
  go_upto_region 15 with fail
  have hkk : n / 4294967296 = n / 4294967296 := rfl
  clear hkk
  have k0 : -2147483648 ≤ n / 4294967296 := by have := HN0.out; omega
  have k1 : n / 4294967296 ≤ 2147483647 := by have := HN1.out; omega
  generalize n / 4294967296 = k at k0 k1 ⊢
  go_wp2_with fail
  refine (putS32_ok k _ k0 k1).mono ?_
  rintro e w2 ⟨rfl, hb2⟩
  go_wp2_with fail
  refine (says_any k _).mono ?_
  rintro e u ⟨rfl, rfl⟩
  go_wp2_with fail
  refine (s32_ok (x ++ (⟨#[oc k 16777216, oc k 65536, oc k 256, oc k 1]⟩ : ByteArray) ++ y) x.size _ (oc k 16777216) (oc k 65536) (oc k 256) (oc k 1) (by rw [size_mid]; show x.size + 4 + y.size ≤ _; omega) (by rw [size_mid]; show x.size + 4 ≤ x.size + 4 + y.size; omega) (mid_at x ⟨#[oc k 16777216, oc k 65536, oc k 256, oc k 1]⟩ y 4 rfl)).mono ?_
  rintro e w3 ⟨rfl, hb3⟩
  rw [backs k k0 k1]
  have hc := cell_kept hb3 (p := ⟨w2.heap.size, 0, none⟩) (v := .int .i64 k) (by simp [World.cell?_alloc_new])
  go_wp2_with fail
  refine (says_yes k _ _ hc).mono ?_
  rintro e u ⟨rfl, rfl⟩
  have hb4 := hb.trans (hb2.mono hb.size)
  have hb5 := (hb4.alloc hb4.size (.cells #[.int .i64 k] 3)).trans (hb3.mono (by have := hb4.size; simp; omega))
  clear hb hb2 hb3 hb4 hc k0 k1
  have hb := hb5
  clear hb5
  go_upto_region 19 with fail
  obtain ⟨z, rfl⟩ : ∃ z : Nat, more = z := ⟨more.toNat, by omega⟩
  have hz : z ≤ 255 := by omega
  have ez : (t.size : Int) + (z : Int) = ((t.size + z : Nat) : Int) := by omega
  rw [ez]
  clear ez hm0 hm1
  go_wp2_with fail
  by_cases htx : textB t.data.toList = true
  · refine (putText_ok t (t.size + z) _ (by omega) htx (by omega)).mono ?_
    rintro e w2 ⟨rfl, hb2⟩
    rw [Nat.add_sub_cancel_left]
    have htb := fun W => text_back x y t z W hx hy ht hz htx
    have hsf := size_pads t z
    clear htx
    obtain ⟨f, hf⟩ : ∃ f, t ++ (⟨(zeros z).toArray⟩ : ByteArray) = f := ⟨_, rfl⟩
    rw [hf] at hsf ⊢
    simp only [hf] at htb
    clear hf
    rw [← hsf]
    have hfl : f.size ≤ 355 := by omega
    have HTB := Lib.hid htb; clear htb hsf
    go_wp2_with fail
    refine (is_any t _).mono ?_
    rintro e u ⟨rfl, rfl⟩
    go_wp2_with fail
    refine (HTB.out _).mono ?_
    rintro e w3 ⟨rfl, hb3⟩
    have hc := cell_kept hb3 (p := ⟨w2.heap.size, 0, none⟩) (v := .string t) (by simp [World.cell?_alloc_new])
    go_wp2_with fail
    refine (is_yes t _ _ hc).mono ?_
    rintro e u ⟨rfl, rfl⟩
    have hb4 := hb.trans (hb2.mono hb.size)
    have hb5 := (hb4.alloc hb4.size (.cells #[.string t] 9)).trans (hb3.mono (by have := hb4.size; simp; omega))
    clear hb hb2 hb3 hb4 hc
    go_wp2_with fail
    refine (is_any f _).mono ?_
    rintro e u ⟨rfl, rfl⟩
    go_wp2_with fail
    refine (part_ok (x ++ f ++ y) x.size f.size _ (by rw [size_mid]; omega) (by rw [size_mid]; omega)).mono ?_
    rintro e u ⟨rfl, rfl⟩
    rw [mid]
    go_wp2_with fail
    refine (is_yes f _ _ (by simp [World.cell?_alloc_new])).mono ?_
    rintro e u ⟨rfl, rfl⟩
    go_wp2_with fail
    go_ret
    exact ⟨rfl, hb5.alloc hb5.size _⟩
  · have htx' : textB t.data.toList = false := by simpa using htx
    clear htx
    have HN := Lib.hid (trim_bad _ htx')
    refine (putText_form t (t.size + z) _ (by omega) htx').mono ?_
    clear htx'
    rintro e w2 ⟨rfl, hb2⟩
    go_wp2_with fail
    refine (fails_any 5 _).mono ?_
    rintro e u ⟨rfl, rfl⟩
    go_wp2_with fail
    refine (fails_yes' 5 _ _ (by simp [World.cell?_alloc_new])).mono ?_
    rintro e u ⟨rfl, rfl⟩
    go_wp2_with fail
    refine (printable_any _).mono ?_
    rintro e w3 ⟨rfl, hb3⟩
    go_wp2_with fail
    refine (trim_text t _ (by omega)).mono ?_
    obtain ⟨c, l, hcl⟩ := List.exists_cons_of_ne_nil HN.out
    rw [hcl]
    clear hcl HN
    rintro e w4 ⟨rfl, hb4⟩
    have hb5 := hb.trans (hb2.mono hb.size)
    have hb6 := (hb5.alloc hb5.size (.cells #[.int .i64 5] 30)).trans (hb3.mono (by have := hb5.size; simp; omega))
    have hb7 := hb6.trans (hb4.mono hb6.size)
    clear hb hb2 hb3 hb4 hb5 hb6
    go_wp2_with fail
    go_ret
    exact ⟨rfl, hb7⟩
end Go.Proofs.YteddodfpgaadoaaDoor
