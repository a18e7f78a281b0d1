/- OctetParts: for every input the law returns true and leaves what was there as it was. -/
import Derived.Test.YteddodfpgaadoaaDoorOctH
import Derived.Test.YteddodfpgaadoaaDoorOctQ
namespace Go.Proofs.YteddodfpgaadoaaDoor
open Go.RowKit

theorem size_pad (x : ByteArray) (M : Nat) : (x ++ (⟨(zeros M).toArray⟩ : ByteArray)).size = x.size + M := by
  rw [ByteArray.size_append]
  show x.size + (zeros M).toArray.size = _
  simp [zeros]

set_option maxRecDepth 20000 in
set_option maxHeartbeats 3200000 in
theorem parts_walk (s : ByteArray) (at' n from' k : Int) (w : World) (hs : s.size ≤ 9223372036854775807)
    (ha : 0 ≤ at' ∧ at' ≤ 255) (hn : 0 ≤ n ∧ n ≤ 255) (hf : 0 ≤ from' ∧ from' ≤ 255) (hk : 0 ≤ k ∧ k ≤ 255) :
    Calls Tryd.prog 5 #[.string s, .int .u8 at', .int .u8 n, .int .u8 from', .int .u8 k] w fun e w' => e = .returned (.bool true) ∧ Below w.heap.size w w' := by
  obtain ⟨a0, a1⟩ := ha
  obtain ⟨n0, n1⟩ := hn
  obtain ⟨f0, f1⟩ := hf
  obtain ⟨k0, k1⟩ := hk
  go_enter Tryd.func5, Tryd.ntmps5
  go_wp2_with fail
  refine (works_true _).mono ?_
  rintro e w1 ⟨rfl, hb⟩
  go_upto_region 4 with fail
  have hsz : (s.extract 0 (min (s.size : Int) 300).toNat).size ≤ 300 := by simp; omega
  generalize s.extract 0 (min (s.size : Int) 300).toNat = x at hsz ⊢
  clear hs
  have hx0 : (0 : Int) < (x.size : Int) + 1 := by omega
  go_upto_region 5 with fail
  obtain ⟨a, ha⟩ : ∃ a : Nat, at' % ((x.size : Int) + 1) = a := ⟨(at' % ((x.size : Int) + 1)).toNat, by have := Int.emod_nonneg at' (show (x.size : Int) + 1 ≠ 0 by omega); omega⟩
  have hax : a ≤ x.size := by have := Int.emod_lt_of_pos at' hx0; omega
  rw [ha]
  clear ha
  have hd0 : (0 : Int) < (x.size : Int) - a + 1 := by omega
  go_upto_region 6 with fail
  obtain ⟨m, hm⟩ : ∃ m : Nat, n % ((x.size : Int) - a + 1) = m := ⟨(n % ((x.size : Int) - a + 1)).toNat, by have := Int.emod_nonneg n (show (x.size : Int) - a + 1 ≠ 0 by omega); omega⟩
  have hmx : a + m ≤ x.size := by have := Int.emod_lt_of_pos n hd0; omega
  rw [hm]
  clear hm
  go_wp2_with fail
  refine (part_ok x a m _ (by omega) hmx).mono ?_
  rintro e w2 ⟨rfl, rfl⟩
  obtain ⟨p, hp⟩ : ∃ p, x.extract a (a + m) = p := ⟨_, rfl⟩
  rw [hp]
  have hps : p.size = m := by rw [← hp]; simp; omega
  subst hps
  have HP := Lib.hid hp; clear hp
  go_upto_region 9 with fail
  have hp0 : (0 : Int) < (p.size : Int) + 1 := by omega
  go_upto_region 10 with fail
  obtain ⟨b, hb'⟩ : ∃ b : Nat, from' % ((p.size : Int) + 1) = b := ⟨(from' % ((p.size : Int) + 1)).toNat, by have := Int.emod_nonneg from' (show (p.size : Int) + 1 ≠ 0 by omega); omega⟩
  have hbx : b ≤ p.size := by have := Int.emod_lt_of_pos from' hp0; omega
  rw [hb']
  clear hb'
  go_wp2_with fail
  refine (part_at p _ _ b p.size _ (by omega) (by omega) (by omega) (by omega) (by omega)).mono ?_
  rintro e w2 ⟨rfl, rfl⟩
  have hq : p.extract b p.size = x.extract (a + b) (a + p.size) := by
    have := part_part x a p.size b hmx
    rwa [HP.out] at this
  obtain ⟨q, hq'⟩ : ∃ q, x.extract (a + b) (a + p.size) = q := ⟨_, rfl⟩
  rw [hq, hq']
  clear hq
  have HQ := Lib.hid hq'; clear hq'
  go_wp2_with fail
  refine (is_any q _).mono ?_
  rintro e w2 ⟨rfl, rfl⟩
  go_wp2_with fail
  refine (part_at x _ _ (a + b) (a + p.size) _ (by omega) (by omega) (by omega) (by omega) hmx).mono ?_
  rintro e w2 ⟨rfl, rfl⟩
  rw [HQ.out]
  go_wp2_with fail
  refine (is_yes q _ _ (by simp [World.cell?_alloc_new])).mono ?_
  rintro e w2 ⟨rfl, rfl⟩
  have hb2 := hb.alloc hb.size (.cells #[.string q] 9)
  clear hb
  generalize w1.alloc (.cells #[.string q] 9) = w2 at hb2 ⊢
  go_upto_region 13 with fail
  by_cases h4 : 4 ≤ p.size
  · have e01 := ext2 p 0 (by omega)
    have e23 := ext2 p 2 (by omega)
    have e03 := ext4 p 0 (by omega)
    simp only [Nat.zero_add, Nat.reduceAdd] at e01 e23 e03
    obtain ⟨x0, hx0'⟩ : ∃ x0, p[0] = x0 := ⟨_, rfl⟩
    obtain ⟨x1, hx1'⟩ : ∃ x1, p[1] = x1 := ⟨_, rfl⟩
    obtain ⟨x2, hx2'⟩ : ∃ x2, p[2] = x2 := ⟨_, rfl⟩
    obtain ⟨x3, hx3'⟩ : ∃ x3, p[3] = x3 := ⟨_, rfl⟩
    rw [hx0', hx1'] at e01
    rw [hx2', hx3'] at e23
    rw [hx0', hx1', hx2', hx3'] at e03
    clear hx0' hx1' hx2' hx3'
    have E01 := Lib.hid e01; clear e01
    have E23 := Lib.hid e23; clear e23
    have E03 := Lib.hid e03; clear e03
    have h4' : (4 : Int) ≤ (p.size : Int) := by omega
    go_wp2_with fail
    refine (u16_at p _ 0 _ x0 x1 (by omega) (by omega) (by omega) E01.out).mono ?_
    rintro e w3 ⟨rfl, hb3⟩
    have hN1 := num_join 0 0 x0 x1
    have hl1 := num4_lt 0 0 x0 x1
    have hj := num_join x0 x1 x2 x3
    have hu1 : num4 0 0 x0 x1 < 65536 := by unfold num4; have := x0.toNat_lt; have := x1.toNat_lt; have z : (0 : UInt8).toNat = 0 := rfl; rw [z]; omega
    have hu2 : num4 0 0 x2 x3 < 65536 := by unfold num4; have := x2.toNat_lt; have := x3.toNat_lt; have z : (0 : UInt8).toNat = 0 := rfl; rw [z]; omega
    clear hN1 hl1
    generalize num4 0 0 x0 x1 = N1 at hj hu1 ⊢
    have HJ := Lib.hid hj; clear hj
    go_wp2_with fail
    refine (u16_at p _ 2 _ x2 x3 (by omega) (by omega) (by omega) E23.out).mono ?_
    rintro e w4 ⟨rfl, hb4⟩
    have hj := HJ.out
    clear HJ
    generalize num4 0 0 x2 x3 = N2 at hj hu2 ⊢
    have HJ := Lib.hid hj; clear hj
    have hs0 : (0 : Int) ≤ (N1 : Int) * 65536 := by omega
    have hs1 : (N1 : Int) * 65536 + N2 ≤ 4294967296 := by omega
    have hs2 : (N1 : Int) * 65536 ≤ 4294967296 := by omega
    go_wp2_with fail
    refine (says_any _ _).mono ?_
    rintro e w5 ⟨rfl, rfl⟩
    go_wp2_with fail
    refine (u32_at p _ 0 _ x0 x1 x2 x3 (by omega) (by omega) (by omega) E03.out).mono ?_
    rintro e w5 ⟨rfl, hb5⟩
    rw [HJ.out]
    have hc5 := cell_kept hb5 (p := ⟨w4.heap.size, 0, none⟩) (v := .int .i64 ((N1 : Int) * 65536 + N2)) (by simp [World.cell?_alloc_new])
    go_wp2_with fail
    refine (says_is _ _ _ _ hc5 (by omega)).mono ?_
    rintro e w6 ⟨rfl, rfl⟩
    have hb6 := hb2.trans (hb3.mono hb2.size)
    have hb7 := hb6.trans (hb4.mono hb6.size)
    have hb8 := (hb7.alloc hb7.size (.cells #[.int .i64 ((N1 : Int) * 65536 + N2)] 3)).trans (hb5.mono (by have := hb7.size; simp; omega))
    clear hb2 hb3 hb4 hb5 hb6 hb7 hc5
    have hb2 := hb8
    clear hb8
    go_upto_region 18 with fail
    have hz0 : (0 : Int) ≤ k % 64 := Int.emod_nonneg _ (by omega)
    have hz1 : k % 64 < 64 := Int.emod_lt_of_pos _ (by omega)
    go_upto_region 19 with fail
    obtain ⟨z, hz⟩ : ∃ z : Nat, 1 + k % 64 = z := ⟨(1 + k % 64).toNat, by omega⟩
    rw [hz]
    have hz2 : 1 ≤ z := by omega
    have hz3 : z ≤ 64 := by omega
    clear hz hz0 hz1
    have hM := pad_lt x.size z hz2
    have hmod := pad_mod x.size z hz2
    go_wp2_with fail
    refine (pad_ok x z _ (by omega) hz2 hz3 (by omega)).mono ?_
    rintro e w9 ⟨rfl, hb9⟩
    generalize (z - x.size % z) % z = M at hM hmod ⊢
    have hpre := prefix_append x ⟨(zeros M).toArray⟩
    have hbeh := extract_behind x (zeros M)
    have hsy : (x ++ (⟨(zeros M).toArray⟩ : ByteArray)).size = x.size + M := size_pad x M
    generalize x ++ (⟨(zeros M).toArray⟩ : ByteArray) = y at hpre hbeh hsy ⊢
    have hy1 : (y.size : Int) % (z : Int) = 0 := by rw [hsy]; omega
    have hy2 : (y.size : Int) - (x.size : Int) < (z : Int) := by rw [hsy]; omega
    have hy3 : (x.size : Int) ≤ (y.size : Int) := by rw [hsy]; omega
    have hy4 : y.size ≤ 65536 := by omega
    have hy5 : (((y.size : Int) % (z : Int) == 0) : Bool) = true := by rw [hy1]; rfl
    have HPRE := Lib.hid hpre; clear hpre
    have HBEH := Lib.hid hbeh; clear hbeh
    clear hsy hmod hy1
    have hb2' := hb2.trans (hb9.mono hb2.size)
    clear hb2 hb9
    go_wp2_with fail
    refine (Tryd.strings_HasPrefix y x _).mono ?_
    rw [HPRE.out]
    rintro e w10 ⟨rfl, rfl⟩
    go_wp2_with fail
    refine (trim_any _ _ (by simp; omega)).mono ?_
    rw [HBEH.out, show Lib.trimB (ByteArray.mk (zeros M).toArray).data.toList 0 = [] from trim_replicate M]
    rintro e w11 ⟨rfl, hb11⟩
    go_wp2_with fail
    go_ret
    exact ⟨rfl, hb2'.trans (hb11.mono hb2'.size)⟩
  · have h4' : ¬ (4 : Int) ≤ (p.size : Int) := by omega
    go_upto_region 18 with fail
    have hz0 : (0 : Int) ≤ k % 64 := Int.emod_nonneg _ (by omega)
    have hz1 : k % 64 < 64 := Int.emod_lt_of_pos _ (by omega)
    go_upto_region 19 with fail
    obtain ⟨z, hz⟩ : ∃ z : Nat, 1 + k % 64 = z := ⟨(1 + k % 64).toNat, by omega⟩
    rw [hz]
    have hz2 : 1 ≤ z := by omega
    have hz3 : z ≤ 64 := by omega
    clear hz hz0 hz1
    have hM := pad_lt x.size z hz2
    have hmod := pad_mod x.size z hz2
    go_wp2_with fail
    refine (pad_ok x z _ (by omega) hz2 hz3 (by omega)).mono ?_
    rintro e w9 ⟨rfl, hb9⟩
    generalize (z - x.size % z) % z = M at hM hmod ⊢
    have hpre := prefix_append x ⟨(zeros M).toArray⟩
    have hbeh := extract_behind x (zeros M)
    have hsy : (x ++ (⟨(zeros M).toArray⟩ : ByteArray)).size = x.size + M := size_pad x M
    generalize x ++ (⟨(zeros M).toArray⟩ : ByteArray) = y at hpre hbeh hsy ⊢
    have hy1 : (y.size : Int) % (z : Int) = 0 := by rw [hsy]; omega
    have hy2 : (y.size : Int) - (x.size : Int) < (z : Int) := by rw [hsy]; omega
    have hy3 : (x.size : Int) ≤ (y.size : Int) := by rw [hsy]; omega
    have hy4 : y.size ≤ 65536 := by omega
    have hy5 : (((y.size : Int) % (z : Int) == 0) : Bool) = true := by rw [hy1]; rfl
    have HPRE := Lib.hid hpre; clear hpre
    have HBEH := Lib.hid hbeh; clear hbeh
    clear hsy hmod hy1
    have hb2' := hb2.trans (hb9.mono hb2.size)
    clear hb2 hb9
    go_wp2_with fail
    refine (Tryd.strings_HasPrefix y x _).mono ?_
    rw [HPRE.out]
    rintro e w10 ⟨rfl, rfl⟩
    go_wp2_with fail
    refine (trim_any _ _ (by simp; omega)).mono ?_
    rw [HBEH.out, show Lib.trimB (ByteArray.mk (zeros M).toArray).data.toList 0 = [] from trim_replicate M]
    rintro e w11 ⟨rfl, hb11⟩
    go_wp2_with fail
    go_ret
    exact ⟨rfl, hb2'.trans (hb11.mono hb2'.size)⟩
end Go.Proofs.YteddodfpgaadoaaDoor
