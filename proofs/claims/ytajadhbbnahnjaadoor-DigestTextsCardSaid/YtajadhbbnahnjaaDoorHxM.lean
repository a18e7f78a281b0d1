/- DigestTexts: the walk. -/
import Derived.Test.YtajadhbbnahnjaaDoorHxL
namespace Go.Proofs.YtajadhbbnahnjaaDoor
open Go.RowKit
set_option maxRecDepth 100000
set_option maxHeartbeats 1600000

theorem texts_one (l : List UInt8) (hl : l.length = 16) (t : ByteArray) (ht : t.size ≤ 9223372036854775807) (a c : Int) (ha : 0 ≤ a ∧ a ≤ 255) (hc : 0 ≤ c ∧ c ≤ 255) (w : World)
    (hw : ∀ v : World, Bl w v → Calls Tryd.prog 5 #[] v fun e w' => e = .returned (.bool true) ∧ Bl v w') :
    Calls Tryd.prog 3 #[.agg (u8s l).toArray, .string t, .int .u8 a, .int .u8 c] w fun e w' => e = .returned (.bool true) ∧ Bl w w' := by
  have HW := Lib.hid hw; clear hw
  have HTT := Lib.hid ht; clear ht
  obtain ⟨H, hH⟩ : ∃ H : ByteArray, (⟨(hxs l).toArray⟩ : ByteArray) = H := ⟨_, rfl⟩
  have hHs : H.size = 32 := by rw [← hH]; show (hxs l).toArray.size = 32; rw [List.size_toArray, hxs_length, hl]
  have hhex := hex_l l hl
  have href := ref_hex l hl
  rw [hH] at hhex href
  have HX := Lib.hid hhex; have HRX := Lib.hid href; have HL := Lib.hid hl; have HS := Lib.hid hHs
  have HC := Lib.hid hc
  obtain ⟨ha0, ha1⟩ := ha
  clear hhex href hH hl hHs hc
  go_enter Tryd.func3, Tryd.ntmps3
  go_wp2_with fail
  refine (HW.out _ (Bl.new w _)).mono ?_
  rintro e w1 ⟨rfl, h1⟩
  have R1 : Row16 w1 w.heap.size l := (row_new w l _).keep h1 (by rw [HL.out]; decide)
  have hb1 : Bl w w1 := (Bl.new w _).trans h1
  clear h1
  obtain ⟨g, hg⟩ : ∃ g, w.heap.size = g := ⟨_, rfl⟩
  have HG := Lib.hid hg
  rw [hg] at R1 ⊢
  clear hg
  have G1 := R1.rg HL.out
  go_wp2_with ((with_reducible refine wpList_load_mid rfl 22 (.tmp 4) rfl g 0 ?hx (u8s l) _ G1.range Tryd.underlying22 ?hy G1.info ?_); (case hx => rfl); (case hy => rfl))
  refine (HRX.out _).mono ?_
  rintro e w2 ⟨rfl, h2⟩
  have R2 : Row16 w2 g l := R1.keep h2 (by rw [HL.out]; decide)
  have hb2 : Bl w w2 := hb1.trans h2
  clear R1 G1 h2 hb1
  go_upto_region 5 with fail
  obtain ⟨k, hk⟩ : ∃ k : Int, a % 32 = k := ⟨_, rfl⟩
  have hk0 : 0 ≤ k := by omega
  have hk1 : k < 32 := by omega
  rw [hk]
  clear hk ha0 ha1
  have hHk : k + 1 ≤ (H.size : Int) := by rw [HS.out]; omega
  obtain ⟨m, hm⟩ : ∃ m : Int, min (t.size : Int) 40 = m := ⟨_, rfl⟩
  have hm0 : 0 ≤ m := by omega
  have hm1 : m ≤ (t.size : Int) := by omega
  have c1 := str_cut_h t m hm0 hm1
  have c2 := str_cut_h H k hk0 (by omega)
  have c3 := str_cut_l H k hk0 (by omega)
  have c4 := str_cut_l H (k + 1) (by omega) hHk
  have z2 : (H.extract 0 k.toNat).size ≤ 32 := by have := HS.out; simp; omega
  have z4 : (H.extract (k + 1).toNat H.size).size ≤ 32 := by have := HS.out; simp; omega
  generalize t.extract 0 m.toNat = S1 at c1
  generalize H.extract 0 k.toNat = S2 at c2 z2
  generalize H.extract k.toNat H.size = S3 at c3
  generalize H.extract (k + 1).toNat H.size = S4 at c4 z4
  have hcv := byte_str c HC.out ((w2.alloc (.cells #[.int .u8 c] 5)).drew) w2.heap.size (c_new w2 #[.int .u8 c] 5 0)
  obtain ⟨B, hB⟩ : ∃ B : ByteArray, (⟨#[UInt8.ofNat c.toNat]⟩ : ByteArray) = B := ⟨_, rfl⟩
  have hBs : B.size = 1 := by rw [← hB]; rfl
  rw [hB] at hcv
  obtain ⟨S5, h5⟩ : ∃ S5 : ByteArray, S2 ++ B = S5 := ⟨_, rfl⟩
  have z5 : S5.size ≤ 33 := by rw [← h5, ByteArray.size_append]; omega
  have d1 : ∀ W : World, (Op.stringOp .add S2 B).run Tryd.prog W = .ok (.string S5) W := fun W => by rw [run_string_add_sum W _ _ (by omega), h5]
  have d2 : ∀ W : World, (Op.stringOp .add S5 S4).run Tryd.prog W = .ok (.string (S5 ++ S4)) W := fun W => run_string_add_sum W _ _ (by omega)
  generalize S5 ++ S4 = S6 at d2
  have hk2 : 0 ≤ k + 1 := by omega
  have ek : IntKind.i64.wrap (k + 1) = k + 1 := IntWalk.i64_in _ (by clear c1 c2 c3 c4 d1 d2; omega)
  clear hBs z2 z4 z5 h5 hB
  go_region
  have hz : Bl w2 ((w2.alloc (.cells #[.int .u8 c] 5)).drew) := (Bl.new w2 _).drew
  have RC : Row16 ((w2.alloc (.cells #[.int .u8 c] 5)).drew) g l := R2.keep hz (by rw [HL.out]; decide)
  have hbc : Bl w ((w2.alloc (.cells #[.int .u8 c] 5)).drew) := hb2.trans hz
  clear hz
  generalize ((w2.alloc (.cells #[.int .u8 c] 5)).drew) = wc at RC hbc
  clear ek hk2 d1 d2 hcv c1 c2 c3 c4 hm hm0 hm1 hk0 hk1 hHk R2 hb2
  go_wp2_with fail
  go_loopw [46] (fun i wr => ∃ n : Nat, n ≤ 4 ∧ i = .int .i64 n ∧ Row16 wr g l ∧ Bl w wr) (fun i _ => 4 - (intOf i).toNat)
  case atStart => exact ⟨0, by omega, rfl, RC, hbc⟩
  case round =>
    clear RC hbc
    obtain ⟨n, hn, rfl, hrow, hbl⟩ := hrel
    by_cases hlt : n < 4
    · obtain ⟨x, hx⟩ := four_ix S1 H S6 S3 n hlt
      obtain ⟨o, v, ho, hU, hV⟩ := un_two x
      have HU := Lib.hid hU; have HV := Lib.hid hV; have HO := Lib.hid ho
      have hlt' : (n : Int) < 4 := by omega
      have hn0 : (0 : Int) ≤ (n : Int) := by omega
      have HROW := Lib.hid hrow; have HBL := Lib.hid hbl
      clear hU hV ho hrow hbl
      go_wp2_with fail
      refine (HU.out _).mono ?_
      rintro e w5 ⟨rfl, h5⟩
      have T5 := (row_zero w5 22).th rfl o HO.out
      have S5' := (row_zero w5 22).stored rfl o HO.out
      have R5 : Row16 ((w5.alloc (.cells #[.int .u8 0, .int .u8 0, .int .u8 0, .int .u8 0, .int .u8 0, .int .u8 0, .int .u8 0, .int .u8 0, .int .u8 0, .int .u8 0, .int .u8 0, .int .u8 0, .int .u8 0, .int .u8 0, .int .u8 0, .int .u8 0] 22)).setCells w5.heap.size 0 (u8s o)) g l := ((HROW.out.keep h5 (by rw [HL.out]; decide)).keep (Bl.new _ _) (by rw [HL.out]; decide)).stored_far (by have := World.block_lt_of_cell? w5 _ ((HROW.out.keep h5 (by rw [HL.out]; decide)).cell 0 (by rw [HL.out]; decide)); simp at this; omega) _ 0
      have b5 : Bl w ((w5.alloc (.cells #[.int .u8 0, .int .u8 0, .int .u8 0, .int .u8 0, .int .u8 0, .int .u8 0, .int .u8 0, .int .u8 0, .int .u8 0, .int .u8 0, .int .u8 0, .int .u8 0, .int .u8 0, .int .u8 0, .int .u8 0, .int .u8 0] 22)).setCells w5.heap.size 0 (u8s o)) := ((HBL.out.trans h5).trans (Bl.new _ _)).stored (HBL.out.trans h5).size _
      have HS5 := Lib.hid S5'; have HR5 := Lib.hid R5; have HB5 := Lib.hid b5
      clear S5' R5 b5 h5
      go_wp2_with ((with_reducible refine wpList_store_mid rfl 22 (.tmp 13) (.tmp 52) rfl w5.heap.size 0 (u8s o).toArray ?hx ?hy T5.there T5.info T5.all ?_); (case hx => rfl); (case hy => rfl))
      refine (HV.out _).mono ?_
      rintro e w7 ⟨rfl, h7⟩
      have R7 : Row16 w7 w5.heap.size o := HS5.out.keep h7 (by rw [HO.out]; decide)
      have L7 : Row16 w7 g l := HR5.out.keep h7 (by rw [HL.out]; decide)
      have b7 : Bl w w7 := HB5.out.trans h7
      clear h7
      have T8 := (row_zero w7 22).th rfl o HO.out
      have R8 : Row16 ((w7.alloc (.cells #[.int .u8 0, .int .u8 0, .int .u8 0, .int .u8 0, .int .u8 0, .int .u8 0, .int .u8 0, .int .u8 0, .int .u8 0, .int .u8 0, .int .u8 0, .int .u8 0, .int .u8 0, .int .u8 0, .int .u8 0, .int .u8 0] 22)).setCells w7.heap.size 0 (u8s o)) w5.heap.size o := (R7.keep (Bl.new _ _) (by rw [HO.out]; decide)).stored_far (by have := World.block_lt_of_cell? w7 _ (R7.cell 0 (by rw [HO.out]; decide)); simp at this; omega) _ 0
      have L8 : Row16 ((w7.alloc (.cells #[.int .u8 0, .int .u8 0, .int .u8 0, .int .u8 0, .int .u8 0, .int .u8 0, .int .u8 0, .int .u8 0, .int .u8 0, .int .u8 0, .int .u8 0, .int .u8 0, .int .u8 0, .int .u8 0, .int .u8 0, .int .u8 0] 22)).setCells w7.heap.size 0 (u8s o)) g l := (L7.keep (Bl.new _ _) (by rw [HL.out]; decide)).stored_far (by have := World.block_lt_of_cell? w7 _ (L7.cell 0 (by rw [HL.out]; decide)); simp at this; omega) _ 0
      have b8 : Bl w ((w7.alloc (.cells #[.int .u8 0, .int .u8 0, .int .u8 0, .int .u8 0, .int .u8 0, .int .u8 0, .int .u8 0, .int .u8 0, .int .u8 0, .int .u8 0, .int .u8 0, .int .u8 0, .int .u8 0, .int .u8 0, .int .u8 0, .int .u8 0] 22)).setCells w7.heap.size 0 (u8s o)) := (b7.trans (Bl.new _ _)).stored b7.size _
      have GA := R8.rg HO.out
      have GB := ((row_zero w7 22).stored rfl o HO.out).rg HO.out
      have hqq : ∀ W : World, (Op.equalIn 10000 22 (.agg (u8s o).toArray) (.agg (u8s o).toArray)).run Tryd.prog W = .ok true W := fun W => by rw [eq16 o o HO.out HO.out W]; simp
      have hgd : Tryd.prog.eqGuardType Tryd.prog.depth 22 = false := by kernel_rfl
      have HL8 := Lib.hid L8; have HB8 := Lib.hid b8
      clear R7 L7 b7 R8 L8 b8
      go_wp2_with (first
        | ((with_reducible refine wpList_store_mid rfl 22 (.tmp 15) (.tmp 57) rfl w7.heap.size 0 (u8s o).toArray ?hx ?hy T8.there T8.info T8.all ?_); (case hx => rfl); (case hy => rfl))
        | ((with_reducible refine wpList_load_midG 22 (.tmp 13) rfl w5.heap.size 0 ?hx (u8s o) _ GA.range Tryd.underlying22 ?hy GA.info ?hw ?_); (case hx => rfl); (case hy => rfl); (case hw => rfl))
        | ((with_reducible refine wpList_load_midG 22 (.tmp 15) rfl w7.heap.size 0 ?hx (u8s o) _ GB.range Tryd.underlying22 ?hy GB.info ?hw ?_); (case hx => rfl); (case hy => rfl); (case hw => rfl)))
      go_roundw
      case rel => exact ⟨n + 1, by omega, by go_num, HL8.out, HB8.out⟩
      case measure => simp [intOf]; omega
    · obtain rfl : n = 4 := by omega
      have GA := hrow.rg HL.out
      have hb : Bl w wr := hbl
      clear hrow hbl
      go_wp2_with ((with_reducible refine wpList_load_mid rfl 22 (.tmp 4) rfl g 0 ?hx (u8s l) _ GA.range Tryd.underlying22 ?hy GA.info ?_); (case hx => rfl); (case hy => rfl))
      refine (HX.out _).mono ?_
      rintro e w9 ⟨rfl, h9⟩
      have hb9 := hb.trans h9
      clear GA h9 hb
      go_wp2_with fail
      go_ret
      exact ⟨rfl, hb9⟩
theorem texts_ints (l : List Int) (hl : l.length = 16) (hx : ∀ x ∈ l, (Lit.int .u8 x).wf = true) (t : ByteArray) (ht : t.size ≤ 9223372036854775807) (a c : Int) (ha : 0 ≤ a ∧ a ≤ 255) (hc : 0 ≤ c ∧ c ≤ 255) (w : World)
    (hw : ∀ v : World, Bl w v → Calls Tryd.prog 5 #[] v fun e w' => e = .returned (.bool true) ∧ Bl v w') :
    Calls Tryd.prog 3 #[.agg (l.map (Value.int .u8)).toArray, .string t, .int .u8 a, .int .u8 c] w fun e w' => e = .returned (.bool true) ∧ Bl w w' := by
  obtain ⟨b, hb, hn⟩ := bytes_of l hx
  rw [hb]
  exact texts_one b (hn.trans hl) t ht a c ha hc w hw
end Go.Proofs.YtajadhbbnahnjaaDoor
