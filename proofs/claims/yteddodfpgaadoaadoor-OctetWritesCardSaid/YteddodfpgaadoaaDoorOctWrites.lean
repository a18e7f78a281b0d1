/- OctetWrites: for every input the law returns true and leaves what was there as it was. -/
import Derived.Test.YteddodfpgaadoaaDoorOctV
import Derived.Test.YteddodfpgaadoaaDoorOctH
import Derived.Deep.DeepCutAuto
import Derived.Deep.RegionHeld3
namespace Go.Proofs.YteddodfpgaadoaaDoor
open Go.RowKit

theorem fun4_0 (x0 x1 x2 x3 : Value) (w : World) : (Instr.index 29 (.agg #[x0, x1, x2, x3]) (.int .i64 0)).run Tryd.prog w = .ok x0 w := by kernel_rfl
theorem fun4_1 (x0 x1 x2 x3 : Value) (w : World) : (Instr.index 29 (.agg #[x0, x1, x2, x3]) (.int .i64 1)).run Tryd.prog w = .ok x1 w := by kernel_rfl
theorem fun4_2 (x0 x1 x2 x3 : Value) (w : World) : (Instr.index 29 (.agg #[x0, x1, x2, x3]) (.int .i64 2)).run Tryd.prog w = .ok x2 w := by kernel_rfl
theorem fun4_3 (x0 x1 x2 x3 : Value) (w : World) : (Instr.index 29 (.agg #[x0, x1, x2, x3]) (.int .i64 3)).run Tryd.prog w = .ok x3 w := by kernel_rfl
theorem int4 (a b c d : Int) (i : Nat) (hi : i < 4) : ∃ x : Int, ∀ w : World, (Instr.index 27 (.agg #[.int .i64 a, .int .i64 b, .int .i64 c, .int .i64 d]) (.int .i64 i)).run Tryd.prog w = .ok (.int .i64 x) w := by
  match i, hi with
  | 0, _ => exact ⟨a, fun w => by kernel_rfl⟩
  | 1, _ => exact ⟨b, fun w => by kernel_rfl⟩
  | 2, _ => exact ⟨c, fun w => by kernel_rfl⟩
  | 3, _ => exact ⟨d, fun w => by kernel_rfl⟩
theorem int3 (a b c : Int) (i : Nat) (hi : i < 3) : ∃ x : Int, ∀ w : World, (Instr.index 34 (.agg #[.int .i64 a, .int .i64 b, .int .i64 c]) (.int .i64 i)).run Tryd.prog w = .ok (.int .i64 x) w := by
  match i, hi with
  | 0, _ => exact ⟨a, fun w => by kernel_rfl⟩
  | 1, _ => exact ⟨b, fun w => by kernel_rfl⟩
  | 2, _ => exact ⟨c, fun w => by kernel_rfl⟩
theorem str2 (a b : ByteArray) (ha : a.size ≤ 66000) (hb : b.size ≤ 66000) (i : Nat) (hi : i < 2) : ∃ x : ByteArray, x.size ≤ 66000 ∧ ∀ w : World, (Instr.index 33 (.agg #[.string a, .string b]) (.int .i64 i)).run Tryd.prog w = .ok (.string x) w := by
  match i, hi with
  | 0, _ => exact ⟨a, ha, fun w => by kernel_rfl⟩
  | 1, _ => exact ⟨b, hb, fun w => by kernel_rfl⟩

theorem long_keep (s l : ByteArray) (t : Int) (g : Nat) (w : World) (hs : s.size ≤ 9223372036854775807) (hl : l.size ≤ 9223372036854775807) (ht0 : 0 ≤ t) (ht1 : t ≤ 65535)
    (h0 : w.cell? ⟨g, 0, none⟩ = some (.string s)) (h1 : w.cell? ⟨g, 1, none⟩ = some (.string l)) (h2 : w.cell? ⟨g, 2, none⟩ = some (.int .u16 t)) :
    Calls Tryd.prog 15 #[.agg #[.string s, .string l, .int .u16 t]] w fun e w' => (∃ y : ByteArray, y.size ≤ 66000 ∧ e = .returned (.string y)) ∧ w'.cell? ⟨g, 0, none⟩ = some (.string s) ∧ w'.cell? ⟨g, 1, none⟩ = some (.string l) ∧ w'.cell? ⟨g, 2, none⟩ = some (.int .u16 t) ∧ Below w.heap.size w w' :=
  (long_octets s l t w hs hl ht0 ht1).mono fun _ _ ⟨he, hb⟩ => ⟨he, cell_kept hb h0, cell_kept hb h1, cell_kept hb h2, hb⟩

set_option maxRecDepth 20000 in
set_option maxHeartbeats 3200000 in
theorem writes_walk (s l : ByteArray) (t n k : Int) (w : World) (hs : s.size ≤ 9223372036854775807) (hl : l.size ≤ 9223372036854775807) (ht0 : 0 ≤ t) (ht1 : t ≤ 65535) :
    Calls Tryd.prog 3 #[.agg #[.string s, .string l, .int .u16 t], .int .i64 n, .int .i64 k] w fun e w' => e = .returned (.bool true) ∧ Below w.heap.size w w' := by
  have hbw : Below w.heap.size w (w.alloc (.cells #[.string s, .string l, .int .u16 t] 24)) := (Below.refl _ _).alloc (Nat.le_refl _) _
  have hcc : ∀ j v, (#[.string s, .string l, .int .u16 t] : Array Value)[j]? = some v → (w.alloc (.cells #[.string s, .string l, .int .u16 t] 24)).cell? ⟨w.heap.size, j, none⟩ = some v := fun j v h => by
    rw [cell_of_row _ _ _ _ _ _ (heap_alloc_new w _)]; exact h
  have HCC := Lib.hid hcc; clear hcc
  have HS := Lib.hid hs; have HL := Lib.hid hl
  clear hs hl
  go_enter Tryd.func3, Tryd.ntmps3
  go_wp2_with fail
  generalize hW : w.alloc (.cells #[.string s, .string l, .int .u16 t] 24) = W at hbw HCC ⊢
  clear hW
  refine (works_true _).mono ?_
  rintro e w1 ⟨rfl, hb⟩
  have hb0 := hbw.trans (hb.mono hbw.size)
  have c0 := cell_kept hb (HCC.out 0 _ rfl)
  have c1 := cell_kept hb (HCC.out 1 _ rfl)
  have c2 := cell_kept hb (HCC.out 2 _ rfl)
  clear hb hbw HCC
  obtain ⟨g, hg⟩ : ∃ g, w.heap.size = g := ⟨_, rfl⟩
  rw [hg] at c0 c1 c2 hb0 ⊢
  have HG := Lib.hid hg; clear hg
  go_upto_region 4 with fail
  generalize n / 4294967296 = n1
  generalize n / 281474976710656 = n2
  generalize n / 72057594037927936 = n3
  have u0 := fun4_0
  have u1 := fun4_1
  have u2 := fun4_2
  have u3 := fun4_3
  have HB0 := Lib.hid hb0; clear hb0
  have HC1 := Lib.hid c1; have HC0 := Lib.hid c0; have HC2 := Lib.hid c2
  clear c0 c1 c2
  go_loopw [37] (fun v wr => ∃ i : Nat, i ≤ 4 ∧ v = .int .i64 i ∧ Below w1.heap.size w1 wr) (fun v _ => 4 - (intOf v).toNat)
  case atStart => exact ⟨0, by omega, rfl, Below.refl _ _⟩
  case round =>
    obtain ⟨i, hi, rfl, hbr⟩ := hrel
    by_cases hi4 : i < 4
    · obtain ⟨x, hx⟩ := int4 n n1 n2 n3 i hi4
      have hlt : (i : Int) < 4 := by omega
      have hdec : decide ((i : Int) < 4) = true := decide_eq_true hlt
      go_upto_region 7 with fail
      go_wp2_with fail
      have HX := Lib.hid hx; clear hx
      obtain ⟨wo, hwo⟩ : ∃ wo : World, wo = wr := ⟨_, rfl⟩
      subst hwo
      go_loopw [41] (fun v wz => ∃ j : Nat, j ≤ 4 ∧ v = .int .i64 j ∧ Below w1.heap.size w1 wz) (fun v _ => 4 - (intOf v).toNat)
      case atStart => exact ⟨0, by omega, rfl, hbr⟩
      case round =>
        obtain ⟨j, hj, rfl, hbz⟩ := hrel
        by_cases hj4 : j < 4
        · have hjj : j = 0 ∨ j = 1 ∨ j = 2 ∨ j = 3 := by omega
          rcases hjj with rfl | rfl | rfl | rfl
          · go_wp2_with fail
            refine (putU8_any x _).mono ?_
            rintro e w2 ⟨rfl, hb2⟩
            go_wp2_with fail
            refine (refPutU8_any x _).mono ?_
            rintro e w3 ⟨rfl, hb3⟩
            have hb4 := hbz.trans (hb2.mono hbz.size)
            have hb5 := hb4.trans (hb3.mono hb4.size)
            clear hb2 hb3 hb4
            go_wp2_with fail
            go_roundw
            case rel => first | exact ⟨1, by omega, rfl, hb5⟩ | ((repeat apply Exists.intro); exact ⟨⟨1, by omega, rfl, hb5⟩, rfl⟩)
            case measure => simp [intOf]
          · go_wp2_with fail
            refine (putU16_any x _).mono ?_
            rintro e w2 ⟨rfl, hb2⟩
            go_wp2_with fail
            refine (refPutU16_any x _).mono ?_
            rintro e w3 ⟨rfl, hb3⟩
            have hb4 := hbz.trans (hb2.mono hbz.size)
            have hb5 := hb4.trans (hb3.mono hb4.size)
            clear hb2 hb3 hb4
            go_wp2_with fail
            go_roundw
            case rel => first | exact ⟨2, by omega, rfl, hb5⟩ | ((repeat apply Exists.intro); exact ⟨⟨2, by omega, rfl, hb5⟩, rfl⟩)
            case measure => simp [intOf]
          · go_wp2_with fail
            refine (putU32_any x _).mono ?_
            rintro e w2 ⟨rfl, hb2⟩
            go_wp2_with fail
            refine (refPutU32_any x _).mono ?_
            rintro e w3 ⟨rfl, hb3⟩
            have hb4 := hbz.trans (hb2.mono hbz.size)
            have hb5 := hb4.trans (hb3.mono hb4.size)
            clear hb2 hb3 hb4
            go_wp2_with fail
            go_roundw
            case rel => first | exact ⟨3, by omega, rfl, hb5⟩ | ((repeat apply Exists.intro); exact ⟨⟨3, by omega, rfl, hb5⟩, rfl⟩)
            case measure => simp [intOf]
          · go_wp2_with fail
            refine (putS32_any x _).mono ?_
            rintro e w2 ⟨rfl, hb2⟩
            go_wp2_with fail
            refine (refPutS32_any x _).mono ?_
            rintro e w3 ⟨rfl, hb3⟩
            have hb4 := hbz.trans (hb2.mono hbz.size)
            have hb5 := hb4.trans (hb3.mono hb4.size)
            clear hb2 hb3 hb4
            go_wp2_with fail
            go_roundw
            case rel => first | exact ⟨4, by omega, rfl, hb5⟩ | ((repeat apply Exists.intro); exact ⟨⟨4, by omega, rfl, hb5⟩, rfl⟩)
            case measure => simp [intOf]
        · obtain rfl : j = 4 := by omega
          go_wp2_with fail
          go_roundw
          case rel => exact ⟨i + 1, by omega, by go_num, hbz⟩
          case measure => simp [intOf]; omega
    · obtain rfl : i = 4 := by omega
      go_upto_region 15 with fail
      have c0 := cell_kept hbr HC0.out
      have c1 := cell_kept hbr HC1.out
      have c2 := cell_kept hbr HC2.out
      have hbg : Below g w wr := HB0.out.trans (hbr.mono (by have h := HB0.out.size; rw [HG.out] at h; exact h))
      have q5 : (0 : Int) ≤ min (l.size : Int) 300 := by omega
      have q6 : min (l.size : Int) 300 ≤ (l.size : Int) := by omega
      have hyl : (l.extract 0 (min (l.size : Int) 300).toNat).size ≤ 66000 := by simp; omega
      go_cut [78, 79] (fun v z wz => ∃ (y y' : ByteArray), y.size ≤ 66000 ∧ y'.size ≤ 66000 ∧ v = .agg #[.string y, .string y'] ∧ z = .int .i64 0 ∧ Below g w wz)
      case first =>
        go_region_held3 (fun w' => w'.cell? ⟨g, 0, none⟩ = some (.string s) ∧ w'.cell? ⟨g, 1, none⟩ = some (.string l) ∧ w'.cell? ⟨g, 2, none⟩ = some (.int .u16 t)) (go_keep)
          (first | (go_at_call 15; refine (long_keep s l t g _ HS.out HL.out ht0 ht1 ?_ ?_ ?_).mono ?_; (simp [*]); (simp [*]); (simp [*]); rintro e w2 ⟨⟨y, hy, rfl⟩, d0, d1, d2, hb2⟩))
        all_goals
          go_wp2_with fail
          go_meet
          have hb3 : Below g w w2 := hbg.drew.trans (hb2.mono (by have h := hbg.drew.size; rw [HG.out] at h; exact h))
          exact ⟨y, _, hy, hyl, rfl, rfl, hb3⟩
      case rest =>
        obtain ⟨y, y', hy, hy', rfl, rfl, hb3⟩ := hcut
        go_wp2_with fail
        go_loopw [79] (fun v wz => ∃ i : Nat, i ≤ 2 ∧ v = .int .i64 i ∧ Below g w wz) (fun v _ => 2 - (intOf v).toNat)
        case atStart => exact ⟨0, by omega, rfl, hb3⟩
        case round =>
          obtain ⟨i, hi, rfl, hbz⟩ := hrel
          by_cases hi2 : i < 2
          · obtain ⟨x, hxs, hx⟩ := str2 y y' hy hy' i hi2
            have hlt : (i : Int) < 2 := by omega
            have hdec : decide ((i : Int) < 2) = true := decide_eq_true hlt
            go_upto_region 18 with fail
            have HX := Lib.hid hx; clear hx
            have HXS := Lib.hid hxs; clear hxs
            go_wp2_with fail
            generalize wrap64 (wrap64 ((x.size : Int) + wrap64 ((IntKind.u64.wrap k).tmod 5)) - 2) = m2
            generalize wrap64 ((IntKind.u64.wrap k).tmod 70) = m1
            obtain ⟨wo, hwo⟩ : ∃ wo : World, wo = wr := ⟨_, rfl⟩
            subst hwo
            go_loopw [96] (fun v wz => ∃ j : Nat, j ≤ 3 ∧ v = .int .i64 j ∧ Below g w wz) (fun v _ => 3 - (intOf v).toNat)
            case atStart => exact ⟨0, by omega, rfl, hbz⟩
            case round =>
              obtain ⟨j, hj, rfl, hbq⟩ := hrel
              by_cases hj3 : j < 3
              · obtain ⟨m, hm⟩ := int3 k m1 m2 j hj3
                have hltj : (j : Int) < 3 := by omega
                go_upto_region 21 with fail
                have HM := Lib.hid hm; clear hm
                go_wp2_with fail
                refine (putText_any x m _ (by have := HXS.out; omega)).mono ?_
                rintro e w4 ⟨rfl, hb4⟩
                go_wp2_with fail
                refine (refPutText_any x m _ (by have := HXS.out; omega)).mono ?_
                rintro e w5 ⟨rfl, hb5⟩
                go_wp2_with fail
                refine (pad_any x m _).mono ?_
                rintro e w6 ⟨rfl, hb6⟩
                go_wp2_with fail
                refine (refPad_any x m _).mono ?_
                rintro e w7 ⟨rfl, hb7⟩
                have hgq : g ≤ wr.heap.size := by have h := hbq.size; rw [HG.out] at h; exact h
                have i4 := hbq.trans (hb4.mono hgq)
                have i5 := i4.trans (hb5.mono (by have h := i4.size; rw [HG.out] at h; exact h))
                have i6 := i5.trans (hb6.mono (by have h := i5.size; rw [HG.out] at h; exact h))
                have i7 := i6.trans (hb7.mono (by have h := i6.size; rw [HG.out] at h; exact h))
                clear hb4 hb5 hb6 hb7 i4 i5 i6
                go_wp2_with fail
                go_roundw
                case rel => first | exact ⟨j + 1, by omega, by go_num, i7⟩ | ((repeat apply Exists.intro); exact ⟨⟨j + 1, by omega, by go_num, i7⟩, rfl⟩)
                case measure => simp [intOf]; omega
              · obtain rfl : j = 3 := by omega
                go_wp2_with fail
                go_roundw
                case rel => first | exact ⟨i + 1, by omega, by go_num, hbq⟩ | ((repeat apply Exists.intro); exact ⟨⟨i + 1, by omega, by go_num, hbq⟩, rfl⟩)
                case measure => simp [intOf]; omega
          · obtain rfl : i = 2 := by omega
            go_wp2_with fail
            go_ret
            exact ⟨rfl, by rw [HG.out]; exact hbz⟩
end Go.Proofs.YteddodfpgaadoaaDoor
