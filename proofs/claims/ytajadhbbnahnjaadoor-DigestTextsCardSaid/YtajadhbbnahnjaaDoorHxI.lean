/- Contract of the reference's Hex. -/
import Derived.Test.YtajadhbbnahnjaaDoorHxF
import Derived.Deep.QuietTactic
namespace Go.Proofs.YtajadhbbnahnjaaDoor
open Go.RowKit
set_option maxRecDepth 100000
set_option maxHeartbeats 6400000

theorem dig_cut (n : Nat) (h : n < 16) (W : World) : (Instr.sliceAt 9 (.string digs) (some (.int .u8 (n : Int))) (some (.int .u8 ((n : Int) + 1))) none).run Tryd.prog W = .ok (.string ⟨#[hd n]⟩) W := by
  obtain rfl | rfl | rfl | rfl | rfl | rfl | rfl | rfl | rfl | rfl | rfl | rfl | rfl | rfl | rfl | rfl : n = 0 ∨ n = 1 ∨ n = 2 ∨ n = 3 ∨ n = 4 ∨ n = 5 ∨ n = 6 ∨ n = 7 ∨ n = 8 ∨ n = 9 ∨ n = 10 ∨ n = 11 ∨ n = 12 ∨ n = 13 ∨ n = 14 ∨ n = 15 := by omega
  all_goals kernel_rfl
theorem ref_hex (l : List UInt8) (hl : l.length = 16) (w : World) : Calls Tryd.prog 6 #[.agg (u8s l).toArray] w fun e w' => e = .returned (.string ⟨(hxs l).toArray⟩) ∧ Bl w w' := by
  have zR : Row16 (w.alloc (.cells (u8s l).toArray 22)) w.heap.size l := row_new w l _
  have hbl : Bl w (w.alloc (.cells (u8s l).toArray 22)) := Bl.new w _
  have HL := Lib.hid hl; clear hl
  go_enter Tryd.func6, Tryd.ntmps6
  go_wp2_with fail
  obtain ⟨g, hg⟩ : ∃ g, w.heap.size = g := ⟨_, rfl⟩
  rw [hg] at zR ⊢
  clear hg
  go_loopw [4, 5] (fun s i wr => ∃ k : Nat, k ≤ 16 ∧ i = .int .i64 k ∧ s = .string ⟨(hxs (l.take k)).toArray⟩ ∧ Row16 wr g l ∧ Bl w wr) (fun _ i _ => 16 - (intOf i).toNat)
  case atStart => exact ⟨0, by omega, rfl, by simp [hxs], zR, hbl⟩
  case round =>
    clear zR hbl
    obtain ⟨k, hk, rfl, rfl, hrow, hbl⟩ := hrel
    by_cases hlt : k < 16
    · obtain ⟨b, hb⟩ : ∃ b, l[k]'(by have := HL.out; omega) = b := ⟨_, rfl⟩
      have hcell : wr.cell? ⟨g, k, none⟩ = some (.int .u8 (b.toNat : Int)) := by rw [hrow.cell k (by have := HL.out; omega), hb]
      have hlt' : (k : Int) < 16 := by omega
      have hk0 : (0 : Int) ≤ (k : Int) := by omega
      have b0' : (0 : Int) ≤ (b.toNat : Int) := by omega
      have b1' : (b.toNat : Int) ≤ 255 := by have := b.toNat_lt; omega
      have HB := Lib.hid hb; clear hb
      have HR := Lib.hid hrow; have HW := Lib.hid hbl; clear hrow hbl
      go_wp2_with fail
      obtain ⟨q, hq⟩ : ∃ q : Nat, b.toNat / 16 = q := ⟨_, rfl⟩
      obtain ⟨r, hr⟩ : ∃ r : Nat, b.toNat % 16 = r := ⟨_, rfl⟩
      have hq0 : (0 : Int) ≤ (q : Int) := by omega
      have hq1 : (q : Int) + 1 ≤ 16 := by omega
      have hr0 : (0 : Int) ≤ (r : Int) := by omega
      have hr1 : (r : Int) + 1 ≤ 16 := by omega
      have hqt : ((q : Int) + 1).toNat = q + 1 := by omega
      have hrt : ((r : Int) + 1).toNat = r + 1 := by omega
      have e1 : IntKind.u8.wrap ((b.toNat : Int) / 16) = (q : Int) := by rw [IntKind.wrap_u8]; omega
      have e2 : IntKind.u8.wrap ((q : Int) + 1) = (q : Int) + 1 := by rw [IntKind.wrap_u8]; omega
      have e3 : (b.toNat : Int).tmod 16 = (r : Int) := by rw [Int.tmod_eq_emod_of_nonneg (by omega)]; omega
      have e4 : IntKind.u8.wrap (r : Int) = (r : Int) := by rw [IntKind.wrap_u8]; omega
      have e5 : IntKind.u8.wrap ((r : Int) + 1) = (r : Int) + 1 := by rw [IntKind.wrap_u8]; omega
      have c1 := dig_cut q (by omega)
      have c2 := dig_cut r (by omega)
      obtain ⟨S, hS⟩ : ∃ S : ByteArray, (⟨(hxs (l.take k)).toArray⟩ : ByteArray) = S := ⟨_, rfl⟩
      obtain ⟨S1, hS1⟩ : ∃ S1 : ByteArray, S ++ ⟨#[hd q]⟩ = S1 := ⟨_, rfl⟩
      obtain ⟨S2, hS2⟩ : ∃ S2 : ByteArray, S1 ++ ⟨#[hd r]⟩ = S2 := ⟨_, rfl⟩
      have hz : S.size = 2 * k := by
        rw [← hS]; show (hxs (l.take k)).toArray.size = 2 * k
        rw [List.size_toArray, hxs_length, List.length_take, HL.out]; omega
      have hz1 : S1.size = 2 * k + 1 := by rw [← hS1, ByteArray.size_append, hz]; rfl
      have hS3 : S2 = ⟨(hxs (l.take (k + 1))).toArray⟩ := by
        have e2 : hxs (l.take (k + 1)) = hxs (l.take k) ++ hx b := by
          rw [List.take_succ_eq_append_getElem (by have := HL.out; omega), hxs_snoc, HB.out]
        rw [← hS2, ← hS1, ← hS, e2]
        apply ByteArray.ext
        simp [hx, hq, hr]
      have c3 : ∀ W : World, (Op.stringOp .add S ⟨#[hd q]⟩).run Tryd.prog W = .ok (.string S1) W := fun W => by
        rw [run_string_add_sum W _ _ (by rw [hz]; show 2 * k + 1 ≤ _; omega), hS1]
      have c4 : ∀ W : World, (Op.stringOp .add S1 ⟨#[hd r]⟩).run Tryd.prog W = .ok (.string S2) W := fun W => by
        rw [run_string_add_sum W _ _ (by rw [hz1]; show 2 * k + 1 + 1 ≤ _; omega), hS2]
      rw [hS]
      have HS3 := Lib.hid hS3
      clear hS hS1 hS2 hS3 hz hz1
      have HQ := Lib.hid hq; have HRR := Lib.hid hr
      clear hq hr
      go_quiet (fail)
      go_wp2_with fail
      go_roundw
      case rel => exact ⟨k + 1, by omega, by go_num, by rw [HS3.out], HR.out.keep (Bl.drewN (Bl.refl _) _) (by have := HL.out; omega), HW.out.drewN _⟩
      case measure => simp [intOf]; omega
    · obtain rfl : k = 16 := by omega
      rw [List.take_of_length_le (by have := HL.out; omega)]
      go_wp2_with fail
      go_ret
      exact ⟨rfl, hbl⟩
end Go.Proofs.YtajadhbbnahnjaaDoor
