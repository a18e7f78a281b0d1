/- Contract of digest.Hex. -/
import Derived.Test.YtajadhbbnahnjaaDoorHxA
import Derived.LoopTactic
import Derived.Deep.RegionHeld3
import Derived.Deep.AppendLies
import Derived.Deep.DeepCutAuto
import Derived.IntWalk
namespace Go.Proofs.YtajadhbbnahnjaaDoor
open Go.RowKit
set_option maxRecDepth 100000
set_option maxHeartbeats 3200000

/-- Octets as values. -/
abbrev u8s (l : List UInt8) : List Value := l.map fun b => .int .u8 (b.toNat : Int)
theorem u8s_append (a b : List UInt8) : u8s (a ++ b) = u8s a ++ u8s b := List.map_append
theorem u8_index (l : List UInt8) (hl : l.length = 16) (k : Nat) (hk : k < 16) (W : World) : (Instr.index 22 (.agg ⟨u8s l⟩) (.int .i64 (k : Int))).run Tryd.prog W = .ok (.int .u8 ((l[k]'(by omega)).toNat : Int)) W :=
  index_arr Tryd.underlying22 (by kernel_rfl) (Option.isSome_iff_exists.1 (by kernel_rfl)) (by kernel_rfl) _ k hk _ (by simp [u8s, List.getElem?_eq_getElem (show k < l.length by omega)]) W

theorem own_ge {w : World} {base : Nat} {e : TypeId} {size : Nat} {v : Value} {n : Nat} {xs : List Value} (h : w.ownsRow base e size v n xs) : ∀ k, v.ownBlock = some k → base ≤ k := fun k hk => by
  obtain ⟨_, ⟨rfl, _⟩ | ⟨g, cap, cur, rfl, hg, _⟩⟩ := h
  · cases hk
  · cases hk; exact hg
theorem hex_x (b0 b1 b2 b3 b4 b5 b6 b7 b8 b9 b10 b11 b12 b13 b14 b15 : UInt8) (w : World) :
    Calls Tryd.prog 9 #[.agg #[.int .u8 (b0.toNat : Int), .int .u8 (b1.toNat : Int), .int .u8 (b2.toNat : Int), .int .u8 (b3.toNat : Int), .int .u8 (b4.toNat : Int), .int .u8 (b5.toNat : Int), .int .u8 (b6.toNat : Int), .int .u8 (b7.toNat : Int), .int .u8 (b8.toNat : Int), .int .u8 (b9.toNat : Int), .int .u8 (b10.toNat : Int), .int .u8 (b11.toNat : Int), .int .u8 (b12.toNat : Int), .int .u8 (b13.toNat : Int), .int .u8 (b14.toNat : Int), .int .u8 (b15.toNat : Int)]] w fun e w' => e = .returned (.string ⟨(hxs [b0, b1, b2, b3, b4, b5, b6, b7, b8, b9, b10, b11, b12, b13, b14, b15]).toArray⟩) ∧ Bl w w' := by
  obtain ⟨i0, hi, hz0, hz1, hz2⟩ := info_parts info5
  obtain ⟨l, hl⟩ : ∃ l : List UInt8, l = [b0, b1, b2, b3, b4, b5, b6, b7, b8, b9, b10, b11, b12, b13, b14, b15] := ⟨_, rfl⟩
  have hll : l.length = 16 := by rw [hl]; rfl
  have hix : ∀ (k : Nat) (hk : k < 16) (W : World), (Instr.index 22 (.agg #[.int .u8 (b0.toNat : Int), .int .u8 (b1.toNat : Int), .int .u8 (b2.toNat : Int), .int .u8 (b3.toNat : Int), .int .u8 (b4.toNat : Int), .int .u8 (b5.toNat : Int), .int .u8 (b6.toNat : Int), .int .u8 (b7.toNat : Int), .int .u8 (b8.toNat : Int), .int .u8 (b9.toNat : Int), .int .u8 (b10.toNat : Int), .int .u8 (b11.toNat : Int), .int .u8 (b12.toNat : Int), .int .u8 (b13.toNat : Int), .int .u8 (b14.toNat : Int), .int .u8 (b15.toNat : Int)]) (.int .i64 (k : Int))).run Tryd.prog W = .ok (.int .u8 ((l[k]'(by omega)).toNat : Int)) W := fun k hk W => by
    subst hl
    exact u8_index _ hll k hk W
  have hmk : ∀ W : World, (Instr.makeSlice 25 (.int .i64 0) (.int .i64 32)).run Tryd.prog W = .ok (.slice (some ⟨W.heap.size, 0, none⟩) 0 32) (W.alloc (.cells (madeCells #[Value.int .u8 0] 32) 5)) := fun W => by
    have := run_make (P := Tryd.prog) W 25 5 i0 (.int .u8 0) Tryd.underlying25 hi hz0 .i64 .i64 0 32 (by omega) (by omega) (by rw [hz2]; omega) (by omega)
    rw [hz1, show (Value.int .u8 0).cells = #[.int .u8 0] from rfl] at this
    simpa using this
  rw [← hl]
  have HL := Lib.hid hl; clear hl
  have HIX := Lib.hid hix; clear hix
  go_enter Tryd.func9, Tryd.ntmps9
  go_wp2_with fail
  have hown : ((w.alloc (.cells #[.int .u8 (b0.toNat : Int), .int .u8 (b1.toNat : Int), .int .u8 (b2.toNat : Int), .int .u8 (b3.toNat : Int), .int .u8 (b4.toNat : Int), .int .u8 (b5.toNat : Int), .int .u8 (b6.toNat : Int), .int .u8 (b7.toNat : Int), .int .u8 (b8.toNat : Int), .int .u8 (b9.toNat : Int), .int .u8 (b10.toNat : Int), .int .u8 (b11.toNat : Int), .int .u8 (b12.toNat : Int), .int .u8 (b13.toNat : Int), .int .u8 (b14.toNat : Int), .int .u8 (b15.toNat : Int)] 22)).alloc (.cells (madeCells #[Value.int .u8 0] 32) 5)).ownsRow w.heap.size 5 1 (.slice (some ⟨w.heap.size + 1, 0, none⟩) 0 32) 0 [] := by
    obtain ⟨w', h1, h2, _⟩ := run_make_own (P := Tryd.prog) (w.alloc (.cells #[.int .u8 (b0.toNat : Int), .int .u8 (b1.toNat : Int), .int .u8 (b2.toNat : Int), .int .u8 (b3.toNat : Int), .int .u8 (b4.toNat : Int), .int .u8 (b5.toNat : Int), .int .u8 (b6.toNat : Int), .int .u8 (b7.toNat : Int), .int .u8 (b8.toNat : Int), .int .u8 (b9.toNat : Int), .int .u8 (b10.toNat : Int), .int .u8 (b11.toNat : Int), .int .u8 (b12.toNat : Int), .int .u8 (b13.toNat : Int), .int .u8 (b14.toNat : Int), .int .u8 (b15.toNat : Int)] 22)) w.heap.size 25 5 i0 (.int .u8 0) 1 Tryd.underlying25 hi hz0 hz1 .i64 .i64 32 (by rw [hz2]; omega) (by decide) (by simp)
    rw [show ((32 : Nat) : Int) = 32 from rfl, hmk] at h1
    injection h1 with h3 h4
    rw [← h4, World.size_alloc] at h2
    exact h2
  have hbl : Bl w ((w.alloc (.cells #[.int .u8 (b0.toNat : Int), .int .u8 (b1.toNat : Int), .int .u8 (b2.toNat : Int), .int .u8 (b3.toNat : Int), .int .u8 (b4.toNat : Int), .int .u8 (b5.toNat : Int), .int .u8 (b6.toNat : Int), .int .u8 (b7.toNat : Int), .int .u8 (b8.toNat : Int), .int .u8 (b9.toNat : Int), .int .u8 (b10.toNat : Int), .int .u8 (b11.toNat : Int), .int .u8 (b12.toNat : Int), .int .u8 (b13.toNat : Int), .int .u8 (b14.toNat : Int), .int .u8 (b15.toNat : Int)] 22)).alloc (.cells (madeCells #[Value.int .u8 0] 32) 5)) := (Bl.new w _).trans (Bl.new _ _)
  go_loopw [3, 8] (fun v i wr => ∃ k : Nat, k ≤ 16 ∧ i = .int .i64 k ∧ wr.ownsRow w.heap.size 5 1 v (2 * k) (u8s (hxs (l.take k))) ∧ Bl w wr) (fun _ i _ => 16 - (intOf i).toNat)
  case atStart => exact ⟨0, by omega, rfl, by simpa [hxs] using hown, hbl⟩
  case round =>
    clear hown hbl
    obtain ⟨k, hk, rfl, hown, hbl⟩ := hrel
    by_cases hlt : k < 16
    · have hik := HIX.out k hlt
      obtain ⟨b, hb⟩ : ∃ b, l[k]'(by omega) = b := ⟨_, rfl⟩
      rw [hb] at hik
      have HB := Lib.hid hb; clear hb
      have d1 : ∀ W : World, (Instr.index 9 (.string digs) (.int .u8 ((b.toNat : Int) / 16))).run Tryd.prog W = .ok (.int .u8 ((hd (b.toNat / 16)).toNat : Int)) W := dig_ix (b.toNat / 16) (by have := b.toNat_lt; omega)
      have b0' : (0 : Int) ≤ (b.toNat : Int) := by omega
      have b1' : (b.toNat : Int) ≤ 255 := by have := b.toNat_lt; omega
      have d2 : ∀ W : World, (Instr.index 9 (.string digs) (.int .u8 ((b.toNat : Int) % 16))).run Tryd.prog W = .ok (.int .u8 ((hd (b.toNat % 16)).toNat : Int)) W := dig_ix (b.toNat % 16) (by omega)
      have hlt' : (k : Int) < 16 := by omega
      have hand := and15 b
      go_wp2_with fail
      have hsz : w.heap.size ≤ wr.heap.size := hbl.size
      go_region_held3 (fun w' => Bl w w')
        ((first | assumption | exact Bl.drew (by assumption) | exact Bl.trans (by assumption) (Bl.new _ _) | exact Below.grown (by assumption) hgrow (by simp; omega) (own_ge hown)))
        ((refine step_append_lies _ (by rfl) _ _ _ (by rfl) w.heap.size 5 i0 _ 1 1 Tryd.underlying25 hi hz0 hz1 hz2 rfl (by omega) _ (2 * k) (u8s (hxs (l.take k))) (by rfl) ((hown.alloc _).drew) ⟨wr.heap.size, 0, none⟩ 2 2 (u8s (hx b)) (by rfl) (by rfl) (World.news_of_block (cs := ⟨u8s (hx b)⟩) (t := 5) (fr := (0, 0)) (heap_alloc_new wr _)) (by simp [Value.oneCell', u8s, hx]) (by omega) (by unfold maxLen; omega) (by omega) (by simp; omega) (wr.heap.size + 1) (by simp) ?_; intro gg cap w1 hown1 hgrow hat hlt2))
      all_goals
        have e2 : hxs (l.take (k + 1)) = hxs (l.take k) ++ hx b := by
          rw [List.take_succ_eq_append_getElem (by omega), hxs_snoc, HB.out]
        have h2 : w1.ownsRow w.heap.size 5 1 (.slice (some ⟨gg, 0, none⟩) (2 * k + 2) cap) (2 * (k + 1)) (u8s (hxs (l.take (k + 1)))) := by
          rw [e2, u8s_append]
          exact hown1
        have h3 : Bl w w1 := by assumption
        have H2 := Lib.hid h2; have H3 := Lib.hid h3
        clear h2 h3 e2 hown hown1 hgrow hbl hat
        go_wp2_with fail
        go_roundw
        case rel => exact ⟨k + 1, by omega, by go_num, H2.out, H3.out⟩
        case measure => simp [intOf]; omega
    · obtain rfl : k = 16 := by omega
      rw [List.take_of_length_le (by omega)] at hown
      have hlen : (hxs l).length = 32 := by rw [hxs_length, hll]
      obtain ⟨_, ⟨_, h0⟩ | ⟨g, cap, cur, rfl, hg, hh, hn, hc, hs, ht⟩⟩ := hown
      · omega
      · have hcell : ∀ j (hj : j < (hxs l).length), wr.cell? ((⟨g, 0, none⟩ : Addr).add j) = some (.int .u8 (((hxs l)[j]'hj).toNat : Int)) := fun j hj => by
          have hadd : (⟨g, 0, none⟩ : Addr).add j = ⟨g, j, none⟩ := by unfold Addr.add; split <;> simp_all
          rw [hadd, cell_of_row wr g j cur 5 (0, 0) hh]
          have e1 : cur.toList[j]? = (u8s (hxs l))[j]? := by rw [← ht, List.getElem?_take_of_lt (by omega)]
          rw [← Array.getElem?_toList, e1]
          simp [u8s, List.getElem?_eq_getElem hj]
        have hconv := run_convert_bytes_back (P := Tryd.prog) wr 25 9 5 ⟨g, 0, none⟩ cap (hxs l) Tryd.underlying25 Tryd.underlying5 Tryd.underlying9 hcell
        rw [hlen] at hconv
        have HT := Lib.hid ht; clear ht hcell hs hh
        go_wp2_with fail
        go_ret
        rw [HL.out]
        exact ⟨rfl, hbl⟩
end Go.Proofs.YtajadhbbnahnjaaDoor
