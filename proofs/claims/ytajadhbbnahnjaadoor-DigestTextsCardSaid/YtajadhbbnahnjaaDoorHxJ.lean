/- Contract of the reference's Unhex. -/
import Derived.Test.YtajadhbbnahnjaaDoorHxH
import Derived.Test.YtajadhbbnahnjaaDoorHxK
import Derived.BigQuiet
import Derived.Deep.QuietTactic
namespace Go.Proofs.YtajadhbbnahnjaaDoor
open Go.RowKit
set_option maxRecDepth 100000
set_option maxHeartbeats 400000

theorem refu_32 (t : ByteArray) (w : World) (hlen : t.size = 32) : Calls Tryd.prog 8 #[.string t] w (UnPost t w) := by
  have hl2 : ((t.size : Int) != 32) = false := by simp; omega
  have hl3 : (t.size : Int) = 32 := by omega
  have HL := Lib.hid hlen
  go_enter Tryd.func8, Tryd.ntmps8
  go_wp2_with fail
  have zR : Row16 ((w.alloc (.cells ⟨u8s (List.replicate 16 0)⟩ 22)).alloc (.cells ⟨u8s (List.replicate 16 0)⟩ 22)) w.heap.size (List.replicate 16 0) := (row_new w _ _).keep (Bl.new _ _) (by decide)
  have zO : Row16 ((w.alloc (.cells ⟨u8s (List.replicate 16 0)⟩ 22)).alloc (.cells ⟨u8s (List.replicate 16 0)⟩ 22)) (w.heap.size + 1) (List.replicate 16 0) := by
    have := row_new (w.alloc (.cells ⟨u8s (List.replicate 16 0)⟩ 22)) (List.replicate 16 0) 22
    rwa [World.size_alloc] at this
  have hbl : Bl w ((w.alloc (.cells ⟨u8s (List.replicate 16 0)⟩ 22)).alloc (.cells ⟨u8s (List.replicate 16 0)⟩ 22)) := (Bl.new w _).trans (Bl.new _ _)
  obtain ⟨gR, hgR⟩ : ∃ g, w.heap.size = g := ⟨_, rfl⟩
  have HGR := Lib.hid hgR
  rw [hgR] at zR zO ⊢
  clear hgR hlen
  go_loopw [5] (fun i wr => ∃ (k : Nat) (acc : List UInt8), k ≤ 16 ∧ i = .int .i64 k ∧ Read t.data.toList acc (2 * k) ∧ Row16 wr (gR + 1) acc ∧ Row16 wr gR (List.replicate 16 0) ∧ Bl w wr) (fun i _ => 16 - (intOf i).toNat)
  case atStart => exact ⟨0, List.replicate 16 0, by omega, rfl, Read.zero _, zO, zR, hbl⟩
  case round =>
    clear zR zO hbl
    obtain ⟨k, acc, hk, rfl, hread, hrow, hres, hbl⟩ := hrel
    by_cases hlt : k < 16
    · have hsz : t.data.toList.length = 32 := by rw [Array.length_toList]; exact HL.out
      obtain ⟨c0, hc0⟩ : ∃ c, t.data.toList[2 * k]? = some c := ⟨_, List.getElem?_eq_getElem (by omega)⟩
      obtain ⟨c1, hc1⟩ : ∃ c, t.data.toList[2 * k + 1]? = some c := ⟨_, List.getElem?_eq_getElem (by omega)⟩
      have hi0 : ∀ W : World, (Instr.index 9 (.string t) (.int .i64 (2 * (k : Int)))).run Tryd.prog W = .ok (.int .u8 (c0.toNat : Int)) W := fun W => by
        have := str_ix t (2 * k) c0 hc0 W
        rwa [show ((2 * k : Nat) : Int) = 2 * (k : Int) by omega] at this
      have hi1 : ∀ W : World, (Instr.index 9 (.string t) (.int .i64 (2 * (k : Int) + 1))).run Tryd.prog W = .ok (.int .u8 (c1.toNat : Int)) W := fun W => by
        have := str_ix t (2 * k + 1) c1 hc1 W
        rwa [show ((2 * k + 1 : Nat) : Int) = 2 * (k : Int) + 1 by omega] at this
      have HC0 := Lib.hid hc0; have HC1 := Lib.hid hc1; clear hc0 hc1 hsz
      have hu0 := un_is c0
      have hu1 := un_is c1
      have D0 : ∀ W : World, Calls Tryd.prog 17 #[.int .u8 (c0.toNat : Int)] W fun e w' => e = .returned (.int .i64 (un c0)) ∧ w' = W := fun W => ref_digit c0 W
      have D1 : ∀ W : World, Calls Tryd.prog 17 #[.int .u8 (c1.toNat : Int)] W fun e w' => e = .returned (.int .i64 (un c1)) ∧ w' = W := fun W => ref_digit c1 W
      have HU0 := Lib.hid hu0; have HU1 := Lib.hid hu1
      obtain ⟨n0, hn0⟩ : ∃ n : Int, (c0.toNat : Int) = n := ⟨_, rfl⟩
      obtain ⟨n1, hn1⟩ : ∃ n : Int, (c1.toNat : Int) = n := ⟨_, rfl⟩
      obtain ⟨u0, hv0⟩ : ∃ n : Int, un c0 = n := ⟨_, rfl⟩
      obtain ⟨u1, hv1⟩ : ∃ n : Int, un c1 = n := ⟨_, rfl⟩
      rw [hn0] at hi0 D0
      rw [hn1] at hi1 D1
      rw [hv0] at D0
      rw [hv1] at D1
      have HV0 := Lib.hid hv0; have HV1 := Lib.hid hv1
      clear hu0 hu1 hn0 hn1 hv0 hv1
      have hlt' : (k : Int) < 16 := by omega
      have hk0 : (0 : Int) ≤ (k : Int) := by omega
      have HREAD := Lib.hid hread; have HROW := Lib.hid hrow; have HRES := Lib.hid hres; have HBL := Lib.hid hbl
      clear hread hrow hres hbl
      go_upto_region 7 with fail
      have e0 : IntKind.i64.wrap (2 * (k : Int) + 1) = 2 * (k : Int) + 1 := IntWalk.i64_in _ (by omega)
      have e1 : IntKind.i64.wrap (2 * (k : Int)) = 2 * (k : Int) := IntWalk.i64_in _ (by clear e0; omega)
      go_quiet ((first
        | (go_at_call_of 17 (Value.int IntKind.u8 n0); exact Calls.quiet_of_same (D0 _))
        | (go_at_call_of 17 (Value.int IntKind.u8 n1); exact Calls.quiet_of_same (D1 _))))
      clear e0 e1
      go_upto_region 8 with fail
      have hw0 := HU0.out
      have hw1 := HU1.out
      rw [HV0.out] at hw0
      rw [HV1.out] at hw1
      rcases hw0 with rfl | ⟨⟨ha0, hb0⟩, hd0⟩
      · clear hw1
        have hnot : ∀ out : List UInt8, out.length = 16 → hxs out ≠ t.data.toList := fun out _ he => by
          have hm : c0 ∈ hxs out := by rw [he]; exact List.mem_of_getElem? HC0.out
          have := hxs_un _ hm
          rw [HV0.out] at this
          omega
        have HN := Lib.hid hnot; clear hnot
        obtain ⟨z, hz⟩ : ∃ z, List.replicate 16 (0 : UInt8) = z := ⟨_, rfl⟩
        have hzl : z.length = 16 := by rw [← hz]; rfl
        have hzz : (Value.agg #[.int .u8 0, .int .u8 0, .int .u8 0, .int .u8 0, .int .u8 0, .int .u8 0, .int .u8 0, .int .u8 0, .int .u8 0, .int .u8 0, .int .u8 0, .int .u8 0, .int .u8 0, .int .u8 0, .int .u8 0, .int .u8 0]) = .agg (u8s z).toArray := by rw [← hz]; exact congrArg Value.agg z16
        have R4 : Row16 (wr.drewN nq) gR (List.replicate 16 0) := HRES.out.keep (Bl.drewN (Bl.refl _) nq) (by decide)
        have T4 := R4.th rfl z hzl
        have GA := Lib.hid ((R4.stored rfl z hzl).rg hzl)
        have HB4 := Lib.hid ((HBL.out.drewN nq).stored (Nat.le_of_eq HGR.out) (u8s z))
        have HZ := Lib.hid hz; have HZZ := Lib.hid hzz
        clear R4 hz hzl hzz
        go_wp2_with ((with_reducible refine wpList_store_mid rfl 22 (.tmp 2) (.tmp 33) rfl gR 0 (u8s z).toArray ?hx2 ?hy2 T4.there T4.info T4.all ?_); (case hx2 => rfl); (case hy2 => exact HZZ.out))
        have hld := run_loadVar_mid (P := Tryd.prog) ((wr.drewN nq).setCells gR 0 (u8s z)) gR 0 22 (u8s z) _ GA.out.range Tryd.underlying22 rfl GA.out.info
        refine bodyPost_ret (v := .tuple #[.agg (u8s z).toArray, .int .i64 5]) (results_two Tryd.results8 rfl hld rfl) rfl (show UnPost _ _ _ _ from ⟨.inr ⟨HN.out, by rw [HZ.out]⟩, HB4.out⟩)
      rcases hw1 with rfl | ⟨⟨ha1, hb1⟩, hd1⟩
      · have hdec : decide (u0 < 0) = false := by simpa using ha0
        clear hd0
        have hnot : ∀ out : List UInt8, out.length = 16 → hxs out ≠ t.data.toList := fun out _ he => by
          have hm : c1 ∈ hxs out := by rw [he]; exact List.mem_of_getElem? HC1.out
          have := hxs_un _ hm
          rw [HV1.out] at this
          omega
        have HN := Lib.hid hnot; clear hnot
        obtain ⟨z, hz⟩ : ∃ z, List.replicate 16 (0 : UInt8) = z := ⟨_, rfl⟩
        have hzl : z.length = 16 := by rw [← hz]; rfl
        have hzz : (Value.agg #[.int .u8 0, .int .u8 0, .int .u8 0, .int .u8 0, .int .u8 0, .int .u8 0, .int .u8 0, .int .u8 0, .int .u8 0, .int .u8 0, .int .u8 0, .int .u8 0, .int .u8 0, .int .u8 0, .int .u8 0, .int .u8 0]) = .agg (u8s z).toArray := by rw [← hz]; exact congrArg Value.agg z16
        have R4 : Row16 (wr.drewN nq) gR (List.replicate 16 0) := HRES.out.keep (Bl.drewN (Bl.refl _) nq) (by decide)
        have T4 := R4.th rfl z hzl
        have GA := Lib.hid ((R4.stored rfl z hzl).rg hzl)
        have HB4 := Lib.hid ((HBL.out.drewN nq).stored (Nat.le_of_eq HGR.out) (u8s z))
        have HZ := Lib.hid hz; have HZZ := Lib.hid hzz
        clear R4 hz hzl hzz
        go_wp2_with ((with_reducible refine wpList_store_mid rfl 22 (.tmp 2) (.tmp 33) rfl gR 0 (u8s z).toArray ?hx2 ?hy2 T4.there T4.info T4.all ?_); (case hx2 => rfl); (case hy2 => exact HZZ.out))
        have hld := run_loadVar_mid (P := Tryd.prog) ((wr.drewN nq).setCells gR 0 (u8s z)) gR 0 22 (u8s z) _ GA.out.range Tryd.underlying22 rfl GA.out.info
        refine bodyPost_ret (v := .tuple #[.agg (u8s z).toArray, .int .i64 5]) (results_two Tryd.results8 rfl hld rfl) rfl (show UnPost _ _ _ _ from ⟨.inr ⟨HN.out, by rw [HZ.out]⟩, HB4.out⟩)
      have hdec : decide (u0 < 0) = false := by simpa using ha0
      have hdec1 : decide (u1 < 0) = false := by simpa using ha1
      have HD0 := Lib.hid hd0; have HD1 := Lib.hid hd1; clear hd0 hd1
      have hkl : k < acc.length := by have := HREAD.out.len; omega
      have hcell : (wr.drewN nq).cell? ⟨gR + 1, k, none⟩ = some (.int .u8 ((acc[k]'hkl).toNat : Int)) := HROW.out.cell k hkl
      have hfree : (wr.drewN nq).frozen? ⟨gR + 1, k, none⟩ = false := HROW.out.free k
      generalize ((acc[k]'hkl).toNat : Int) = old at hcell
      have HKL := Lib.hid hkl; clear hkl
      go_wp2_with fail
      go_roundw
      case rel =>
        obtain ⟨m0, rfl⟩ : ∃ n : Nat, u0 = n := ⟨u0.toNat, by omega⟩
        obtain ⟨m1, rfl⟩ : ∃ n : Nat, u1 = n := ⟨u1.toNat, by omega⟩
        obtain ⟨y, hy⟩ : ∃ y : UInt8, y.toNat = 16 * m0 + m1 := ⟨UInt8.ofNat (16 * m0 + m1), by rw [UInt8.toNat_ofNat']; omega⟩
        obtain ⟨d, hd'⟩ : ∃ d : UInt8, d.toNat = m0 := ⟨UInt8.ofNat m0, by rw [UInt8.toNat_ofNat']; omega⟩
        have hv : 16 * (m0 : Int) + (m1 : Int) = (y.toNat : Int) := by omega
        rw [hv]
        have hkl := HKL.out
        have hr1 := HREAD.out.even (d := d) (by omega) (by omega) HC0.out (by omega) (by rw [hd']; simpa using HD0.out)
        rw [show 2 * k / 2 = k by omega] at hr1
        have hr2 := hr1.odd (d0 := d) (x := y) (by omega) (by omega) HC1.out (by rw [show (2 * k + 1) / 2 = k by omega, List.getElem?_set_self hkl]) (by omega) (by rw [hy, show (16 * m0 + m1) % 16 = m1 by omega]; simpa using HD1.out)
        rw [show (2 * k + 1) / 2 = k by omega, List.set_set, show 2 * k + 1 + 1 = 2 * (k + 1) by omega] at hr2
        exact ⟨k + 1, acc.set k y, by omega, by go_num, hr2, (HROW.out.keep (Bl.drewN (Bl.refl _) nq) (by omega)).set k y hkl, (HRES.out.keep (Bl.drewN (Bl.refl _) nq) (by decide)).far _ _ _ (by omega), Below.setCell (HBL.out.drewN nq) (by rw [HGR.out]; show gR ≤ gR + 1; omega) _⟩
      case measure => simp [intOf]; omega
    · obtain rfl : k = 16 := by omega
      have hacc := hread.len
      have HLEN := Lib.hid hacc
      have hdone := hread.done (by rw [Array.length_toList]; exact HL.out)
      have HD := Lib.hid hdone; clear hdone hread
      have HB : Below w.heap.size w wr := hbl
      have HR := Lib.hid (hrow.rg hacc)
      have HT := hres.th rfl acc hacc
      have GA := Lib.hid ((hres.stored rfl acc hacc).rg hacc)
      clear hrow hres hbl hacc
      go_wp2_with (first
        | ((with_reducible refine wpList_load_mid rfl 22 (.tmp 4) rfl (gR + 1) 0 ?hx (u8s acc) _ HR.out.range Tryd.underlying22 ?hy HR.out.info ?_); (case hx => rfl); (case hy => rfl))
        | ((with_reducible refine wpList_store_mid rfl 22 (.tmp 2) (.tmp 41) rfl gR 0 (u8s acc).toArray ?hx2 ?hy2 HT.there HT.info HT.all ?_); (case hx2 => rfl); (case hy2 => rfl)))
      have hld := run_loadVar_mid (P := Tryd.prog) (wr.setCells gR 0 (u8s acc)) gR 0 22 (u8s acc) _ GA.out.range Tryd.underlying22 rfl GA.out.info
      refine bodyPost_ret (v := .tuple #[.agg ⟨u8s acc⟩, .int .i64 0]) (results_two Tryd.results8 rfl hld rfl) rfl (show UnPost _ _ _ _ from ⟨.inl ⟨_, HLEN.out, HD.out, rfl⟩, below_setCells (Nat.le_of_eq HGR.out) _ _ _ HB⟩)
theorem refu_any (t : ByteArray) (w : World) : Calls Tryd.prog 8 #[.string t] w (UnPost t w) := by
  by_cases h : t.size = 32
  · exact refu_32 t w h
  · exact refu_len t w h
end Go.Proofs.YtajadhbbnahnjaaDoor
