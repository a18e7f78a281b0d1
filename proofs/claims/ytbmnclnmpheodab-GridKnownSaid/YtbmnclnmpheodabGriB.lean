/- grid.Check over a grid of 4096 zeros answers 0: by a walk, as an entry of the table of known calls (too many rounds for the kernel). -/
import Derived.Test.YtbmnclnmpheodabGrid2
import Derived.Test.YtbmnclnmpheodabUt
import Derived.LoopN
import Derived.BigQuiet
import Derived.Handy
import Derived.Deep.MidRow
import Derived.Deep.QuietTactic
import Derived.Deep.RegionWith
namespace Go.Proofs.Ytbmnclnmpheodab
open Go.RowKit
set_option maxRecDepth 20000
set_option maxHeartbeats 3200000

theorem product_ok (b c : Nat) (w : World) (h : ∀ j, j < 4 → w.cell? ⟨b, j, none⟩ = some (.int .i64 8)) :
    Calls Try.prog 26 #[.int .i64 1, .slice (some ⟨b, 0, none⟩) 4 c] w fun e w' => e = .returned (.int .i64 4096) ∧ w' = w := by
  have h0 := h 0 (by omega); have h1 := h 1 (by omega); have h2 := h 2 (by omega); have h3 := h 3 (by omega)
  clear h
  go_enter Try.func26, Try.ntmps26
  go_wp2_with fail
  refine wp_loop_rounds 5 ?_
  rw [rounds_succ]; go_wp2_with fail
  rw [rounds_succ]; go_wp2_with fail
  rw [rounds_succ]; go_wp2_with fail
  rw [rounds_succ]; go_wp2_with fail
  rw [rounds_succ]; go_wp2_with fail
  go_ret
  exact ⟨rfl, rfl⟩
theorem check_big (b1 b2 c1 c2 : Nat) (w : World) (h1 : ∀ j, j < 4 → w.cell? ⟨b1, j, none⟩ = some (.int .i64 8)) (h2 : ∀ j, j < 4096 → w.cell? ⟨b2, j, none⟩ = some (.int .i64 0)) :
    Calls Try.prog 11 #[.agg #[.slice (some ⟨b1, 0, none⟩) 4 c1, .int .i64 1, .slice (some ⟨b2, 0, none⟩) 4096 c2]] w fun e w' => e = .returned (.int .i64 0) ∧ Bl w w' := by
  have H2 := Lib.hid h2; clear h2
  have P := fun w h => product_ok b1 c1 w h
  go_enter Try.func11, Try.ntmps11
  go_wp2_with fail
  have hb := Bl.new w (.cells #[.slice (some ⟨b1, 0, none⟩) 4 c1, .int .i64 1, .slice (some ⟨b2, 0, none⟩) 4096 c2] 26)
  have x0 := c_new w #[.slice (some ⟨b1, 0, none⟩) 4 c1, .int .i64 1, .slice (some ⟨b2, 0, none⟩) 4096 c2] 26 0
  have x1 := c_new w #[.slice (some ⟨b1, 0, none⟩) 4 c1, .int .i64 1, .slice (some ⟨b2, 0, none⟩) 4096 c2] 26 1
  have x2 := c_new w #[.slice (some ⟨b1, 0, none⟩) 4 c1, .int .i64 1, .slice (some ⟨b2, 0, none⟩) 4096 c2] 26 2
  have hc := fun j hj => hb.cell (h1 j hj)
  clear h1
  have h10 := hc 0 (by omega); have h11 := hc 1 (by omega); have h12 := hc 2 (by omega); have h13 := hc 3 (by omega)
  have HC := Lib.hid hc; clear hc
  simp only [List.getElem?_toArray, List.getElem?_cons_zero, List.getElem?_cons_succ] at x0 x1 x2
  generalize w.alloc (.cells #[.slice (some ⟨b1, 0, none⟩) 4 c1, .int .i64 1, .slice (some ⟨b2, 0, none⟩) 4096 c2] 26) = w0 at hb x0 x1 x2 h10 h11 h12 h13 HC ⊢
  refine wp_loop_rounds 5 ?_
  rw [rounds_succ]; go_wp2_with fail
  rw [rounds_succ]; go_wp2_with fail
  rw [rounds_succ]; go_wp2_with fail
  rw [rounds_succ]; go_wp2_with fail
  rw [rounds_succ]; go_wp2_with fail
  go_quiet ((go_at_call_of 26 (Value.int IntKind.i64 1); exact Calls.quiet_of_same (P _ (fun j hj => HC.out j hj))))
  have hbq := hb.drewN nq
  have x2q : (w0.drewN nq).cell? ⟨w.heap.size, 2, none⟩ = some (.slice (some ⟨b2, 0, none⟩) 4096 c2) := x2
  clear hb x0 x1 x2 h10 h11 h12 h13 HC P
  generalize w0.drewN nq = w1 at hbq x2q ⊢
  go_wp2_with fail
  go_loopw [6, 59] (fun _ iv wr => ∃ k : Nat, k ≤ 4096 ∧ iv = .int .i64 (k : Int) ∧ Bl w wr) (fun _ iv _ => 4096 - (intOf iv).toNat)
  case atStart => exact ⟨0, by omega, rfl, hbq⟩
  case round =>
    clear hbq x2q
    obtain ⟨k, hk, rfl, hb⟩ := hrel
    by_cases hlt : k < 4096
    · have hlt' : (k : Int) < 4096 := by omega
      have c := hb.cell (H2.out k hlt)
      go_wp2_with fail
      go_roundw
      case rel => exact ⟨k + 1, by omega, by go_num, hb⟩
      case measure => simp [intOf]; omega
    · obtain rfl : k = 4096 := by omega
      go_wp2_with fail
      go_ret
      exact ⟨rfl, hb⟩
namespace Ev
theorem big0 : KnownC Try.prog G0 Big0 := by
  intro r ys w hx hM
  obtain ⟨hlen, hat⟩ := hx
  obtain ⟨y, rfl⟩ : ∃ y, ys = [y] := by
    match ys, hlen with
    | [y], _ => exact ⟨y, rfl⟩
  have h0 : VR r (.agg #[.slice (some ⟨64000, 0, none⟩) 4 4, .int .i64 1, .slice (some ⟨64064, 0, none⟩) 4096 4096]) y := hat 0 _ _ rfl rfl
  obtain ⟨zs, rfl, hz⟩ := h0.of_agg
  obtain ⟨zs⟩ := zs
  obtain ⟨z0, z1, z2, rfl⟩ : ∃ z0 z1 z2, zs = [z0, z1, z2] := by
    have := hz.1
    match zs, this with
    | [a, b, c], _ => exact ⟨a, b, c, rfl⟩
  obtain ⟨_, g1, c1, hg1, _, _, rfl⟩ := (hz.2 0 _ _ rfl rfl).of_slice
  obtain rfl := (hz.2 1 _ _ rfl rfl).int
  obtain ⟨_, g2, c2, hg2, _, _, rfl⟩ := (hz.2 2 _ _ rfl rfl).of_slice
  have k1 : ∀ j, j < 4 → w.cell? ⟨g1.1, j, none⟩ = some (.int .i64 8) := fun j hj => by
    obtain ⟨g, t, cc, hg, hh, _, hc⟩ := hM.blk 64000 [I 8, I 8, I 8, I 8] (by kernel_rfl)
    have hg1' : r 64000 = some g1 := hg1
    rw [hg1'] at hg
    cases hg
    obtain ⟨v', hv, hr⟩ := hc j (I 8) (by rcases (show j = 0 ∨ j = 1 ∨ j = 2 ∨ j = 3 by omega) with rfl | rfl | rfl | rfl <;> rfl)
    rw [cell_of_row w g1.1 j cc t (0, 0) hh, hv, hr.int]
    rfl
  have k2 : ∀ j, j < 4096 → w.cell? ⟨g2.1, j, none⟩ = some (.int .i64 0) := fun j hj => by
    obtain ⟨g, t, cc, hg, hh, _, hc⟩ := hM.blk 64064 (List.replicate 4096 (I 0)) (by kernel_rfl)
    have hg2' : r 64064 = some g2 := hg2
    rw [hg2'] at hg
    cases hg
    obtain ⟨v', hv, hr⟩ := hc j (I 0) (by rw [List.getElem?_replicate, if_pos hj])
    rw [cell_of_row w g2.1 j cc t (0, 0) hh, hv, hr.int]
    rfl
  refine (check_big g1.1 g2.1 c1 c2 w k1 k2).mono fun e w' ⟨he, hb⟩ => ?_
  obtain ⟨m1, m2⟩ := same_rel hM hb
  exact ⟨_, r, he, .same 4 _ rfl, m1, m2⟩
end Ev
end Go.Proofs.Ytbmnclnmpheodab
