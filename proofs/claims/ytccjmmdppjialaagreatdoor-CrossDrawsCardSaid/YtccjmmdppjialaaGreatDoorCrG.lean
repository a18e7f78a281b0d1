/- CrossGoes: for every input the law returns true and leaves what was there as it was. -/
import Derived.Test.YtccjmmdppjialaaGreatDoorCrA
namespace Go.Proofs.YtccjmmdppjialaaGreatDoor
open Go.RowKit
set_option maxRecDepth 20000
set_option maxHeartbeats 1600000

/-- A number as a seed. -/
def sd (n : Int) : Int := 1 + n % 18446744073709551616 % 2147483646
theorem sd_range (n : Int) : 1 ≤ sd n ∧ sd n ≤ 2147483646 := by unfold sd; omega
theorem seeded_ok (n : Int) (w : World) : Calls Tryz.prog 7 #[.int .i64 n] w fun e w' => e = .returned (.int .i64 (sd n)) ∧ w = w' := by
  go_enter Tryz.func7, Tryz.ntmps7
  go_wp2_with fail
  go_ret
  have e : wrap64 (1 + wrap64 ((IntKind.u64.wrap n).tmod 2147483646)) = sd n := by
    rw [IntKind.wrap_u64, Int.tmod_eq_emod_of_nonneg (by omega), IntWalk.wrap64_in (n % 18446744073709551616 % 2147483646) (by omega), IntWalk.wrap64_in _ (by omega)]
    rfl
  exact ⟨by rw [← e]; rfl, rfl⟩
theorem goes_walk (seed n : Int) (w : World) (hn0 : 0 ≤ n) (hn1 : n ≤ 4294967295)
    (hw : ∀ v : World, Bl w v → Calls Tryz.prog 6 #[] v fun e w' => e = .returned (.bool true) ∧ Bl v w') :
    Calls Tryz.prog 5 #[.int .i64 seed, .int .u32 n] w fun e w' => e = .returned (.bool true) ∧ Bl w w' := by
  obtain ⟨h1, h2⟩ := sd_range seed
  obtain ⟨s, hs⟩ : ∃ s, sd seed = s := ⟨_, rfl⟩
  have S := fun w => seeded_ok seed w
  rw [hs] at h1 h2 S
  clear hs
  obtain ⟨x0, x1, x2⟩ := nx_range h1 h2
  obtain ⟨m, hm⟩ : ∃ m, 1 + n % 1000000 = m := ⟨_, rfl⟩
  have m1 : 1 ≤ m := by omega
  have m2 : m ≤ 1000000 := by omega
  have N := fun w => next_yes s w h1 h2
  have D := fun w => drawf_yes s m w h1 h2 m1 m2
  obtain ⟨x, hx⟩ : ∃ x, nx s = x := ⟨_, rfl⟩
  rw [hx] at x0 x1 x2 N D
  obtain ⟨v, hv⟩ : ∃ v, x % m = v := ⟨_, rfl⟩
  have v0 : 0 ≤ v := by rw [← hv]; exact Int.emod_nonneg _ (by omega)
  have v1 : v < m := by rw [← hv]; exact Int.emod_lt_of_pos _ (by omega)
  have v2 : (x - v) % m = 0 := by rw [← hv]; exact Int.emod_eq_zero_of_dvd (Int.dvd_self_sub_emod)
  have v3 : v ≤ x := by
    have e := Int.mul_ediv_add_emod x m
    have h : 0 ≤ m * (x / m) := Int.mul_nonneg (by omega) (Int.ediv_nonneg (by omega) (by omega))
    omega
  rw [hv] at D
  have HW := Lib.hid hw; clear hw hx hv
  go_enter Tryz.func5, Tryz.ntmps5
  go_wp2_with fail
  refine (HW.out _ (Bl.refl w)).mono ?_
  rintro e w1 ⟨rfl, hb1⟩
  go_wp2_with fail
  refine (S _).mono ?_
  rintro e w2 ⟨rfl, rfl⟩
  go_wp2_with fail
  refine (N _).mono ?_
  rintro e w2 ⟨rfl, hb⟩
  have hb2 := hb1.trans hb
  clear hb hb1
  go_wp2_with fail
  refine (D _).mono ?_
  rintro e w3 ⟨rfl, hb⟩
  have hb3 := hb2.trans hb
  clear hb hb2
  go_wp2_with fail
  go_ret
  exact ⟨by simp [*], hb3⟩
end Go.Proofs.YtccjmmdppjialaaGreatDoor
