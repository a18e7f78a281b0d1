/- Contracts of the reference's digit and Hex. -/
import Derived.Test.YtajadhbbnahnjaaDoorHxF
namespace Go.Proofs.YtajadhbbnahnjaaDoor
open Go.RowKit
set_option maxRecDepth 100000
set_option maxHeartbeats 6400000

theorem un_num : ∀ n : Nat, n < 256 → un (UInt8.ofNat n) = if 48 ≤ n ∧ n ≤ 57 then (n : Int) - 48 else if 97 ≤ n ∧ n ≤ 102 then (n : Int) - 97 + 10 else -1 := by decide +kernel
theorem ref_digit (b : UInt8) (w : World) : Calls Tryd.prog 17 #[.int .u8 (b.toNat : Int)] w fun e w' => e = .returned (.int .i64 (un b)) ∧ w' = w := by
  have hu := un_num b.toNat b.toNat_lt
  rw [UInt8.ofNat_toNat] at hu
  have hb := b.toNat_lt
  generalize un b = u at hu ⊢
  generalize b.toNat = n at hu hb ⊢
  have h0 : (0 : Int) ≤ (n : Int) := by omega
  have h1 : (n : Int) ≤ 255 := by omega
  rcases (by omega : (n : Int) < 48 ∨ (48 ≤ (n : Int) ∧ (n : Int) ≤ 57) ∨ (57 < (n : Int) ∧ (n : Int) < 97) ∨ (97 ≤ (n : Int) ∧ (n : Int) ≤ 102) ∨ 102 < (n : Int)) with h | ⟨h, h'⟩ | ⟨h, h'⟩ | ⟨h, h'⟩ | h
  · obtain rfl : u = -1 := by rw [hu, if_neg (by omega), if_neg (by omega)]
    clear hu
    go_enter Tryd.func17, Tryd.ntmps17
    go_wp2_with fail
    go_ret
    exact ⟨rfl, rfl⟩
  · obtain rfl : u = (n : Int) - 48 := by rw [hu, if_pos (by omega)]
    clear hu
    go_enter Tryd.func17, Tryd.ntmps17
    go_wp2_with fail
    go_ret
    exact ⟨rfl, rfl⟩
  · obtain rfl : u = -1 := by rw [hu, if_neg (by omega), if_neg (by omega)]
    clear hu
    have h2 : (48 : Int) ≤ n := by omega
    go_enter Tryd.func17, Tryd.ntmps17
    go_wp2_with fail
    go_ret
    exact ⟨rfl, rfl⟩
  · obtain rfl : u = (n : Int) - 97 + 10 := by rw [hu, if_neg (by omega), if_pos (by omega)]
    clear hu
    have h2 : (48 : Int) ≤ n := by omega
    have h3 : ¬ (n : Int) ≤ 57 := by omega
    go_enter Tryd.func17, Tryd.ntmps17
    go_wp2_with fail
    go_ret
    exact ⟨rfl, rfl⟩
  · obtain rfl : u = -1 := by rw [hu, if_neg (by omega), if_neg (by omega)]
    clear hu
    have h2 : (48 : Int) ≤ n := by omega
    have h3 : ¬ (n : Int) ≤ 57 := by omega
    go_enter Tryd.func17, Tryd.ntmps17
    go_wp2_with fail
    go_ret
    exact ⟨rfl, rfl⟩
end Go.Proofs.YtajadhbbnahnjaaDoor
