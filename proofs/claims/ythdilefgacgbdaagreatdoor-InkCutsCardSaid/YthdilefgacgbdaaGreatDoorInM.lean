/- Plain arithmetic of cutting: three amounts scaled down to what is left beside black. -/
import Derived.RowKit
namespace Go.Proofs.YthdilefgacgbdaaGreatDoor
open Go.RowKit

/-- A scaled amount: rounded down; 0 where there is nothing. -/
def scl (s r x : Int) : Int := if s = 0 then 0 else x * r / s
/-- Black, cut. -/
def blk (a b c d m : Int) : Int := if a + b + c + d ≤ m then d else min d m
/-- One of the three, cut. -/
def ct (a b c d m x : Int) : Int := if a + b + c + d ≤ m then x else scl (a + b + c) (m - min d m) x

theorem scl_lo {s r x : Int} (hs : 0 ≤ s) (hr : 0 ≤ r) (hx : 0 ≤ x) : 0 ≤ scl s r x := by
  unfold scl
  split
  · omega
  · exact Int.ediv_nonneg (Int.mul_nonneg hx hr) hs
theorem scl_hi {s r x : Int} (hs : 0 ≤ s) (hr : r ≤ s) (hx : 0 ≤ x) : scl s r x ≤ x := by
  unfold scl
  split
  · omega
  · rename_i h
    apply Int.ediv_le_of_le_mul (by omega)
    exact Int.mul_le_mul_of_nonneg_left hr hx
theorem scl_mul_le {s r x : Int} (hs : 0 < s) : scl s r x * s ≤ x * r := by
  unfold scl
  rw [if_neg (by omega)]
  exact Int.ediv_mul_le _ (by omega)
theorem scl_lt_mul {s r x : Int} (hs : 0 < s) : x * r < (scl s r x + 1) * s := by
  unfold scl
  rw [if_neg (by omega)]
  have := Int.lt_ediv_add_one_mul_self (x * r) hs
  exact this
theorem scl_mono {s r x y : Int} (hs : 0 ≤ s) (hr : 0 ≤ r) (h : x ≤ y) : scl s r x ≤ scl s r y := by
  unfold scl
  split
  · omega
  · exact Int.ediv_le_ediv (by omega) (Int.mul_le_mul_of_nonneg_right h hr)
theorem scl_sum_le {s r a b c : Int} (hs : 0 < s) (h : a + b + c = s) : scl s r a + scl s r b + scl s r c ≤ r := by
  have h1 := scl_mul_le (r := r) (x := a) hs
  have h2 := scl_mul_le (r := r) (x := b) hs
  have h3 := scl_mul_le (r := r) (x := c) hs
  have e : (scl s r a + scl s r b + scl s r c) * s ≤ r * s := by
    rw [Int.add_mul, Int.add_mul]
    have : a * r + b * r + c * r = r * s := by rw [← Int.add_mul, ← Int.add_mul, h, Int.mul_comm]
    omega
  exact Int.le_of_mul_le_mul_right e hs
theorem scl_sum_ge {s r a b c : Int} (hs : 0 < s) (h : a + b + c = s) : r - 3 ≤ scl s r a + scl s r b + scl s r c := by
  have h1 := scl_lt_mul (r := r) (x := a) hs
  have h2 := scl_lt_mul (r := r) (x := b) hs
  have h3 := scl_lt_mul (r := r) (x := c) hs
  have e : r * s < (scl s r a + scl s r b + scl s r c + 3) * s := by
    have e1 : (scl s r a + scl s r b + scl s r c + 3) * s = (scl s r a + 1) * s + (scl s r b + 1) * s + (scl s r c + 1) * s := by
      rw [← Int.add_mul, ← Int.add_mul]; congr 1; omega
    have : a * r + b * r + c * r = r * s := by rw [← Int.add_mul, ← Int.add_mul, h, Int.mul_comm]
    omega
  have := Int.lt_of_mul_lt_mul_right e (by omega)
  omega

/-- Amounts from 0 to most. -/
def Am (x most : Int) : Prop := 0 ≤ x ∧ x ≤ most

section
variable {a b c d m : Int}
theorem rest_ok (ha : 0 ≤ a) (hb : 0 ≤ b) (hc : 0 ≤ c) (h : ¬ a + b + c + d ≤ m) : 0 ≤ m - min d m ∧ m - min d m ≤ a + b + c := by omega
theorem blk_ok (hd : 0 ≤ d) (hm : 0 ≤ m) : 0 ≤ blk a b c d m ∧ blk a b c d m ≤ d := by unfold blk; split <;> omega
theorem blk_m (ha : 0 ≤ a) (hb : 0 ≤ b) (hc : 0 ≤ c) : blk a b c d m ≤ m := by unfold blk; split <;> omega
theorem ct_ok {x : Int} (ha : 0 ≤ a) (hb : 0 ≤ b) (hc : 0 ≤ c) (hx : 0 ≤ x) : 0 ≤ ct a b c d m x ∧ ct a b c d m x ≤ x := by
  unfold ct
  split
  · omega
  · rename_i h
    obtain ⟨h1, h2⟩ := rest_ok ha hb hc h
    exact ⟨scl_lo (by omega) h1 hx, scl_hi (by omega) h2 hx⟩
theorem cut_le (ha : 0 ≤ a) (hb : 0 ≤ b) (hc : 0 ≤ c) : ct a b c d m a + ct a b c d m b + ct a b c d m c + blk a b c d m ≤ m := by
  unfold ct blk
  by_cases h : a + b + c + d ≤ m
  · simp only [if_pos h]; exact h
  · simp only [if_neg h]
    obtain ⟨h1, h2⟩ := rest_ok ha hb hc h
    by_cases hs : a + b + c = 0
    · simp only [scl, if_pos hs]; omega
    · have := scl_sum_le (s := a + b + c) (r := m - min d m) (a := a) (b := b) (c := c) (by omega) rfl
      omega
theorem cut_ge (ha : 0 ≤ a) (hb : 0 ≤ b) (hc : 0 ≤ c) (h : ¬ a + b + c + d ≤ m) (hs : a + b + c ≠ 0) : m - 3 ≤ ct a b c d m a + ct a b c d m b + ct a b c d m c + blk a b c d m := by
  unfold ct blk
  simp only [if_neg h]
  have := scl_sum_ge (s := a + b + c) (r := m - min d m) (a := a) (b := b) (c := c) (by omega) rfl
  omega
theorem ct_mono {x y : Int} (ha : 0 ≤ a) (hb : 0 ≤ b) (hc : 0 ≤ c) (h : x ≤ y) : ct a b c d m x ≤ ct a b c d m y := by
  unfold ct
  split
  · exact h
  · rename_i h'
    obtain ⟨h1, h2⟩ := rest_ok ha hb hc h'
    exact scl_mono (by omega) h1 h
end
end Go.Proofs.YthdilefgacgbdaaGreatDoor
