/- Contracts of grids: products of sizes, indices of numbers. -/
import Derived.Test.YtjinpngojdefiaaGrU
namespace Go.Proofs.Ytjinpngojdefiaa
open Go.RowKit
set_option maxRecDepth 20000
set_option maxHeartbeats 1600000

/-- What valid sizes are. -/
def Sz (s : List Nat) : Prop := s.length ≤ 4 ∧ ∀ n ∈ s, 2 ≤ n ∧ n ≤ 9
theorem Sz.at {s : List Nat} (h : Sz s) (k : Nat) (hk : k < s.length) : 2 ≤ s[k] ∧ s[k] ≤ 9 := h.2 _ (List.getElem_mem hk)
theorem Sz.take {s : List Nat} (h : Sz s) (k : Nat) : Gr.prod (s.take k) ≤ 6561 := by
  have h1 : Gr.prod (s.take k) ≤ 9 ^ (s.take k).length := Gr.prod_le fun n hn => (h.2 n (List.mem_of_mem_take hn)).2
  have h2 : (s.take k).length ≤ 4 := by have := h.1; simp; omega
  have h3 : 9 ^ (s.take k).length ≤ 9 ^ 4 := Nat.pow_le_pow_right (by omega) h2
  omega
theorem Sz.step {s : List Nat} (k : Nat) (hk : k < s.length) : Gr.prod (s.take (k + 1)) = Gr.prod (s.take k) * s[k] := by
  rw [List.take_succ_eq_append_getElem hk, Gr.prod_snoc]

theorem points_ok (A : Option Addr) (c : Nat) (s : List Nat) (w : World) (hs : Sz s) (h : Ls w .i64 A (ofN s)) :
    Calls Try.prog 49 #[.slice A s.length c] w fun e w' => e = .returned (.int .i64 ((Gr.prod s : Nat) : Int)) ∧ w' = w := by
  have HS := Lib.hid hs
  obtain ⟨n, hn⟩ : ∃ n, s.length = n := ⟨_, rfl⟩
  have hn4 : (n : Int) ≤ 4 := by have := hs.1; omega
  have HN := Lib.hid hn
  rw [hn]
  clear hn hs
  go_enter Try.func49, Try.ntmps49
  go_wp2_with fail
  go_loop [3, 4] (fun p i => ∃ k : Nat, k ≤ n ∧ i = .int .i64 (k : Int) ∧ p = .int .i64 ((Gr.prod (s.take k) : Nat) : Int)) (fun _ i => n - (intOf i).toNat)
  case atStart => exact ⟨0, by omega, rfl, by simp [Gr.prod]⟩
  case round =>
    obtain ⟨k, hk, rfl, rfl⟩ := hrel
    by_cases hlt : k < n
    · have hlt' : (k : Int) < (n : Int) := by omega
      have hks : k < s.length := by rw [HN.out]; exact hlt
      obtain ⟨b, o, rfl⟩ := h.addr k (by rw [ofN_len]; exact hks)
      have c1 := h.atN k hks
      have hx := HS.out.at k hks
      have hp := HS.out.take k
      have hq := HS.out.take (k + 1)
      have hst := Sz.step k hks
      obtain ⟨x, ex⟩ : ∃ x, s[k] = x := ⟨_, rfl⟩
      obtain ⟨p, ep⟩ : ∃ p, Gr.prod (s.take k) = p := ⟨_, rfl⟩
      rw [ex] at c1 hx hst
      rw [ep] at hp hst ⊢
      rw [hst] at hq
      have HST := Lib.hid hst
      have m1 : 0 ≤ (p : Int) * (x : Int) := by rw [← Int.natCast_mul]; omega
      have m2 : (p : Int) * (x : Int) ≤ 6561 := by rw [← Int.natCast_mul]; omega
      have H := Lib.hid h
      clear ex ep hst h
      go_wp2_with fail
      go_round
      case rel => exact ⟨k + 1, by omega, by go_num, by rw [HST.out]; simp⟩
      case measure => simp [intOf]; omega
    · obtain rfl : k = n := by omega
      rw [List.take_of_length_le (by rw [HN.out]; exact Nat.le_refl _)]
      go_wp2_with fail
      go_ret
      exact ⟨rfl, rfl⟩
theorem product_ok (q : Nat) (A : Option Addr) (c : Nat) (s : List Nat) (w : World) (hq4 : q ≤ 4) (hs : Sz s) (h : Ls w .i64 A (ofN s)) :
    Calls Try.prog 38 #[.int .i64 (q : Int), .slice A s.length c] w fun e w' => e = .returned (.int .i64 ((q * Gr.prod s : Nat) : Int)) ∧ w' = w := by
  have HS := Lib.hid hs
  obtain ⟨n, hn⟩ : ∃ n, s.length = n := ⟨_, rfl⟩
  have hn4 : (n : Int) ≤ 4 := by have := hs.1; omega
  have HN := Lib.hid hn
  rw [hn]
  clear hn hs
  go_enter Try.func38, Try.ntmps38
  go_wp2_with fail
  go_loop [0, 9] (fun p i => ∃ k : Nat, k ≤ n ∧ i = .int .i64 (k : Int) ∧ p = .int .i64 ((q * Gr.prod (s.take k) : Nat) : Int)) (fun _ i => n - (intOf i).toNat)
  case atStart => exact ⟨0, by omega, rfl, by simp [Gr.prod]⟩
  case round =>
    obtain ⟨k, hk, rfl, rfl⟩ := hrel
    by_cases hlt : k < n
    · have hlt' : (k : Int) < (n : Int) := by omega
      have hks : k < s.length := by rw [HN.out]; exact hlt
      obtain ⟨b, o, rfl⟩ := h.addr k (by rw [ofN_len]; exact hks)
      have c1 := h.atN k hks
      have hx := HS.out.at k hks
      have hq1 : q * Gr.prod (s.take (k + 1)) ≤ 4 * 6561 := Nat.mul_le_mul hq4 (HS.out.take (k + 1))
      have hst := Sz.step k hks
      obtain ⟨x, ex⟩ : ∃ x, s[k] = x := ⟨_, rfl⟩
      obtain ⟨p, ep⟩ : ∃ p, q * Gr.prod (s.take k) = p := ⟨_, rfl⟩
      have hst' : q * Gr.prod (s.take (k + 1)) = p * x := by rw [hst, ex, ← Nat.mul_assoc, ep]
      rw [ex] at c1 hx
      rw [ep]
      rw [hst'] at hq1
      have HST := Lib.hid hst'
      have m1 : 0 ≤ (p : Int) * (x : Int) := by rw [← Int.natCast_mul]; omega
      have m2 : (p : Int) * (x : Int) ≤ 26244 := by rw [← Int.natCast_mul]; omega
      have H := Lib.hid h
      clear ex ep hst hst' h hq1
      go_wp2_with fail
      go_round
      case rel => exact ⟨k + 1, by omega, by go_num, by rw [HST.out]; simp⟩
      case measure => simp [intOf]; omega
    · obtain rfl : k = n := by omega
      rw [List.take_of_length_le (by rw [HN.out]; exact Nat.le_refl _)]
      go_wp2_with fail
      go_ret
      exact ⟨rfl, rfl⟩
end Go.Proofs.Ytjinpngojdefiaa
