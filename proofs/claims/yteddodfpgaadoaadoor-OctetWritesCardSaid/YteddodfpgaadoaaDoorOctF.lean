/- Contracts of octet.PutText, Pad and Text. -/
import Derived.Test.YteddodfpgaadoaaDoorOctE
import Derived.Deep.QuietTactic
import Derived.BigQuiet
namespace Go.Proofs.YteddodfpgaadoaaDoor
open Go.RowKit

def zeros (k : Nat) : List UInt8 := List.replicate k 0
theorem zeros_len (k : Nat) : (zeros k).length = k := List.length_replicate
theorem repeat_zero (k : Nat) : Lib.repeatL [0] k = zeros k := by
  have := Lib.repeatL_replicate 0 1 k
  simpa [zeros] using this
theorem rep_zeros (k : Nat) (c : Int) (w : World) (hc : c = k) (h : k ≤ 65536) :
    Calls Tryd.prog 35 #[.string ⟨#[0]⟩, .int .i64 c] w fun e w' => e = .returned (.string ⟨(zeros k).toArray⟩) ∧ Below w.heap.size w w' := by
  subst hc
  have := Tryd.strings_Repeat ⟨#[0]⟩ k w (by omega) (by show 1 * k ≤ _; omega)
  rw [show Lib.repeatL (ByteArray.mk #[0]).data.toList k = zeros k from repeat_zero k] at this
  exact this

set_option maxHeartbeats 400000 in
theorem putText_ok (t : ByteArray) (n : Nat) (w : World) (hn : n ≤ 65536) (ht : textB t.data.toList = true) (hl : t.size ≤ n) :
    Calls Tryd.prog 16 #[.string t, .int .i64 n] w fun e w' => e = .returned (.tuple #[.string (t ++ ⟨(zeros (n - t.size)).toArray⟩), .int .i64 0]) ∧ Below w.heap.size w w' := by
  have h1 : ¬ (n : Int) < 0 := by omega
  have h2 : ¬ (65536 : Int) < n := by omega
  have h3 : ¬ (n : Int) < t.size := by omega
  go_enter Tryd.func16, Tryd.ntmps16
  go_wp2_with fail
  refine (isText_any t _).mono ?_
  rw [ht]
  rintro e w1 ⟨rfl, hb⟩
  clear ht
  go_wp2_with fail
  refine (rep_zeros (n - t.size) _ _ (by omega) (by omega)).mono ?_
  rintro e w2 ⟨rfl, hb2⟩
  have hz : (zeros (n - t.size)).length ≤ 65536 := by rw [zeros_len]; omega
  go_wp2_with fail
  go_ret2
  exact ⟨rfl, hb.trans (hb2.mono hb.size)⟩
set_option maxHeartbeats 400000 in
theorem putText_form (t : ByteArray) (n : Nat) (w : World) (hn : n ≤ 65536) (ht : textB t.data.toList = false) :
    Calls Tryd.prog 16 #[.string t, .int .i64 n] w fun e w' => e = .returned (.tuple #[.string ByteArray.empty, .int .i64 5]) ∧ Below w.heap.size w w' := by
  have h1 : ¬ (n : Int) < 0 := by omega
  have h2 : ¬ (65536 : Int) < n := by omega
  go_enter Tryd.func16, Tryd.ntmps16
  go_wp2_with fail
  refine (isText_any t _).mono ?_
  rw [ht]
  rintro e w1 ⟨rfl, hb⟩
  clear ht
  go_wp2_with fail
  go_ret2
  exact ⟨rfl, hb⟩
set_option maxHeartbeats 400000 in
theorem putText_long (t : ByteArray) (n : Nat) (w : World) (hn : n ≤ 65536) (ht : textB t.data.toList = true) (hl : n < t.size) :
    Calls Tryd.prog 16 #[.string t, .int .i64 n] w fun e w' => e = .returned (.tuple #[.string ByteArray.empty, .int .i64 3]) ∧ Below w.heap.size w w' := by
  have h1 : ¬ (n : Int) < 0 := by omega
  have h2 : ¬ (65536 : Int) < n := by omega
  have h3 : (n : Int) < t.size := by omega
  go_enter Tryd.func16, Tryd.ntmps16
  go_wp2_with fail
  refine (isText_any t _).mono ?_
  rw [ht]
  rintro e w1 ⟨rfl, hb⟩
  clear ht
  go_wp2_with fail
  go_ret2
  exact ⟨rfl, hb⟩

theorem cast_missing (a n : Nat) (hn : 1 ≤ n) : -((a : Int) % n) % n = (((n - a % n) % n : Nat) : Int) := by
  have h : a % n < n := Nat.mod_lt _ (by omega)
  rw [Int.natCast_emod, Int.natCast_sub (by omega), Int.natCast_emod, Int.sub_eq_add_neg, Int.add_emod_left]

set_option maxHeartbeats 400000 in
theorem pad_ok (s : ByteArray) (n : Nat) (w : World) (hs : s.size ≤ 65536) (hn : 1 ≤ n) (hn' : n ≤ 64) (hl : s.size + (n - s.size % n) % n ≤ 65536) :
    Calls Tryd.prog 18 #[.string s, .int .i64 n] w fun e w' => e = .returned (.tuple #[.string (s ++ ⟨(zeros ((n - s.size % n) % n)).toArray⟩), .int .i64 0]) ∧ Below w.heap.size w w' := by
  have hc := cast_missing s.size n hn
  obtain ⟨m, hm⟩ : ∃ m, m = (n - s.size % n) % n := ⟨_, rfl⟩
  rw [← hm] at hc hl ⊢
  have hm64 : m ≤ 64 := by have := Nat.mod_lt (n - s.size % n) (show 0 < n by omega); omega
  have q0 : 0 ≤ (n : Int) - (s.size : Int) % n := by have := Int.emod_lt_of_pos (s.size : Int) (show (0 : Int) < n by omega); omega
  have q1 : (n : Int) - (s.size : Int) % n ≤ 64 := by have := Int.emod_nonneg (s.size : Int) (show (n : Int) ≠ 0 by omega); omega
  have q2 : ¬ (65536 : Int) < (s.size : Int) + -((s.size : Int) % n) % n := by rw [hc]; omega
  have q3 : 0 ≤ -((s.size : Int) % n) % n := by rw [hc]; omega
  have h1 : ¬ (65536 : Int) < s.size := by omega
  have h2 : ¬ (n : Int) < 1 := by omega
  have h3 : ¬ (64 : Int) < n := by omega
  have HC := Lib.hid hc; clear hc hm
  go_enter Tryd.func18, Tryd.ntmps18
  go_wp2_with fail
  refine (rep_zeros m _ _ HC.out (by omega)).mono ?_
  rintro e w1 ⟨rfl, hb⟩
  have hz : (zeros m).length ≤ 65536 := by rw [zeros_len]; omega
  go_wp2_with fail
  go_ret2
  exact ⟨rfl, hb⟩
end Go.Proofs.YteddodfpgaadoaaDoor
