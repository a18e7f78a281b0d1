/- Plain facts on strings of octets: parts of parts, numbers of halves, padding. -/
import Derived.Test.YteddodfpgaadoaaDoorOctP
import Derived.Lib.Strings
import Derived.Lib.TrimByte
namespace Go.Proofs.YteddodfpgaadoaaDoor
open Go.RowKit

theorem ba_ext {a b : ByteArray} (h : a.data = b.data) : a = b := by
  cases a; cases b; simp at h; rw [h]

theorem ext1 (p : ByteArray) (i : Nat) (h : i + 1 ≤ p.size) : p.extract i (i + 1) = ⟨#[p[i]]⟩ := by
  have h' : i + 1 ≤ p.data.size := h
  apply ba_ext
  rw [ByteArray.data_extract]
  apply Array.ext
  · simp; omega
  · intro k h1 h2
    have hk : k = 0 := by simp at h2; omega
    subst hk
    simp
    rfl
theorem ext2 (p : ByteArray) (i : Nat) (h : i + 2 ≤ p.size) : p.extract i (i + 2) = ⟨#[p[i], p[i + 1]]⟩ := by
  have h' : i + 2 ≤ p.data.size := h
  apply ba_ext
  rw [ByteArray.data_extract]
  apply Array.ext
  · simp; omega
  · intro k h1 h2
    have hk : k = 0 ∨ k = 1 := by simp at h2; omega
    rcases hk with rfl | rfl <;> simp <;> rfl
theorem ext4 (p : ByteArray) (i : Nat) (h : i + 4 ≤ p.size) : p.extract i (i + 4) = ⟨#[p[i], p[i + 1], p[i + 2], p[i + 3]]⟩ := by
  have h' : i + 4 ≤ p.data.size := h
  apply ba_ext
  rw [ByteArray.data_extract]
  apply Array.ext
  · simp; omega
  · intro k h1 h2
    have hk : k = 0 ∨ k = 1 ∨ k = 2 ∨ k = 3 := by simp at h2; omega
    rcases hk with rfl | rfl | rfl | rfl <;> simp <;> rfl

theorem part_part (s : ByteArray) (a m b : Nat) (h : a + m ≤ s.size) : (s.extract a (a + m)).extract b m = s.extract (a + b) (a + m) := by
  have h' : a + m ≤ s.data.size := h
  apply ba_ext
  simp only [ByteArray.data_extract]
  apply Array.ext
  · simp <;> omega
  · intro k h1 h2
    simp [Nat.add_assoc]

theorem num_join (x0 x1 x2 x3 : UInt8) : num4 x0 x1 x2 x3 = num4 0 0 x0 x1 * 65536 + num4 0 0 x2 x3 := by
  have z : (0 : UInt8).toNat = 0 := rfl
  unfold num4; rw [z]; omega

theorem prefix_append (s z : ByteArray) : Lib.hasPrefix (s ++ z).data.toList s.data.toList = true := by
  rw [ByteArray.data_append]
  simp [Lib.hasPrefix]
theorem trim_replicate (k : Nat) : Lib.trimB (List.replicate k 0) 0 = [] := by
  unfold Lib.trimB Lib.trimRightB Lib.trimLeftB
  have : (List.replicate k (0 : UInt8)).reverse.dropWhile (· == 0) = [] := by
    rw [List.reverse_replicate]
    induction k with
    | zero => rfl
    | succ k ih => simp [List.replicate_succ, ih]
  rw [this]; rfl
theorem extract_behind (s : ByteArray) (l : List UInt8) : (s ++ (⟨l.toArray⟩ : ByteArray)).extract s.size (s ++ (⟨l.toArray⟩ : ByteArray)).size = ⟨l.toArray⟩ := by
  apply ba_ext
  simp only [ByteArray.data_extract, ByteArray.data_append, ByteArray.size]
  simp
theorem pad_mod (a n : Nat) (hn : 1 ≤ n) : (a + (n - a % n) % n) % n = 0 := by
  have h : a % n < n := Nat.mod_lt _ (by omega)
  by_cases h0 : a % n = 0
  · simp [h0]
  · rw [Nat.mod_eq_of_lt (show n - a % n < n by omega)]
    have := Nat.div_add_mod a n
    have e : a + (n - a % n) = n * (a / n) + n := by omega
    rw [e]; simp
theorem pad_lt (a n : Nat) (hn : 1 ≤ n) : (n - a % n) % n < n := Nat.mod_lt _ (by omega)
end Go.Proofs.YteddodfpgaadoaaDoor
