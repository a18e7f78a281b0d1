/- Plain facts on octets that stand between others, on numbers that are read back, and on texts with zeros behind. -/
import Derived.Test.YteddodfpgaadoaaDoorOctK
import Derived.Test.YteddodfpgaadoaaDoorOctQ
namespace Go.Proofs.YteddodfpgaadoaaDoor
open Go.RowKit

theorem mid (a m b : ByteArray) : (a ++ m ++ b).extract a.size (a.size + m.size) = m := by
  apply ba_ext
  simp only [ByteArray.data_extract, ByteArray.data_append, ByteArray.size]
  apply Array.ext
  · simp
  · intro k h1 h2
    have h3 : k < m.data.size := h2
    have h4 : k < m.size := h2
    simp only [Array.getElem_extract]
    rw [Array.getElem_append_left (by simp; omega), Array.getElem_append_right (by omega)]
    simp
theorem mid_at (a m b : ByteArray) (n : Nat) (h : m.size = n) : (a ++ m ++ b).extract a.size (a.size + n) = m := by subst h; exact mid a m b
theorem size_mid (a m b : ByteArray) : (a ++ m ++ b).size = a.size + m.size + b.size := by rw [ByteArray.size_append, ByteArray.size_append]

theorem back1 (k : Int) (h0 : 0 ≤ k) (h1 : k ≤ 255) : ((num4 0 0 0 (oc k 1) : Nat) : Int) = k := by rw [num_oc1]; omega
theorem back2 (k : Int) (h0 : 0 ≤ k) (h1 : k ≤ 65535) : ((num4 0 0 (oc k 256) (oc k 1) : Nat) : Int) = k := by rw [num_oc2]; omega
theorem back4 (k : Int) (h0 : 0 ≤ k) (h1 : k ≤ 4294967295) : ((num4 (oc k 16777216) (oc k 65536) (oc k 256) (oc k 1) : Nat) : Int) = k := by rw [num_oc4]; omega
theorem backs (k : Int) (h0 : -2147483648 ≤ k) (h1 : k ≤ 2147483647) : wrap32 ((num4 (oc k 16777216) (oc k 65536) (oc k 256) (oc k 1) : Nat) : Int) = k := by
  rw [num_oc4]; simp only [wrap32]; omega

theorem good_ne (b : UInt8) (h : goodB b = true) : (b == 0) = false := by
  rw [Bool.eq_false_iff]
  intro e
  rw [eq_of_beq e] at h
  exact absurd h (by decide)
theorem index_none : ∀ l : List UInt8, textB l = true → Lib.indexByte l 0 = -1
  | [], _ => rfl
  | b :: l, h => by
    have h' : goodB b = true ∧ textB l = true := by simpa [textB] using h
    rw [Lib.indexByte, good_ne b h'.1, index_none l h'.2]
    rfl
theorem index_zeros : ∀ (l : List UInt8) (k : Nat), textB l = true → Lib.indexByte (l ++ zeros (k + 1)) 0 = l.length
  | [], k, _ => by simp [zeros, List.replicate_succ, Lib.indexByte]
  | b :: l, k, h => by
    have h' : goodB b = true ∧ textB l = true := by simpa [textB] using h
    rw [List.cons_append, Lib.indexByte, good_ne b h'.1, index_zeros l k h'.2]
    have : ((l.length : Int) == -1) = false := by simp
    rw [this]
    simp
theorem front (t : ByteArray) (l : List UInt8) : (t ++ (⟨l.toArray⟩ : ByteArray)).extract 0 t.size = t := by
  apply ba_ext
  simp only [ByteArray.data_extract, ByteArray.data_append, ByteArray.size]
  simp
theorem data_pad (t : ByteArray) (k : Nat) : (t ++ (⟨(zeros k).toArray⟩ : ByteArray)).data.toList = t.data.toList ++ zeros k := by
  rw [ByteArray.data_append]; simp
theorem pad_none (t : ByteArray) : t ++ (⟨(zeros 0).toArray⟩ : ByteArray) = t := by
  apply ba_ext; rw [ByteArray.data_append]; simp [zeros]
theorem size_pads (x : ByteArray) (M : Nat) : (x ++ (⟨(zeros M).toArray⟩ : ByteArray)).size = x.size + M := by
  rw [ByteArray.size_append]
  show x.size + (zeros M).toArray.size = _
  simp [zeros]
end Go.Proofs.YteddodfpgaadoaaDoor
