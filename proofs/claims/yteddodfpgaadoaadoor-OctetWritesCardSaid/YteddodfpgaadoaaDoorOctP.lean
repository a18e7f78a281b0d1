/- Plain arithmetic: four octets as one number, by shifts and by or. -/
import Derived.Laws.BitsAllLaws
import Derived.Laws.BitsLemmas
import Derived.RowKit
namespace Go.Proofs.YteddodfpgaadoaaDoor
open Go.RowKit

theorem bits64 (x : Nat) (h : x < 9223372036854775808) : (BitVec.ofInt 64 (x : Int)).toNat = x := by
  rw [BitVec.toNat_ofInt]
  omega
theorem i64_or_nat (a b : Nat) (ha : a < 9223372036854775808) (hb : b < 9223372036854775808) : bits .or .i64 (a : Int) (b : Int) = ((a ||| b : Nat) : Int) := by
  have h : (a ||| b) < 2 ^ 63 := Nat.or_lt_two_pow ha hb
  have e : bits .or .i64 (a : Int) (b : Int) = IntKind.i64.wrap (((BitVec.ofInt 64 (a : Int)).toNat ||| (BitVec.ofInt 64 (b : Int)).toNat : Nat) : Int) := rfl
  rw [e, bits64 a ha, bits64 b hb, IntKind.wrap_i64]
  omega
theorem or_low (x b : Nat) (hb : b < 256) : x * 256 ||| b = x * 256 + b := by
  have h := Nat.shiftLeft_add_eq_or_of_lt (i := 8) (by simpa using hb) x
  rw [Nat.shiftLeft_eq] at h
  simpa using h.symm

/-- One round: what was gathered, shifted, and an octet more. -/
theorem gather_step (x : Nat) (b : UInt8) (hx : x < 16777216) : bits .or .i64 (wrap64 ((x : Int) * 256)) (wrap64 (b.toNat : Int)) = ((x * 256 + b.toNat : Nat) : Int) := by
  have hb : b.toNat < 256 := b.toNat_lt
  have e1 : wrap64 ((x : Int) * 256) = ((x * 256 : Nat) : Int) := by simp only [wrap64]; omega
  have e2 : wrap64 (b.toNat : Int) = (b.toNat : Int) := by simp only [wrap64]; omega
  rw [e1, e2, i64_or_nat _ _ (by omega) (by omega), or_low _ _ hb]
theorem gather_first (b : UInt8) : bits .or .i64 0 (wrap64 (b.toNat : Int)) = (b.toNat : Int) := by
  have hb : b.toNat < 256 := b.toNat_lt
  have e2 : wrap64 (b.toNat : Int) = (b.toNat : Int) := by simp only [wrap64]; omega
  have := i64_or_nat 0 b.toNat (by omega) (by omega)
  rw [e2]
  simpa using this

/-- The number of four octets. -/
def num4 (a b c d : UInt8) : Nat := ((a.toNat * 256 + b.toNat) * 256 + c.toNat) * 256 + d.toNat
theorem num4_lt (a b c d : UInt8) : num4 a b c d < 4294967296 := by
  have ha := a.toNat_lt; have hb := b.toNat_lt; have hc := c.toNat_lt; have hd := d.toNat_lt
  unfold num4; omega
theorem gather4 (a b c d : UInt8) : bits BinOp.or IntKind.i64
    (wrap64 (bits BinOp.or IntKind.i64 (wrap64 (bits BinOp.or IntKind.i64 (wrap64 (bits BinOp.or IntKind.i64 0 (wrap64 ↑a.toNat) * 256)) (wrap64 ↑b.toNat) * 256)) (wrap64 ↑c.toNat) * 256))
    (wrap64 ↑d.toNat) = ((num4 a b c d : Nat) : Int) := by
  have ha := a.toNat_lt; have hb := b.toNat_lt; have hc := c.toNat_lt
  rw [gather_first, gather_step _ _ (by omega), gather_step _ _ (by omega), gather_step _ _ (by omega)]
  rfl

/-- The octet of a number at a place: place 1, 256, 65536 or 16777216. -/
def oc (n : Int) (k : Int) : UInt8 := UInt8.ofNat ((n / k) % 256).toNat
theorem oc_val (n k : Int) : (((oc n k).toNat : Nat) : Int) = n / k % 256 := by
  unfold oc
  rw [UInt8.toNat_ofNat']
  omega
theorem wrap_s32 (n : Nat) : wrap64 (wrap32 ((n : Int) % 4294967296)) = wrap32 (n : Int) := by
  simp only [wrap64, wrap32]; omega
/-- A number is made of its octets. -/
theorem num_oc4 (n : Int) : ((num4 (oc n 16777216) (oc n 65536) (oc n 256) (oc n 1) : Nat) : Int) = n % 4294967296 := by
  have h3 := oc_val n 16777216; have h2 := oc_val n 65536; have h1 := oc_val n 256; have h0 := oc_val n 1
  unfold num4; omega
theorem num_oc2 (n : Int) : ((num4 0 0 (oc n 256) (oc n 1) : Nat) : Int) = n % 65536 := by
  have h1 := oc_val n 256; have h0 := oc_val n 1
  have z : (0 : UInt8).toNat = 0 := rfl
  unfold num4; rw [z]; omega
theorem num_oc1 (n : Int) : ((num4 0 0 0 (oc n 1) : Nat) : Int) = n % 256 := by
  have h0 := oc_val n 1
  have z : (0 : UInt8).toNat = 0 := rfl
  unfold num4; rw [z]; omega
end Go.Proofs.YteddodfpgaadoaaDoor
