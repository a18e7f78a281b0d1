/- Digits of octets: plain facts, and the runs of single operations. -/
import Derived.Test.YtajadhbbnahnjaaDoorUt
import Derived.ChangeKeysEq
import Derived.KernelRfl
import Derived.OwnWalk
namespace Go.Proofs.YtajadhbbnahnjaaDoor
open Go.RowKit

/-- The digit of a number below 16. -/
def hd (n : Nat) : UInt8 := if n < 10 then UInt8.ofNat (48 + n) else UInt8.ofNat (87 + n)
/-- The digits of an octet. -/
def hx (b : UInt8) : List UInt8 := [hd (b.toNat / 16), hd (b.toNat % 16)]
/-- The digits of octets. -/
def hxs (l : List UInt8) : List UInt8 := l.flatMap hx
theorem hxs_length (l : List UInt8) : (hxs l).length = 2 * l.length := by
  induction l with
  | nil => rfl
  | cons b l ih => simp only [hxs, List.flatMap_cons, List.length_append, List.length_cons] at *; rw [ih]; simp [hx]; omega
theorem hxs_snoc (l : List UInt8) (b : UInt8) : hxs (l ++ [b]) = hxs l ++ hx b := by simp [hxs]
abbrev digs : ByteArray := ⟨#[48, 49, 50, 51, 52, 53, 54, 55, 56, 57, 97, 98, 99, 100, 101, 102]⟩
theorem dig_ix (n : Nat) (h : n < 16) (W : World) : (Instr.index 9 (.string digs) (.int .u8 (n : Int))).run Tryd.prog W = .ok (.int .u8 ((hd n).toNat : Int)) W := by
  obtain rfl | rfl | rfl | rfl | rfl | rfl | rfl | rfl | rfl | rfl | rfl | rfl | rfl | rfl | rfl | rfl : n = 0 ∨ n = 1 ∨ n = 2 ∨ n = 3 ∨ n = 4 ∨ n = 5 ∨ n = 6 ∨ n = 7 ∨ n = 8 ∨ n = 9 ∨ n = 10 ∨ n = 11 ∨ n = 12 ∨ n = 13 ∨ n = 14 ∨ n = 15 := by omega
  all_goals kernel_rfl
theorem and15 (b : UInt8) : bits .and .u8 (b.toNat : Int) 15 = (b.toNat : Int) % 16 := by
  have h := b.toNat_lt
  have e : bits .and .u8 (b.toNat : Int) 15 = IntKind.u8.wrap (((BitVec.ofInt 8 (b.toNat : Int)).toNat &&& (BitVec.ofInt 8 15).toNat : Nat) : Int) := rfl
  have e1 : (BitVec.ofInt 8 (b.toNat : Int)).toNat = b.toNat := by rw [BitVec.toNat_ofInt]; omega
  have e2 : (BitVec.ofInt 8 15).toNat = 2 ^ 4 - 1 := rfl
  rw [e, e1, e2, Nat.and_two_pow_sub_one_eq_mod]
  simp [IntKind.wrap, IntKind.signed, IntKind.bits]
  omega
/-- An element of an array by value. -/
theorem index_arr {t e : TypeId} {n : Nat} {P : Program} (ht : P.underlying t = some (.array n e)) (he : P.plainKey e = true) (hi : ∃ i, P.info? e = some i) (hc : P.cellsOf e = 1) (cs : List Value) (k : Nat) (hk : k < n) (v : Value) (hv : cs[k]? = some v) (W : World) :
    (Instr.index t (.agg ⟨cs⟩) (.int .i64 (k : Int))).run P W = .ok v W := by
  obtain ⟨i, hi⟩ := hi
  have hv' : (⟨cs⟩ : Array Value)[k]? = some v := by simpa using hv
  simp [Instr.index, run_underlying ht, asIntOf, run_sizeOf W hi, hc, run_part_plain W he hv']
  exact fun h => absurd hk (by omega)
theorem info5 : (Tryd.prog.info? 5).map (fun i => (i.zero, i.size, i.bytes)) = some (some (.int .u8 0), 1, 1) := by kernel_rfl
end Go.Proofs.YtajadhbbnahnjaaDoor
