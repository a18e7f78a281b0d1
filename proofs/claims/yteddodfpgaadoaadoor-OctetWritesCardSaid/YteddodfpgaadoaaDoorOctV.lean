/- One contract for each writer, whatever the number or text: the program's and the reference's answers are told by the same words. -/
import Derived.Test.YteddodfpgaadoaaDoorOctW
import Derived.Test.YteddodfpgaadoaaDoorOctD2
namespace Go.Proofs.YteddodfpgaadoaaDoor
open Go.RowKit

def w8 (n : Int) : ByteArray := if 0 ≤ n ∧ n ≤ 255 then ⟨#[oc n 1]⟩ else ⟨#[]⟩
def e8 (n : Int) : Int := if 0 ≤ n ∧ n ≤ 255 then 0 else 2
theorem putU8_any (n : Int) (w : World) :
    Calls Tryd.prog 7 #[.int .i64 n] w fun e w' => e = .returned (.tuple #[.string (w8 n), .int .i64 (e8 n)]) ∧ Below w.heap.size w w' := by
  unfold w8 e8
  by_cases h0 : 0 ≤ n
  · by_cases h1 : n ≤ 255
    · rw [if_pos ⟨h0, h1⟩, if_pos ⟨h0, h1⟩]; exact putU8_ok n w h0 h1
    · rw [if_neg (fun h => h1 h.2), if_neg (fun h => h1 h.2)]; exact putU8_high n w (by omega)
  · rw [if_neg (fun h => h0 h.1), if_neg (fun h => h0 h.1)]; exact putU8_low n w (by omega)
theorem refPutU8_any (n : Int) (w : World) :
    Calls Tryd.prog 11 #[.int .i64 n] w fun e w' => e = .returned (.tuple #[.string (w8 n), .int .i64 (e8 n)]) ∧ Below w.heap.size w w' := by
  unfold w8 e8
  by_cases h0 : 0 ≤ n
  · by_cases h1 : n ≤ 255
    · rw [if_pos ⟨h0, h1⟩, if_pos ⟨h0, h1⟩]; exact refPutU8_ok n w h0 h1
    · rw [if_neg (fun h => h1 h.2), if_neg (fun h => h1 h.2)]; exact refPutU8_high n w (by omega)
  · rw [if_neg (fun h => h0 h.1), if_neg (fun h => h0 h.1)]; exact refPutU8_low n w (by omega)
def w16 (n : Int) : ByteArray := if 0 ≤ n ∧ n ≤ 65535 then ⟨#[oc n 256, oc n 1]⟩ else ⟨#[]⟩
def e16 (n : Int) : Int := if 0 ≤ n ∧ n ≤ 65535 then 0 else 2
theorem putU16_any (n : Int) (w : World) :
    Calls Tryd.prog 8 #[.int .i64 n] w fun e w' => e = .returned (.tuple #[.string (w16 n), .int .i64 (e16 n)]) ∧ Below w.heap.size w w' := by
  unfold w16 e16
  by_cases h0 : 0 ≤ n
  · by_cases h1 : n ≤ 65535
    · rw [if_pos ⟨h0, h1⟩, if_pos ⟨h0, h1⟩]; exact putU16_ok n w h0 h1
    · rw [if_neg (fun h => h1 h.2), if_neg (fun h => h1 h.2)]; exact putU16_high n w (by omega)
  · rw [if_neg (fun h => h0 h.1), if_neg (fun h => h0 h.1)]; exact putU16_low n w (by omega)
theorem refPutU16_any (n : Int) (w : World) :
    Calls Tryd.prog 12 #[.int .i64 n] w fun e w' => e = .returned (.tuple #[.string (w16 n), .int .i64 (e16 n)]) ∧ Below w.heap.size w w' := by
  unfold w16 e16
  by_cases h0 : 0 ≤ n
  · by_cases h1 : n ≤ 65535
    · rw [if_pos ⟨h0, h1⟩, if_pos ⟨h0, h1⟩]; exact refPutU16_ok n w h0 h1
    · rw [if_neg (fun h => h1 h.2), if_neg (fun h => h1 h.2)]; exact refPutU16_high n w (by omega)
  · rw [if_neg (fun h => h0 h.1), if_neg (fun h => h0 h.1)]; exact refPutU16_low n w (by omega)
def w32 (n : Int) : ByteArray := if 0 ≤ n ∧ n ≤ 4294967295 then ⟨#[oc n 16777216, oc n 65536, oc n 256, oc n 1]⟩ else ⟨#[]⟩
def e32 (n : Int) : Int := if 0 ≤ n ∧ n ≤ 4294967295 then 0 else 2
theorem putU32_any (n : Int) (w : World) :
    Calls Tryd.prog 9 #[.int .i64 n] w fun e w' => e = .returned (.tuple #[.string (w32 n), .int .i64 (e32 n)]) ∧ Below w.heap.size w w' := by
  unfold w32 e32
  by_cases h0 : 0 ≤ n
  · by_cases h1 : n ≤ 4294967295
    · rw [if_pos ⟨h0, h1⟩, if_pos ⟨h0, h1⟩]; exact putU32_ok n w h0 h1
    · rw [if_neg (fun h => h1 h.2), if_neg (fun h => h1 h.2)]; exact putU32_high n w (by omega)
  · rw [if_neg (fun h => h0 h.1), if_neg (fun h => h0 h.1)]; exact putU32_low n w (by omega)
theorem refPutU32_any (n : Int) (w : World) :
    Calls Tryd.prog 13 #[.int .i64 n] w fun e w' => e = .returned (.tuple #[.string (w32 n), .int .i64 (e32 n)]) ∧ Below w.heap.size w w' := by
  unfold w32 e32
  by_cases h0 : 0 ≤ n
  · by_cases h1 : n ≤ 4294967295
    · rw [if_pos ⟨h0, h1⟩, if_pos ⟨h0, h1⟩]; exact refPutU32_ok n w h0 h1
    · rw [if_neg (fun h => h1 h.2), if_neg (fun h => h1 h.2)]; exact refPutU32_high n w (by omega)
  · rw [if_neg (fun h => h0 h.1), if_neg (fun h => h0 h.1)]; exact refPutU32_low n w (by omega)
def ws (n : Int) : ByteArray := if (-2147483648) ≤ n ∧ n ≤ 2147483647 then ⟨#[oc n 16777216, oc n 65536, oc n 256, oc n 1]⟩ else ⟨#[]⟩
def es (n : Int) : Int := if (-2147483648) ≤ n ∧ n ≤ 2147483647 then 0 else 2
theorem putS32_any (n : Int) (w : World) :
    Calls Tryd.prog 10 #[.int .i64 n] w fun e w' => e = .returned (.tuple #[.string (ws n), .int .i64 (es n)]) ∧ Below w.heap.size w w' := by
  unfold ws es
  by_cases h0 : (-2147483648) ≤ n
  · by_cases h1 : n ≤ 2147483647
    · rw [if_pos ⟨h0, h1⟩, if_pos ⟨h0, h1⟩]; exact putS32_ok n w h0 h1
    · rw [if_neg (fun h => h1 h.2), if_neg (fun h => h1 h.2)]; exact putS32_high n w (by omega)
  · rw [if_neg (fun h => h0 h.1), if_neg (fun h => h0 h.1)]; exact putS32_low n w (by omega)
theorem refPutS32_any (n : Int) (w : World) :
    Calls Tryd.prog 14 #[.int .i64 n] w fun e w' => e = .returned (.tuple #[.string (ws n), .int .i64 (es n)]) ∧ Below w.heap.size w w' := by
  unfold ws es
  by_cases h0 : (-2147483648) ≤ n
  · by_cases h1 : n ≤ 2147483647
    · rw [if_pos ⟨h0, h1⟩, if_pos ⟨h0, h1⟩]; exact refPutS32_ok n w h0 h1
    · rw [if_neg (fun h => h1 h.2), if_neg (fun h => h1 h.2)]; exact refPutS32_high n w (by omega)
  · rw [if_neg (fun h => h0 h.1), if_neg (fun h => h0 h.1)]; exact refPutS32_low n w (by omega)
def wT (t : ByteArray) (n : Int) : ByteArray := if n < 0 ∨ 65536 < n then ⟨#[]⟩ else if textB t.data.toList = false then ⟨#[]⟩ else if n < t.size then ⟨#[]⟩ else t ++ ⟨(zeros (n.toNat - t.size)).toArray⟩
def eT (t : ByteArray) (n : Int) : Int := if n < 0 ∨ 65536 < n then 2 else if textB t.data.toList = false then 5 else if n < t.size then 3 else 0
def wP (t : ByteArray) (n : Int) : ByteArray := if 65536 < t.size then ⟨#[]⟩ else if n < 1 ∨ 64 < n then ⟨#[]⟩ else if t.size + (n.toNat - t.size % n.toNat) % n.toNat ≤ 65536 then t ++ ⟨(zeros ((n.toNat - t.size % n.toNat) % n.toNat)).toArray⟩ else ⟨#[]⟩
def eP (t : ByteArray) (n : Int) : Int := if 65536 < t.size then 3 else if n < 1 ∨ 64 < n then 2 else if t.size + (n.toNat - t.size % n.toNat) % n.toNat ≤ 65536 then 0 else 3
theorem putText_any (t : ByteArray) (n : Int) (w : World) (_hs : t.size ≤ 100000) :
    Calls Tryd.prog 16 #[.string t, .int .i64 n] w fun e w' => e = .returned (.tuple #[.string (wT t n), .int .i64 (eT t n)]) ∧ Below w.heap.size w w' := by
  unfold wT eT
  by_cases h0 : n < 0 ∨ 65536 < n
  · rw [if_pos h0, if_pos h0]; exact putText_arg t n w h0
  · rw [if_neg h0, if_neg h0]
    obtain ⟨m, rfl⟩ : ∃ m : Nat, n = m := ⟨n.toNat, by omega⟩
    rw [Int.toNat_natCast]
    cases ht : textB t.data.toList with
    | false => rw [if_pos rfl, if_pos rfl]; exact putText_form t m w (by omega) ht
    | true =>
      rw [if_neg (show ¬ (true = false) by decide), if_neg (show ¬ (true = false) by decide)]
      by_cases hl : (m : Int) < t.size
      · rw [if_pos hl, if_pos hl]; exact putText_long t m w (by omega) ht (by omega)
      · rw [if_neg hl, if_neg hl]; exact putText_ok t m w (by omega) ht (by omega)
theorem pad_any (t : ByteArray) (n : Int) (w : World) :
    Calls Tryd.prog 18 #[.string t, .int .i64 n] w fun e w' => e = .returned (.tuple #[.string (wP t n), .int .i64 (eP t n)]) ∧ Below w.heap.size w w' := by
  unfold wP eP
  by_cases hs : 65536 < t.size
  · rw [if_pos hs, if_pos hs]; exact pad_long t n w hs
  · rw [if_neg hs, if_neg hs]
    by_cases h0 : n < 1 ∨ 64 < n
    · rw [if_pos h0, if_pos h0]; exact pad_arg t n w (by omega) h0
    · rw [if_neg h0, if_neg h0]
      obtain ⟨m, rfl⟩ : ∃ m : Nat, n = m := ⟨n.toNat, by omega⟩
      rw [Int.toNat_natCast]
      by_cases hl : t.size + (m - t.size % m) % m ≤ 65536
      · rw [if_pos hl, if_pos hl]; exact pad_ok t m w (by omega) (by omega) (by omega) hl
      · rw [if_neg hl, if_neg hl]; exact pad_over t m w (by omega) (by omega) (by omega) (by omega)
theorem refPutText_any (t : ByteArray) (n : Int) (w : World) (hs : t.size ≤ 100000) :
    Calls Tryd.prog 17 #[.string t, .int .i64 n] w fun e w' => e = .returned (.tuple #[.string (wT t n), .int .i64 (eT t n)]) ∧ Below w.heap.size w w' := by
  unfold wT eT
  by_cases h0 : n < 0 ∨ 65536 < n
  · rw [if_pos h0, if_pos h0]; exact refPutText_arg t n w h0
  · rw [if_neg h0, if_neg h0]
    obtain ⟨m, rfl⟩ : ∃ m : Nat, n = m := ⟨n.toNat, by omega⟩
    rw [Int.toNat_natCast]
    cases ht : textB t.data.toList with
    | false => rw [if_pos rfl, if_pos rfl]; exact refPutText_form t m w (by omega) hs ht
    | true =>
      rw [if_neg (show ¬ (true = false) by decide), if_neg (show ¬ (true = false) by decide)]
      by_cases hl : (m : Int) < t.size
      · rw [if_pos hl, if_pos hl]; exact refPutText_long t m w (by omega) hs ht (by omega)
      · rw [if_neg hl, if_neg hl]; exact refPutText_ok t m w (by omega) hs ht (by omega)
theorem refPad_any (t : ByteArray) (n : Int) (w : World) :
    Calls Tryd.prog 19 #[.string t, .int .i64 n] w fun e w' => e = .returned (.tuple #[.string (wP t n), .int .i64 (eP t n)]) ∧ Below w.heap.size w w' := by
  unfold wP eP
  by_cases hs : 65536 < t.size
  · rw [if_pos hs, if_pos hs]; exact refPad_long t n w hs
  · rw [if_neg hs, if_neg hs]
    by_cases h0 : n < 1 ∨ 64 < n
    · rw [if_pos h0, if_pos h0]; exact refPad_arg t n w (by omega) h0
    · rw [if_neg h0, if_neg h0]
      obtain ⟨m, rfl⟩ : ∃ m : Nat, n = m := ⟨n.toNat, by omega⟩
      rw [Int.toNat_natCast]
      by_cases hl : t.size + (m - t.size % m) % m ≤ 65536
      · rw [if_pos hl, if_pos hl]; exact refPad_in t m w (by omega) (by omega) (by omega) true (decide_eq_true hl).symm
      · rw [if_neg hl, if_neg hl]; exact refPad_in t m w (by omega) (by omega) (by omega) false (decide_eq_false hl).symm
end Go.Proofs.YteddodfpgaadoaaDoor
