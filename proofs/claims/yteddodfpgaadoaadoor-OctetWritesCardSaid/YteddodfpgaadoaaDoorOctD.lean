/- Contracts of the writers of numbers. -/
import Derived.Test.YteddodfpgaadoaaDoorOctC
import Derived.Handy
namespace Go.Proofs.YteddodfpgaadoaaDoor
open Go.RowKit

theorem idx0 (x0 x1 x2 x3 x4 x5 x6 x7 x8 x9 xa xb : Value) (w : World) : (Instr.index 79 (.agg #[x0, x1, x2, x3, x4, x5, x6, x7, x8, x9, xa, xb]) (.int .i64 0)).run Tryd.prog w = .ok (.agg #[x0, x1, x2]) w := by kernel_rfl
theorem idx1 (x0 x1 x2 x3 x4 x5 x6 x7 x8 x9 xa xb : Value) (w : World) : (Instr.index 79 (.agg #[x0, x1, x2, x3, x4, x5, x6, x7, x8, x9, xa, xb]) (.int .i64 1)).run Tryd.prog w = .ok (.agg #[x3, x4, x5]) w := by kernel_rfl
theorem idx2 (x0 x1 x2 x3 x4 x5 x6 x7 x8 x9 xa xb : Value) (w : World) : (Instr.index 79 (.agg #[x0, x1, x2, x3, x4, x5, x6, x7, x8, x9, xa, xb]) (.int .i64 2)).run Tryd.prog w = .ok (.agg #[x6, x7, x8]) w := by kernel_rfl
theorem idx3 (x0 x1 x2 x3 x4 x5 x6 x7 x8 x9 xa xb : Value) (w : World) : (Instr.index 79 (.agg #[x0, x1, x2, x3, x4, x5, x6, x7, x8, x9, xa, xb]) (.int .i64 3)).run Tryd.prog w = .ok (.agg #[x9, xa, xb]) w := by kernel_rfl

set_option maxRecDepth 20000 in
set_option maxHeartbeats 3200000 in
theorem put8_ok (n : Int) (w : World) (h0 : 0 ≤ n) (h1 : n ≤ 255) :
    Calls Tryd.prog 33 #[.int .i64 n, .agg #[.int .i64 0, .int .i64 255]] w fun e w' => e = .returned (.tuple #[.string ⟨#[oc n 1]⟩, .int .i64 0]) ∧ Below w.heap.size w w' := by
  have i0 := idx0
  have i1 := idx1
  have i2 := idx2
  have i3 := idx3
  go_enter Tryd.func33, Tryd.ntmps33
  go_wp2_with (go_at_call 55; refine (last_any _ _).mono ?_; rintro e w1 ⟨rfl, rfl⟩)
  refine wp_loop_rounds 5 ?_
  rw [rounds_succ]; go_wp2_with fail
  refine (last1 n _ _ (by simp [go_sem])).mono ?_
  rintro e w1 ⟨rfl, hb⟩
  go_wp2_with fail
  go_ret2
  refine ⟨rfl, Below.trans ?_ (hb.mono (by simp; omega))⟩
  go_grown

set_option maxRecDepth 20000 in
set_option maxHeartbeats 3200000 in
theorem put16_ok (n : Int) (w : World) (h0 : 0 ≤ n) (h1 : n ≤ 65535) :
    Calls Tryd.prog 33 #[.int .i64 n, .agg #[.int .i64 0, .int .i64 65535]] w fun e w' => e = .returned (.tuple #[.string ⟨#[oc n 256, oc n 1]⟩, .int .i64 0]) ∧ Below w.heap.size w w' := by
  have i0 := idx0
  have i1 := idx1
  have i2 := idx2
  have i3 := idx3
  go_enter Tryd.func33, Tryd.ntmps33
  go_wp2_with (go_at_call 55; refine (last_any _ _).mono ?_; rintro e w1 ⟨rfl, rfl⟩)
  refine wp_loop_rounds 5 ?_
  rw [rounds_succ]; go_wp2_with fail
  rw [rounds_succ]; go_wp2_with fail
  refine (last2 n _ _ (by simp [go_sem])).mono ?_
  rintro e w1 ⟨rfl, hb⟩
  go_wp2_with fail
  go_ret2
  refine ⟨rfl, Below.trans ?_ (hb.mono (by simp; omega))⟩
  go_grown

set_option maxRecDepth 20000 in
set_option maxHeartbeats 3200000 in
theorem put32_ok (n : Int) (w : World) (h0 : 0 ≤ n) (h1 : n ≤ 4294967295) :
    Calls Tryd.prog 33 #[.int .i64 n, .agg #[.int .i64 0, .int .i64 4294967295]] w fun e w' => e = .returned (.tuple #[.string ⟨#[oc n 16777216, oc n 65536, oc n 256, oc n 1]⟩, .int .i64 0]) ∧ Below w.heap.size w w' := by
  have i0 := idx0
  have i1 := idx1
  have i2 := idx2
  have i3 := idx3
  go_enter Tryd.func33, Tryd.ntmps33
  go_wp2_with (go_at_call 55; refine (last_any _ _).mono ?_; rintro e w1 ⟨rfl, rfl⟩)
  refine wp_loop_rounds 5 ?_
  rw [rounds_succ]; go_wp2_with fail
  rw [rounds_succ]; go_wp2_with fail
  rw [rounds_succ]; go_wp2_with fail
  refine (last4 n _ _ (by simp [go_sem])).mono ?_
  rintro e w1 ⟨rfl, hb⟩
  go_wp2_with fail
  go_ret2
  refine ⟨rfl, Below.trans ?_ (hb.mono (by simp; omega))⟩
  go_grown

set_option maxRecDepth 20000 in
set_option maxHeartbeats 3200000 in
theorem puts_ok (n : Int) (w : World) (h0 : (-2147483648) ≤ n) (h1 : n ≤ 2147483647) :
    Calls Tryd.prog 33 #[.int .i64 n, .agg #[.int .i64 (-2147483648), .int .i64 2147483647]] w fun e w' => e = .returned (.tuple #[.string ⟨#[oc n 16777216, oc n 65536, oc n 256, oc n 1]⟩, .int .i64 0]) ∧ Below w.heap.size w w' := by
  have i0 := idx0
  have i1 := idx1
  have i2 := idx2
  have i3 := idx3
  go_enter Tryd.func33, Tryd.ntmps33
  go_wp2_with (go_at_call 55; refine (last_any _ _).mono ?_; rintro e w1 ⟨rfl, rfl⟩)
  refine wp_loop_rounds 5 ?_
  rw [rounds_succ]; go_wp2_with fail
  rw [rounds_succ]; go_wp2_with fail
  rw [rounds_succ]; go_wp2_with fail
  rw [rounds_succ]; go_wp2_with fail
  refine (last4 n _ _ (by simp [go_sem])).mono ?_
  rintro e w1 ⟨rfl, hb⟩
  go_wp2_with fail
  go_ret2
  refine ⟨rfl, Below.trans ?_ (hb.mono (by simp; omega))⟩
  go_grown

set_option maxRecDepth 20000 in
set_option maxHeartbeats 3200000 in
theorem put8_high (n : Int) (w : World) (h0 : 255 < n) :
    Calls Tryd.prog 33 #[.int .i64 n, .agg #[.int .i64 0, .int .i64 255]] w fun e w' => e = .returned (.tuple #[.string ByteArray.empty, .int .i64 2]) ∧ Below w.heap.size w w' := by
  have i0 := idx0
  have i1 := idx1
  have i2 := idx2
  have i3 := idx3
  go_enter Tryd.func33, Tryd.ntmps33
  go_wp2_with (go_at_call 55; refine (last_any _ _).mono ?_; rintro e w1 ⟨rfl, rfl⟩)
  refine wp_loop_rounds 5 ?_
  rw [rounds_succ]; go_wp2_with fail
  rw [rounds_succ]; go_wp2_with fail
  rw [rounds_succ]; go_wp2_with fail
  rw [rounds_succ]; go_wp2_with fail
  rw [rounds_succ]; go_wp2_with fail
  go_ret2
  refine ⟨rfl, ?_⟩
  go_grown
end Go.Proofs.YteddodfpgaadoaaDoor
