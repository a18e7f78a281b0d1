/- Contracts of octet.gather, octet.number and the readers of numbers. -/
import Derived.Test.YteddodfpgaadoaaDoorOctA
import Derived.Test.YteddodfpgaadoaaDoorOctP
import Derived.LoopN
import Derived.Lib.Hide
import Derived.Lib.BufferWrite
namespace Go.Proofs.YteddodfpgaadoaaDoor
open Go.RowKit

set_option maxHeartbeats 400000 in
theorem gather_any (a b c d : UInt8) (w : World) :
    Calls Tryd.prog 60 #[.agg #[.int .u8 a.toNat, .int .u8 b.toNat, .int .u8 c.toNat, .int .u8 d.toNat]] w fun e w' => e = .returned (.int .i64 (num4 a b c d : Nat)) ∧ Below w.heap.size w w' := by
  have i0 : ∀ (x0 x1 x2 x3 : Value) w, (Instr.index 86 (.agg #[x0, x1, x2, x3]) (.int .i64 0)).run Tryd.prog w = .ok x0 w := fun _ _ _ _ _ => by kernel_rfl
  have i1 : ∀ (x0 x1 x2 x3 : Value) w, (Instr.index 86 (.agg #[x0, x1, x2, x3]) (.int .i64 1)).run Tryd.prog w = .ok x1 w := fun _ _ _ _ _ => by kernel_rfl
  have i2 : ∀ (x0 x1 x2 x3 : Value) w, (Instr.index 86 (.agg #[x0, x1, x2, x3]) (.int .i64 2)).run Tryd.prog w = .ok x2 w := fun _ _ _ _ _ => by kernel_rfl
  have i3 : ∀ (x0 x1 x2 x3 : Value) w, (Instr.index 86 (.agg #[x0, x1, x2, x3]) (.int .i64 3)).run Tryd.prog w = .ok x3 w := fun _ _ _ _ _ => by kernel_rfl
  go_enter Tryd.func60, Tryd.ntmps60
  go_wp2
  refine wp_loop_rounds 5 ?_
  rw [rounds_succ]; go_wp2
  rw [rounds_succ]; go_wp2
  rw [rounds_succ]; go_wp2
  rw [rounds_succ]; go_wp2
  rw [rounds_succ]; go_wp2
  go_ret
  refine ⟨?_, (Below.refl _ _).alloc (Nat.le_refl _) _⟩
  have := gather4 a b c d
  exact congrArg (fun n => Ending.returned (.int .i64 n)) this

theorem setRow_alloc (w : World) (cur cs : Array Value) (t : TypeId) : (w.alloc (.cells cur t)).setRow w.heap.size cs = w.alloc (.cells cs t) := by
  simp only [World.alloc, World.setRow]
  congr 1
  apply Array.ext
  · simp
  · intro k h1 h2
    simp only [Array.getElem_modify]
    split
    · rename_i hk; subst hk; simp
    · rename_i hk
      simp only [Array.size_modify, Array.size_push] at h1
      rw [Array.getElem_push_lt (by omega), Array.getElem_push_lt (by omega)]

theorem sizeU8 : (Tryd.prog.info? 5).map (·.size) = some 1 := by kernel_rfl

theorem copy_new (w : World) (ty : TypeId) (off n c : Nat) (x : ByteArray) (cur : Array Value) (hle : x.size ≤ n) (hfit : off + x.size ≤ cur.size) :
    (Builtin.copy_ #[69, 9] ty #[.slice (some ⟨w.heap.size, off, none⟩) n c, .string x]).run Tryd.prog (w.alloc (.cells cur 86)) =
      .ok (goInt x.size) (w.alloc (.cells (cur.toList.take off ++ Lib.byteCells x.data.toList ++ cur.toList.drop (off + x.size)).toArray 86)) := by
  have h := Lib.run_copy_row_string (P := Tryd.prog) (w.alloc (.cells cur 86)) 69 9 ty 5 w.heap.size off n c x cur 86 Tryd.underlying69 sizeU8 (heap_alloc_new w _) hle hfit
  rw [setRow_alloc] at h
  exact h

/-- Four octets copied into the new array. -/
theorem copy4 (w : World) (ty : TypeId) (a b c d : UInt8) (v0 v1 v2 v3 : Value) :
    (Builtin.copy_ #[69, 9] ty #[.slice (some ⟨w.heap.size, 0, none⟩) 4 4, .string ⟨#[a, b, c, d]⟩]).run Tryd.prog (w.alloc (.cells #[v0, v1, v2, v3] 86)) =
      .ok (goInt 4) (w.alloc (.cells #[.int .u8 a.toNat, .int .u8 b.toNat, .int .u8 c.toNat, .int .u8 d.toNat] 86)) :=
  copy_new w ty 0 4 4 ⟨#[a, b, c, d]⟩ #[v0, v1, v2, v3] (Nat.le_refl 4) (Nat.le_refl 4)

theorem copy2 (w : World) (ty : TypeId) (c d : UInt8) (v0 v1 v2 v3 : Value) :
    (Builtin.copy_ #[69, 9] ty #[.slice (some ⟨w.heap.size, 2, none⟩) 2 2, .string ⟨#[c, d]⟩]).run Tryd.prog (w.alloc (.cells #[v0, v1, v2, v3] 86)) =
      .ok (goInt 2) (w.alloc (.cells #[v0, v1, .int .u8 c.toNat, .int .u8 d.toNat] 86)) :=
  copy_new w ty 2 2 2 ⟨#[c, d]⟩ #[v0, v1, v2, v3] (Nat.le_refl 2) (Nat.le_refl 4)
theorem copy1 (w : World) (ty : TypeId) (d : UInt8) (v0 v1 v2 v3 : Value) :
    (Builtin.copy_ #[69, 9] ty #[.slice (some ⟨w.heap.size, 3, none⟩) 1 1, .string ⟨#[d]⟩]).run Tryd.prog (w.alloc (.cells #[v0, v1, v2, v3] 86)) =
      .ok (goInt 1) (w.alloc (.cells #[v0, v1, v2, .int .u8 d.toNat] 86)) :=
  copy_new w ty 3 1 1 ⟨#[d]⟩ #[v0, v1, v2, v3] (Nat.le_refl 1) (Nat.le_refl 4)
theorem gather2 (c d : UInt8) (w : World) :
    Calls Tryd.prog 60 #[.agg #[.int .u8 0, .int .u8 0, .int .u8 c.toNat, .int .u8 d.toNat]] w fun e w' => e = .returned (.int .i64 (num4 0 0 c d : Nat)) ∧ Below w.heap.size w w' := gather_any 0 0 c d w
theorem gather1 (d : UInt8) (w : World) :
    Calls Tryd.prog 60 #[.agg #[.int .u8 0, .int .u8 0, .int .u8 0, .int .u8 d.toNat]] w fun e w' => e = .returned (.int .i64 (num4 0 0 0 d : Nat)) ∧ Below w.heap.size w w' := gather_any 0 0 0 d w

set_option maxRecDepth 20000 in
set_option maxHeartbeats 400000 in
theorem number4 (s : ByteArray) (at' : Nat) (w : World) (a b c d : UInt8) (hs : s.size ≤ 65536) (h : at' + 4 ≤ s.size) (hx : s.extract at' (at' + 4) = ⟨#[a, b, c, d]⟩) :
    Calls Tryd.prog 39 #[.string s, .int .i64 at', .int .i64 4] w fun e w' => e = .returned (.tuple #[.int .i64 (num4 a b c d : Nat), .int .i64 0]) ∧ Below w.heap.size w w' := by
  have hcp := fun (w : World) (ty : TypeId) (v0 v1 v2 v3 : Value) => copy4 w ty a b c d v0 v1 v2 v3
  go_enter Tryd.func39, Tryd.ntmps39
  go_wp2_with fail
  refine (part_at s _ _ at' (at' + 4) _ hs (by omega) (by omega) (by omega) (by omega)).mono ?_
  rintro e w' ⟨rfl, rfl⟩
  rw [hx]
  clear hx h hs
  go_wp2_with fail
  refine (gather_any a b c d _).mono ?_
  rintro e w' ⟨rfl, hb⟩
  go_wp2_with fail
  go_ret2
  exact ⟨rfl, ((Below.refl _ _).alloc (Nat.le_refl _) _).trans (hb.mono (by simp))⟩

set_option maxRecDepth 20000 in
set_option maxHeartbeats 400000 in
theorem number2 (s : ByteArray) (at' : Nat) (w : World) (c d : UInt8) (hs : s.size ≤ 65536) (h : at' + 2 ≤ s.size) (hx : s.extract at' (at' + 2) = ⟨#[c, d]⟩) :
    Calls Tryd.prog 39 #[.string s, .int .i64 at', .int .i64 2] w fun e w' => e = .returned (.tuple #[.int .i64 (num4 0 0 c d : Nat), .int .i64 0]) ∧ Below w.heap.size w w' := by
  have hcp := fun (w : World) (ty : TypeId) (v0 v1 v2 v3 : Value) => copy2 w ty c d v0 v1 v2 v3
  go_enter Tryd.func39, Tryd.ntmps39
  go_wp2_with fail
  refine (part_at s _ _ at' (at' + 2) _ hs (by omega) (by omega) (by omega) (by omega)).mono ?_
  rintro e w' ⟨rfl, rfl⟩
  rw [hx]
  clear hx h hs
  go_wp2_with fail
  refine (gather2 c d _).mono ?_
  rintro e w' ⟨rfl, hb⟩
  go_wp2_with fail
  go_ret2
  exact ⟨rfl, ((Below.refl _ _).alloc (Nat.le_refl _) _).trans (hb.mono (by simp))⟩

set_option maxRecDepth 20000 in
set_option maxHeartbeats 400000 in
theorem number1 (s : ByteArray) (at' : Nat) (w : World) (d : UInt8) (hs : s.size ≤ 65536) (h : at' + 1 ≤ s.size) (hx : s.extract at' (at' + 1) = ⟨#[d]⟩) :
    Calls Tryd.prog 39 #[.string s, .int .i64 at', .int .i64 1] w fun e w' => e = .returned (.tuple #[.int .i64 (num4 0 0 0 d : Nat), .int .i64 0]) ∧ Below w.heap.size w w' := by
  have hcp := fun (w : World) (ty : TypeId) (v0 v1 v2 v3 : Value) => copy1 w ty d v0 v1 v2 v3
  go_enter Tryd.func39, Tryd.ntmps39
  go_wp2_with fail
  refine (part_at s _ _ at' (at' + 1) _ hs (by omega) (by omega) (by omega) (by omega)).mono ?_
  rintro e w' ⟨rfl, rfl⟩
  rw [hx]
  clear hx h hs
  go_wp2_with fail
  refine (gather1 d _).mono ?_
  rintro e w' ⟨rfl, hb⟩
  go_wp2_with fail
  go_ret2
  exact ⟨rfl, ((Below.refl _ _).alloc (Nat.le_refl _) _).trans (hb.mono (by simp))⟩

theorem number_short (s : ByteArray) (at' n : Int) (w : World) (hs : s.size ≤ 65536) (g : 0 ≤ at') (g' : at' ≤ s.size) (k : 0 ≤ n) (h : s.size < at' + n) :
    Calls Tryd.prog 39 #[.string s, .int .i64 at', .int .i64 n] w fun e w' => e = .returned (.tuple #[.int .i64 0, .int .i64 70]) ∧ w = w' := by
  go_enter Tryd.func39, Tryd.ntmps39
  go_wp2_with fail
  refine (part_short s at' n _ hs g g' k h).mono ?_
  rintro e w' ⟨rfl, rfl⟩
  clear h hs
  go_wp2_with fail
  go_ret2
  exact ⟨rfl, rfl⟩
theorem number_arg (s : ByteArray) (at' n : Int) (w : World) (hs : s.size ≤ 65536) (g : at' < 0) :
    Calls Tryd.prog 39 #[.string s, .int .i64 at', .int .i64 n] w fun e w' => e = .returned (.tuple #[.int .i64 0, .int .i64 2]) ∧ w = w' := by
  go_enter Tryd.func39, Tryd.ntmps39
  go_wp2_with fail
  refine (part_arg s at' n _ hs g).mono ?_
  rintro e w' ⟨rfl, rfl⟩
  clear hs
  go_wp2_with fail
  go_ret2
  exact ⟨rfl, rfl⟩
end Go.Proofs.YteddodfpgaadoaaDoor
