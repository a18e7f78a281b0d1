/- Contracts of octet.U8, U16, U32, S32, and of the writers of numbers. -/
import Derived.Test.YteddodfpgaadoaaDoorOctB
import Derived.Laws.EntriesVeiled
import Derived.Laws.IdiomStrings
namespace Go.Proofs.YteddodfpgaadoaaDoor
open Go.RowKit

theorem u32_ok (s : ByteArray) (at' : Nat) (w : World) (a b c d : UInt8) (hs : s.size ≤ 65536) (h : at' + 4 ≤ s.size) (hx : s.extract at' (at' + 4) = ⟨#[a, b, c, d]⟩) :
    Calls Tryd.prog 22 #[.string s, .int .i64 at'] w fun e w' => e = .returned (.tuple #[.int .i64 (num4 a b c d : Nat), .int .i64 0]) ∧ Below w.heap.size w w' := by
  go_enter Tryd.func22, Tryd.ntmps22
  go_wp2_with fail
  refine (number4 s at' _ a b c d hs h hx).mono ?_
  rintro e w' ⟨rfl, hb⟩
  clear hx h hs
  go_wp2_with fail
  go_ret2
  exact ⟨rfl, hb⟩
theorem u16_ok (s : ByteArray) (at' : Nat) (w : World) (c d : UInt8) (hs : s.size ≤ 65536) (h : at' + 2 ≤ s.size) (hx : s.extract at' (at' + 2) = ⟨#[c, d]⟩) :
    Calls Tryd.prog 21 #[.string s, .int .i64 at'] w fun e w' => e = .returned (.tuple #[.int .i64 (num4 0 0 c d : Nat), .int .i64 0]) ∧ Below w.heap.size w w' := by
  go_enter Tryd.func21, Tryd.ntmps21
  go_wp2_with fail
  refine (number2 s at' _ c d hs h hx).mono ?_
  rintro e w' ⟨rfl, hb⟩
  clear hx h hs
  go_wp2_with fail
  go_ret2
  exact ⟨rfl, hb⟩
theorem u8_ok (s : ByteArray) (at' : Nat) (w : World) (d : UInt8) (hs : s.size ≤ 65536) (h : at' + 1 ≤ s.size) (hx : s.extract at' (at' + 1) = ⟨#[d]⟩) :
    Calls Tryd.prog 20 #[.string s, .int .i64 at'] w fun e w' => e = .returned (.tuple #[.int .i64 (num4 0 0 0 d : Nat), .int .i64 0]) ∧ Below w.heap.size w w' := by
  go_enter Tryd.func20, Tryd.ntmps20
  go_wp2_with fail
  refine (number1 s at' _ d hs h hx).mono ?_
  rintro e w' ⟨rfl, hb⟩
  clear hx h hs
  go_wp2_with fail
  go_ret2
  exact ⟨rfl, hb⟩
theorem u16_short (s : ByteArray) (at' : Int) (w : World) (hs : s.size ≤ 65536) (g : 0 ≤ at') (g' : at' ≤ s.size) (h : s.size < at' + 2) :
    Calls Tryd.prog 21 #[.string s, .int .i64 at'] w fun e w' => e = .returned (.tuple #[.int .i64 0, .int .i64 70]) ∧ w = w' := by
  go_enter Tryd.func21, Tryd.ntmps21
  go_wp2_with fail
  refine (number_short s at' 2 _ hs g g' (by omega) h).mono ?_
  rintro e w' ⟨rfl, rfl⟩
  clear h hs
  go_wp2_with fail
  go_ret2
  exact ⟨rfl, rfl⟩
theorem u8_short (s : ByteArray) (at' : Int) (w : World) (hs : s.size ≤ 65536) (g : 0 ≤ at') (g' : at' ≤ s.size) (h : s.size < at' + 1) :
    Calls Tryd.prog 20 #[.string s, .int .i64 at'] w fun e w' => e = .returned (.tuple #[.int .i64 0, .int .i64 70]) ∧ w = w' := by
  go_enter Tryd.func20, Tryd.ntmps20
  go_wp2_with fail
  refine (number_short s at' 1 _ hs g g' (by omega) h).mono ?_
  rintro e w' ⟨rfl, rfl⟩
  clear h hs
  go_wp2_with fail
  go_ret2
  exact ⟨rfl, rfl⟩
theorem u8_arg (s : ByteArray) (at' : Int) (w : World) (hs : s.size ≤ 65536) (g : at' < 0) :
    Calls Tryd.prog 20 #[.string s, .int .i64 at'] w fun e w' => e = .returned (.tuple #[.int .i64 0, .int .i64 2]) ∧ w = w' := by
  go_enter Tryd.func20, Tryd.ntmps20
  go_wp2_with fail
  refine (number_arg s at' 1 _ hs g).mono ?_
  rintro e w' ⟨rfl, rfl⟩
  clear hs
  go_wp2_with fail
  go_ret2
  exact ⟨rfl, rfl⟩

set_option maxHeartbeats 400000 in
theorem s32_ok (s : ByteArray) (at' : Nat) (w : World) (a b c d : UInt8) (hs : s.size ≤ 65536) (h : at' + 4 ≤ s.size) (hx : s.extract at' (at' + 4) = ⟨#[a, b, c, d]⟩) :
    Calls Tryd.prog 24 #[.string s, .int .i64 at'] w fun e w' => e = .returned (.tuple #[.int .i64 (wrap32 (num4 a b c d : Nat)), .int .i64 0]) ∧ Below w.heap.size w w' := by
  go_enter Tryd.func24, Tryd.ntmps24
  go_wp2_with fail
  refine (number4 s at' _ a b c d hs h hx).mono ?_
  rintro e w' ⟨rfl, hb⟩
  clear hx h hs
  go_wp2_with fail
  go_ret2
  refine ⟨?_, hb⟩
  exact congrArg (fun n => Ending.returned (.tuple #[.int .i64 n, .int .i64 0])) (wrap_s32 _)

set_option maxHeartbeats 400000 in
theorem spread_raw (n : Int) (w : World) :
    Calls Tryd.prog 68 #[.int .i64 n] w fun e w' => e = .returned (.agg #[.int .u8 (n / 16777216 % 256), .int .u8 (n / 65536 % 256), .int .u8 (n / 256 % 256), .int .u8 (n % 256)]) ∧ Below w.heap.size w w' := by
  go_enter Tryd.func68, Tryd.ntmps68
  go_wp2
  refine wp_loop_rounds 5 ?_
  rw [rounds_succ]; go_wp2
  rw [rounds_succ]; go_wp2
  rw [rounds_succ]; go_wp2
  rw [rounds_succ]; go_wp2
  rw [rounds_succ]; go_wp2
  exact bodyPost_ret (v := .agg #[.int .u8 (n / 16777216 % 256), .int .u8 (n / 65536 % 256), .int .u8 (n / 256 % 256), .int .u8 (n % 256)]) (by simp [results, Tryd.results68, go_sem]) rfl ⟨rfl, ((Below.refl _ _).alloc (Nat.le_refl _) _).alloc (by simp) _⟩
theorem spread_any (n : Int) (w : World) :
    Calls Tryd.prog 68 #[.int .i64 n] w fun e w' => e = .returned (.agg #[.int .u8 (oc n 16777216).toNat, .int .u8 (oc n 65536).toNat, .int .u8 (oc n 256).toNat, .int .u8 (oc n 1).toNat]) ∧ Below w.heap.size w w' := by
  rw [oc_val, oc_val, oc_val, oc_val, Int.ediv_one]
  exact spread_raw n w

theorem last_any (n : Int) (w : World) :
    Calls Tryd.prog 55 #[.int .i64 n] w fun e w' => e = .returned (.func (.func 67) #[] #[.pointer (some ⟨w.heap.size, 0, none⟩)]) ∧ w' = w.alloc (.cells #[.int .i64 n] 3) := by
  have hmf := mkf
  go_enter Tryd.func55, Tryd.ntmps55
  go_wp2
  go_ret
  exact ⟨rfl, rfl⟩

theorem cell_kept {w w' : World} {p : Addr} {v : Value} (hb : Below w.heap.size w w') (hc : w.cell? p = some v) : w'.cell? p = some v := (hb.cell (World.block_lt_of_cell? _ _ hc)).trans hc

theorem conv_new (w : World) (off k c : Nat) (l all : List UInt8) (hk : l.length = k) (ha : ∀ j b, l[j]? = some b → all[off + j]? = some b) :
    (convert 69 9 (.slice (some ⟨w.heap.size, off, none⟩) k c)).run Tryd.prog (w.alloc (.cells (all.map fun b => Value.int .u8 (b.toNat : Int)).toArray 86)) =
      .ok (.string ⟨l.toArray⟩) (w.alloc (.cells (all.map fun b => Value.int .u8 (b.toNat : Int)).toArray 86)) := by
  subst hk
  refine run_convert_bytes_back _ 69 9 5 _ c l Tryd.underlying69 Tryd.underlying5 Tryd.underlying9 ?_
  intro j hj
  have e : (⟨w.heap.size, off, none⟩ : Addr).add j = ⟨w.heap.size, off + j, none⟩ := by unfold Addr.add; split <;> simp_all
  have hb := ha j l[j] (List.getElem?_eq_getElem hj)
  rw [e, cell_of_row _ _ _ _ _ _ (heap_alloc_new w _)]
  simp [hb]

theorem conv4 (w : World) (x y z t : UInt8) :
    (convert 69 9 (.slice (some ⟨w.heap.size, 0, none⟩) 4 4)).run Tryd.prog (w.alloc (.cells #[.int .u8 x.toNat, .int .u8 y.toNat, .int .u8 z.toNat, .int .u8 t.toNat] 86)) =
      .ok (.string ⟨#[x, y, z, t]⟩) (w.alloc (.cells #[.int .u8 x.toNat, .int .u8 y.toNat, .int .u8 z.toNat, .int .u8 t.toNat] 86)) :=
  conv_new w 0 4 4 [x, y, z, t] [x, y, z, t] rfl (fun j b h => by simpa using h)
theorem conv2 (w : World) (x y z t : UInt8) :
    (convert 69 9 (.slice (some ⟨w.heap.size, 2, none⟩) 2 2)).run Tryd.prog (w.alloc (.cells #[.int .u8 x.toNat, .int .u8 y.toNat, .int .u8 z.toNat, .int .u8 t.toNat] 86)) =
      .ok (.string ⟨#[z, t]⟩) (w.alloc (.cells #[.int .u8 x.toNat, .int .u8 y.toNat, .int .u8 z.toNat, .int .u8 t.toNat] 86)) :=
  conv_new w 2 2 2 [z, t] [x, y, z, t] rfl (fun j b h => by rw [Nat.add_comm]; simpa using h)
theorem conv1 (w : World) (x y z t : UInt8) :
    (convert 69 9 (.slice (some ⟨w.heap.size, 3, none⟩) 1 1)).run Tryd.prog (w.alloc (.cells #[.int .u8 x.toNat, .int .u8 y.toNat, .int .u8 z.toNat, .int .u8 t.toNat] 86)) =
      .ok (.string ⟨#[t]⟩) (w.alloc (.cells #[.int .u8 x.toNat, .int .u8 y.toNat, .int .u8 z.toNat, .int .u8 t.toNat] 86)) :=
  conv_new w 3 1 1 [t] [x, y, z, t] rfl (fun j b h => by rw [Nat.add_comm]; simpa using h)

set_option maxRecDepth 20000 in
set_option maxHeartbeats 400000 in
theorem last4 (n : Int) (p : Addr) (w : World) (hc : w.cell? p = some (.int .i64 4)) :
    Calls Tryd.prog 67 #[.int .i64 n, .pointer (some p)] w fun e w' => e = .returned (.string ⟨#[oc n 16777216, oc n 65536, oc n 256, oc n 1]⟩) ∧ Below w.heap.size w w' := by
  go_enter Tryd.func67, Tryd.ntmps67
  go_wp2_with fail
  refine (spread_any n _).mono ?_
  rintro e w1 ⟨rfl, hb⟩
  have hc1 := cell_kept hb hc
  have hc2 := fun o => (World.cell?_alloc_lt w1 o p (World.block_lt_of_cell? _ _ hc1)).trans hc1
  have hcv := conv4
  go_wp2_with fail
  go_ret
  exact ⟨rfl, hb.alloc hb.size _⟩
set_option maxRecDepth 20000 in
set_option maxHeartbeats 400000 in
theorem last2 (n : Int) (p : Addr) (w : World) (hc : w.cell? p = some (.int .i64 2)) :
    Calls Tryd.prog 67 #[.int .i64 n, .pointer (some p)] w fun e w' => e = .returned (.string ⟨#[oc n 256, oc n 1]⟩) ∧ Below w.heap.size w w' := by
  go_enter Tryd.func67, Tryd.ntmps67
  go_wp2_with fail
  refine (spread_any n _).mono ?_
  rintro e w1 ⟨rfl, hb⟩
  have hc1 := cell_kept hb hc
  have hc2 := fun o => (World.cell?_alloc_lt w1 o p (World.block_lt_of_cell? _ _ hc1)).trans hc1
  have hcv := conv2
  go_wp2_with fail
  go_ret
  exact ⟨rfl, hb.alloc hb.size _⟩
set_option maxRecDepth 20000 in
set_option maxHeartbeats 400000 in
theorem last1 (n : Int) (p : Addr) (w : World) (hc : w.cell? p = some (.int .i64 1)) :
    Calls Tryd.prog 67 #[.int .i64 n, .pointer (some p)] w fun e w' => e = .returned (.string ⟨#[oc n 1]⟩) ∧ Below w.heap.size w w' := by
  go_enter Tryd.func67, Tryd.ntmps67
  go_wp2_with fail
  refine (spread_any n _).mono ?_
  rintro e w1 ⟨rfl, hb⟩
  have hc1 := cell_kept hb hc
  have hc2 := fun o => (World.cell?_alloc_lt w1 o p (World.block_lt_of_cell? _ _ hc1)).trans hc1
  have hcv := conv1
  go_wp2_with fail
  go_ret
  exact ⟨rfl, hb.alloc hb.size _⟩


theorem u16_at (s : ByteArray) (n : Int) (i : Nat) (w : World) (c d : UInt8) (hn : n = i) (hs : s.size ≤ 65536) (h : i + 2 ≤ s.size) (hx : s.extract i (i + 2) = ⟨#[c, d]⟩) :
    Calls Tryd.prog 21 #[.string s, .int .i64 n] w fun e w' => e = .returned (.tuple #[.int .i64 (num4 0 0 c d : Nat), .int .i64 0]) ∧ Below w.heap.size w w' := by
  subst hn; exact u16_ok s i w c d hs h hx
theorem u32_at (s : ByteArray) (n : Int) (i : Nat) (w : World) (a b c d : UInt8) (hn : n = i) (hs : s.size ≤ 65536) (h : i + 4 ≤ s.size) (hx : s.extract i (i + 4) = ⟨#[a, b, c, d]⟩) :
    Calls Tryd.prog 22 #[.string s, .int .i64 n] w fun e w' => e = .returned (.tuple #[.int .i64 (num4 a b c d : Nat), .int .i64 0]) ∧ Below w.heap.size w w' := by
  subst hn; exact u32_ok s i w a b c d hs h hx
theorem says_is (n m : Int) (a : Addr) (w : World) (hc : w.cell? a = some (.int .i64 m)) (h : n = m) :
    Calls Tryd.prog 40 #[.int .i64 n, .int .i64 0, .pointer (some a)] w fun e w' => e = .returned (.bool true) ∧ w = w' := by
  subst h; exact says_yes n a w hc
end Go.Proofs.YteddodfpgaadoaaDoor
