/- Contracts of octet.Text. -/
import Derived.Test.YteddodfpgaadoaaDoorOctF
namespace Go.Proofs.YteddodfpgaadoaaDoor
open Go.RowKit

theorem trim_any (s : ByteArray) (w : World) (hs : s.size ≤ 65536) :
    Calls Tryd.prog 26 #[.string s, .string ⟨#[0]⟩] w fun e w' => e = .returned (.string ⟨(Lib.trimB s.data.toList 0).toArray⟩) ∧ Below w.heap.size w w' :=
  (Tryd.strings_Trim_one s 0 (by decide) w (by omega)).mono fun _ _ ⟨he, hw⟩ => ⟨he, by
    rcases hw with rfl | rfl
    · exact Below.refl _ _
    · exact (Below.refl _ _).drew⟩

theorem index_any (s : ByteArray) (w : World) :
    Calls Tryd.prog 52 #[.string s, .int .u8 0] w fun e w' => e = .returned (.int .i64 (Lib.indexByte s.data.toList 0)) ∧ w = w' :=
  (Tryd.strings_IndexByte s 0 w).mono fun _ _ ⟨he, hw⟩ => ⟨he, hw.symm⟩

set_option maxRecDepth 20000 in
set_option maxHeartbeats 800000 in
/-- The octets of the field are f; a 0 stands first at k; ahead of it is a text, behind it only zeros. -/
theorem text_nul (s f : ByteArray) (i n j k : Nat) (w : World) (hs : s.size ≤ 65536) (hj : i + n = j) (h : j ≤ s.size) (hx : s.extract i j = f) (hf : f.size ≤ 65536)
    (hi : Lib.indexByte f.data.toList 0 = k) (hk : k ≤ f.size) (ht : textB (f.extract 0 k).data.toList = true) (hz : Lib.trimB (f.extract k f.size).data.toList 0 = []) :
    Calls Tryd.prog 29 #[.string s, .int .i64 i, .int .i64 n] w fun e w' => e = .returned (.tuple #[.string (f.extract 0 k), .int .i64 0]) ∧ Below w.heap.size w w' := by
  go_enter Tryd.func29, Tryd.ntmps29
  go_wp2_with fail
  refine (part_at s _ _ i j _ hs (by omega) (by omega) (by omega) (by omega)).mono ?_
  rintro e w' ⟨rfl, rfl⟩
  rw [hx]
  clear hx h hs hj
  have HI := Lib.hid hi; clear hi
  have HT := Lib.hid ht; clear ht
  have HZ := Lib.hid hz; clear hz
  go_wp2_with fail
  refine (index_any f _).mono ?_
  rintro e w' ⟨rfl, rfl⟩
  rw [HI.out]
  have hk1 : (k : Int) ≤ (f.size : Int) := by omega
  have hk2 : (0 : Int) ≤ (k : Int) := by omega
  go_wp2_with fail
  go_quiet (fail)
  go_wp2_with fail
  refine (isText_any _ _).mono ?_
  rw [HT.out]
  rintro e w1 ⟨rfl, hb⟩
  go_wp2_with fail
  refine (trim_any _ _ (by simp; omega)).mono ?_
  rw [HZ.out]
  rintro e w2 ⟨rfl, hb2⟩
  go_wp2_with fail
  go_ret2
  exact ⟨rfl, (below_drewN (Below.refl _ _) _).trans (hb.trans (hb2.mono hb.size))⟩

set_option maxRecDepth 20000 in
set_option maxHeartbeats 800000 in
theorem text_bad (s f : ByteArray) (i n j k : Nat) (w : World) (hs : s.size ≤ 65536) (hj : i + n = j) (h : j ≤ s.size) (hx : s.extract i j = f)
    (hi : Lib.indexByte f.data.toList 0 = k) (hk : k ≤ f.size) (ht : textB (f.extract 0 k).data.toList = false) :
    Calls Tryd.prog 29 #[.string s, .int .i64 i, .int .i64 n] w fun e w' => e = .returned (.tuple #[.string ByteArray.empty, .int .i64 5]) ∧ Below w.heap.size w w' := by
  go_enter Tryd.func29, Tryd.ntmps29
  go_wp2_with fail
  refine (part_at s _ _ i j _ hs (by omega) (by omega) (by omega) (by omega)).mono ?_
  rintro e w' ⟨rfl, rfl⟩
  rw [hx]
  clear hx h hs hj
  have HI := Lib.hid hi; clear hi
  have HT := Lib.hid ht; clear ht
  go_wp2_with fail
  refine (index_any f _).mono ?_
  rintro e w' ⟨rfl, rfl⟩
  rw [HI.out]
  have hk1 : (k : Int) ≤ (f.size : Int) := by omega
  have hk2 : (0 : Int) ≤ (k : Int) := by omega
  go_wp2_with fail
  go_quiet (fail)
  go_wp2_with fail
  refine (isText_any _ _).mono ?_
  rw [HT.out]
  rintro e w1 ⟨rfl, hb⟩
  go_wp2_with fail
  go_ret2
  exact ⟨rfl, (below_drewN (Below.refl _ _) _).trans hb⟩

set_option maxRecDepth 20000 in
set_option maxHeartbeats 800000 in
theorem text_rest (s f : ByteArray) (i n j k : Nat) (w : World) (hs : s.size ≤ 65536) (hj : i + n = j) (h : j ≤ s.size) (hx : s.extract i j = f) (hf : f.size ≤ 65536)
    (hi : Lib.indexByte f.data.toList 0 = k) (hk : k ≤ f.size) (ht : textB (f.extract 0 k).data.toList = true) (hz : Lib.trimB (f.extract k f.size).data.toList 0 ≠ []) :
    Calls Tryd.prog 29 #[.string s, .int .i64 i, .int .i64 n] w fun e w' => e = .returned (.tuple #[.string ByteArray.empty, .int .i64 5]) ∧ Below w.heap.size w w' := by
  go_enter Tryd.func29, Tryd.ntmps29
  go_wp2_with fail
  refine (part_at s _ _ i j _ hs (by omega) (by omega) (by omega) (by omega)).mono ?_
  rintro e w' ⟨rfl, rfl⟩
  rw [hx]
  clear hx h hs hj
  have HI := Lib.hid hi; clear hi
  have HT := Lib.hid ht; clear ht
  have HZ := Lib.hid hz; clear hz
  go_wp2_with fail
  refine (index_any f _).mono ?_
  rintro e w' ⟨rfl, rfl⟩
  rw [HI.out]
  have hk1 : (k : Int) ≤ (f.size : Int) := by omega
  have hk2 : (0 : Int) ≤ (k : Int) := by omega
  go_wp2_with fail
  go_quiet (fail)
  go_wp2_with fail
  refine (isText_any _ _).mono ?_
  rw [HT.out]
  rintro e w1 ⟨rfl, hb⟩
  go_wp2_with fail
  refine (trim_any _ _ (by simp; omega)).mono ?_
  obtain ⟨c, l, hcl⟩ := List.exists_cons_of_ne_nil HZ.out
  rw [hcl]
  clear hcl
  rintro e w2 ⟨rfl, hb2⟩
  go_wp2_with fail
  go_ret2
  exact ⟨rfl, (below_drewN (Below.refl _ _) _).trans (hb.trans (hb2.mono hb.size))⟩

set_option maxRecDepth 20000 in
set_option maxHeartbeats 800000 in
theorem text_whole (s f : ByteArray) (i n j : Nat) (w : World) (hs : s.size ≤ 65536) (hj : i + n = j) (h : j ≤ s.size) (hx : s.extract i j = f)
    (hi : Lib.indexByte f.data.toList 0 = -1) (ht : textB f.data.toList = true) :
    Calls Tryd.prog 29 #[.string s, .int .i64 i, .int .i64 n] w fun e w' => e = .returned (.tuple #[.string f, .int .i64 0]) ∧ Below w.heap.size w w' := by
  go_enter Tryd.func29, Tryd.ntmps29
  go_wp2_with fail
  refine (part_at s _ _ i j _ hs (by omega) (by omega) (by omega) (by omega)).mono ?_
  rintro e w' ⟨rfl, rfl⟩
  rw [hx]
  clear hx h hs hj
  have HI := Lib.hid hi; clear hi
  have HT := Lib.hid ht; clear ht
  go_wp2_with fail
  refine (index_any f _).mono ?_
  rintro e w' ⟨rfl, rfl⟩
  rw [HI.out]
  go_wp2_with fail
  refine (isText_any _ _).mono ?_
  rw [HT.out]
  rintro e w1 ⟨rfl, hb⟩
  go_wp2_with fail
  refine (trim_any _ _ (by decide)).mono ?_
  rw [show Lib.trimB (ByteArray.mk #[]).data.toList 0 = [] from rfl]
  rintro e w2 ⟨rfl, hb2⟩
  go_wp2_with fail
  go_ret2
  exact ⟨rfl, hb.trans (hb2.mono hb.size)⟩
end Go.Proofs.YteddodfpgaadoaaDoor
