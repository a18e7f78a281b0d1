/- A Builder of the law's own that is written octet by octet, and the text of all printable octets. -/
import Derived.Test.YteddodfpgaadoaaDoorOctG
import Derived.Shelf.Strings.Builder1
import Derived.Shelf.Strings.SlTrimAscii
namespace Go.Proofs.YteddodfpgaadoaaDoor
open Go.RowKit Go.Shelf

theorem szBuilder : (Tryd.prog.info? 71).map (·.size) = some 2 := by kernel_rfl

set_option maxHeartbeats 1000000 in
set_option maxRecDepth 100000 in
theorem check_used (b : Nat) (w : World) (h0 : w.cell? ⟨b, 0, none⟩ = some (.pointer (some ⟨b, 0, none⟩))) :
    Calls Tryd.prog 65 #[.pointer (some ⟨b, 0, none⟩)] w fun e w' => e = .returned (.tuple #[]) ∧ w' = w := by
  obtain ⟨j, hj, _⟩ := Option.map_eq_some_iff.1 szBuilder
  go_enter Tryd.func65, Tryd.ntmps65
  go_wp2
  rw [Lib.run_neq_ptr_same w _ Tryd.underlying68 hj]
  go_wp2
  go_end0
  exact ⟨rfl, rfl⟩

set_option maxHeartbeats 1000000 in
set_option maxRecDepth 100000 in
theorem check_fresh (b : Nat) (w : World) (h0 : w.cell? ⟨b, 0, none⟩ = some (.pointer none)) (hsh : w.shape? b = some (71, 2)) (hfz : w.frozen? ⟨b, 0, none⟩ = false) :
    Calls Tryd.prog 65 #[.pointer (some ⟨b, 0, none⟩)] w fun e w' => e = .returned (.tuple #[]) ∧ w' = w.setCell ⟨b, 0, none⟩ (.pointer (some ⟨b, 0, none⟩)) := by
  obtain ⟨j, hj, hjs⟩ := Option.map_eq_some_iff.1 szBuilder
  go_enter Tryd.func65, Tryd.ntmps65
  go_wp2
  rw [Lib.run_to_unsafe w ⟨b, 0, none⟩ Tryd.underlying68 Tryd.underlying100 hj (by rw [hjs]; decide) hsh (Nat.zero_lt_succ 1)]
  simp only [Result.andThen]
  rw [Oper.upon_value]
  go_wp2
  rw [run_callFunc_extern Tryd.func75 (by kernel_rfl) (by kernel_rfl) (by kernel_rfl) (e := Extern.AbiNoEscape.same) (by kernel_rfl)]
  rw [Lib.run_noEscape]
  simp only [Result.andThen]
  rw [Oper.upon_value]
  go_wp2
  rw [Lib.run_from_unsafe w ⟨b, 0, none⟩ Tryd.underlying100 Tryd.underlying68 hj hsh (by kernel_rfl)]
  simp only [Result.andThen]
  rw [Oper.upon_value]
  go_wp2
  go_end0
  exact ⟨rfl, rfl⟩

theorem check_any (B b : Nat) (bs : List Value) (w : World) (h : Lib.IsBuilder 71 5 B b bs w) :
    Calls Tryd.prog 65 #[.pointer (some ⟨b, 0, none⟩)] w fun e w' => e = .returned (.tuple #[]) ∧ (Lib.BuilderAt 71 5 B b (.pointer (some ⟨b, 0, none⟩)) bs w' ∧ Below B w w') := by
  rcases h with h | h
  · refine (check_fresh b w h.cell0 h.shape h.frozen0).mono ?_
    rintro e w' ⟨rfl, rfl⟩
    exact ⟨rfl, h.used _, (Below.refl B w).setCell (p := ⟨b, 0, none⟩) h.1 _⟩
  · refine (check_used b w h.cell0).mono ?_
    rintro e w' ⟨rfl, rfl⟩
    exact ⟨rfl, h, Below.refl B _⟩

theorem infoU8 : (Tryd.prog.info? 5).map (fun i => (i.zero, i.size, i.bytes)) = some (some (.int .u8 0), 1, 1) := by kernel_rfl

set_option maxHeartbeats 2000000 in
set_option maxRecDepth 100000 in
theorem writeByte (B b : Nat) (bs : List Value) (c : Int) (w : World) (h : Lib.IsBuilder 71 5 B b bs w) (hlen : bs.length + 1 ≤ 140737488355328) :
    Calls Tryd.prog 49 #[.pointer (some ⟨b, 0, none⟩), .int .u8 c] w fun e w' => e = .returned .nilIface ∧ (Lib.BuilderAt 71 5 B b (.pointer (some ⟨b, 0, none⟩)) (bs ++ [.int .u8 c]) w' ∧ Below B w w') := by
  obtain ⟨i0, hi, hz0, hz1, hz2⟩ := info_parts infoU8
  go_enter Tryd.func49, Tryd.ntmps49
  go_wp2_with (go_at_call 65; refine (check_any B b bs _ h).mono ?_)
  rintro e w1 ⟨rfl, h1, hb1⟩
  obtain ⟨hB, v, hbk, hown, hne⟩ := h1
  have c0 : w1.cell? ⟨b, 0, none⟩ = some (.pointer (some ⟨b, 0, none⟩)) := by rw [Lib.cell_of_heap hbk]; rfl
  have c1 : w1.cell? ⟨b, 1, none⟩ = some v := by rw [Lib.cell_of_heap hbk]; rfl
  have hlt : b < w1.heap.size := by
    rcases Nat.lt_or_ge b w1.heap.size with h' | h'
    · exact h'
    · simp [Array.getElem?_eq_none h'] at hbk
  go_wp2_with (at_builtin; refine wpList_append_own _ rfl _ _ 69 rfl B 5 i0 (.int .u8 0) 1 1 Tryd.underlying69 hi hz0 hz1 hz2 rfl (by decide) _ _ _ rfl (hown.alloc _) ⟨w1.heap.size, 0, none⟩ 1 1 [.int .u8 c] rfl rfl ?c1 ?c2 ?c3 ?c4 ?c5 ?_)
  case c1 =>
    intro j u hj
    match j, hj with
    | 0, hj => simp at hj; subst hj; simp [Addr.add]
  case c2 => intro u hu; simp at hu; subst hu; rfl
  case c3 => unfold maxLen; omega
  case c4 => omega
  case c5 => simp; omega
  intro v' w2 hown' hgrow _
  have hb2 : w2.heap[b]? = some (.cells #[.pointer (some ⟨b, 0, none⟩), v] 71 (0, 0)) := by
    rw [hgrow.block b (by simp; omega) (fun e => hne e.symm), Lib.alloc_old w1 _ b hlt]
    exact hbk
  have d0 : w2.cell? ⟨b, 0, none⟩ = some (.pointer (some ⟨b, 0, none⟩)) := by rw [Lib.cell_of_heap hb2]; rfl
  have d1 : w2.cell? ⟨b, 1, none⟩ = some v := by rw [Lib.cell_of_heap hb2]; rfl
  have f1 : w2.frozen? ⟨b, 1, none⟩ = false := Lib.frozen_of_heap hb2 1
  obtain ⟨g, cap, rfl⟩ : ∃ g cap, v' = .slice (some ⟨g, 0, none⟩) (bs.length + 1) cap := by
    rcases hown'.2 with ⟨_, h0⟩ | ⟨g, cap, cur, hv, _⟩
    · omega
    · exact ⟨g, cap, hv⟩
  go_wp2
  go_ret
  refine ⟨rfl, ?_, ?_⟩
  · exact Lib.BuilderAt.put (T := 71) (e := 5) hB hb2 (bs' := bs ++ [.int .u8 c]) (by simpa using hown') (by decide)
  · exact ((hb1.alloc (by omega) _).grown hgrow (by simp; omega) (fun k hk => (hown.lt k hk).1)).setCell (p := ⟨b, 1, none⟩) hB _

/-- The printable octets up to a number. -/
def upto (k : Nat) : List UInt8 := (List.range k).map fun i => UInt8.ofNat (32 + i)
theorem upto_succ (k : Nat) : upto (k + 1) = upto k ++ [UInt8.ofNat (32 + k)] := by simp [upto, List.range_succ]
theorem upto_len (k : Nat) : (upto k).length = k := by simp [upto]
theorem cells_succ (k : Nat) (hk : k < 95) : Lib.byteCells (upto k) ++ [Value.int .u8 (32 + (k : Int))] = Lib.byteCells (upto (k + 1)) := by
  rw [upto_succ]
  simp [Lib.byteCells]
  omega

theorem fresh_builder (w : World) : Lib.IsBuilder 71 5 w.heap.size w.heap.size [] (w.alloc (.cells #[.pointer none, .slice none 0 0] 71)) :=
  Or.inl ⟨Nat.le_refl _, .slice none 0 0, heap_alloc_new w _, World.ownsRow_nil _ _ _ _, by simp [Value.ownBlock]⟩

set_option maxHeartbeats 2000000 in
set_option maxRecDepth 100000 in
theorem printable_any (w : World) :
    Calls Tryd.prog 27 #[] w fun e w' => e = .returned (.string ⟨(upto 95).toArray⟩) ∧ Below w.heap.size w w' := by
  have HF := Lib.hid (fresh_builder w)
  go_enter Tryd.func27, Tryd.ntmps27
  go_wp2_with fail
  go_loopw [2] (fun c wr => ∃ k : Nat, k ≤ 95 ∧ c = .int .u8 (32 + (k : Int)) ∧ Hid (Lib.IsBuilder 71 5 w.heap.size w.heap.size (Lib.byteCells (upto k)) wr) ∧ Below w.heap.size w wr) (fun c _ => 127 - (intOf c).toNat)
  case atStart => exact ⟨0, by omega, rfl, HF, (Below.refl _ _).alloc (Nat.le_refl _) _⟩
  case round =>
    obtain ⟨k, hk, rfl, hB, hb⟩ := hrel
    by_cases h95 : k < 95
    · have h1 : (32 : Int) + (k : Int) < 127 := by omega
      go_wp2_with fail
      refine (writeByte w.heap.size w.heap.size _ _ _ hB.out (by rw [Lib.byteCells_length, upto_len]; omega)).mono ?_
      rintro e w1 ⟨rfl, hB1, hb1⟩
      rw [cells_succ k h95] at hB1
      have HB1 := Lib.hid (show Lib.IsBuilder 71 5 w.heap.size w.heap.size (Lib.byteCells (upto (k + 1))) w1 from Or.inr hB1)
      clear hB1 hB
      go_wp2_with fail
      go_roundw
      case rel => exact ⟨k + 1, by omega, by go_num, HB1, hb.trans hb1⟩
      case measure => simp [intOf]; omega
    · obtain rfl : k = 95 := by omega
      go_wp2_with fail
      refine (Tryd.Builder_String _ _ _ _ hB.out (by decide)).mono ?_
      rintro e w1 ⟨rfl, hb1⟩
      go_wp2_with fail
      go_ret
      exact ⟨rfl, hb.trans hb1⟩

/-! Cutting the printable octets off both ends of a text with another octet leaves something. -/
theorem drop_keeps {p : UInt8 → Bool} {b : UInt8} (hp : p b = false) : ∀ l : List UInt8, b ∈ l → b ∈ l.dropWhile p
  | a :: l, hb => by
    rw [List.dropWhile_cons]
    split
    · rename_i ha
      rcases List.mem_cons.1 hb with rfl | h
      · rw [hp] at ha; cases ha
      · exact drop_keeps hp l h
    · exact hb
theorem trimS_ne (l cs : List UInt8) (b : UInt8) (hb : b ∈ l) (hc : cs.contains b = false) : Lib.trimS l cs ≠ [] := by
  unfold Lib.trimS Lib.trimLeftS Lib.trimRightS
  have h1 : b ∈ (l.reverse.dropWhile (cs.contains ·)).reverse := by
    rw [List.mem_reverse]
    exact drop_keeps (p := fun x => cs.contains x) hc _ (List.mem_reverse.2 hb)
  exact List.ne_nil_of_mem (drop_keeps (p := fun x => cs.contains x) hc _ h1)
theorem upto_contains (b : UInt8) (h : goodB b = false) : (upto 95).contains b = false := by
  rw [Bool.eq_false_iff]
  intro hc
  rw [List.contains_iff_mem] at hc
  unfold upto at hc
  rw [List.mem_map] at hc
  obtain ⟨i, hi, rfl⟩ := hc
  rw [List.mem_range] at hi
  unfold goodB at h
  simp only [decide_eq_false_iff_not] at h
  apply h
  rw [UInt8.toNat_ofNat']
  omega
theorem trim_bad (t : List UInt8) (h : textB t = false) : Lib.trimS t (upto 95) ≠ [] := by
  unfold textB at h
  rw [List.all_eq_false] at h
  obtain ⟨b, hb, hg⟩ := h
  exact trimS_ne t (upto 95) b hb (upto_contains b (by simpa using hg))

theorem trim_text (t : ByteArray) (w : World) (ht : t.size ≤ 65536) :
    Calls Tryd.prog 26 #[.string t, .string ⟨(upto 95).toArray⟩] w fun e w' => e = .returned (.string ⟨(Lib.trimS t.data.toList (upto 95)).toArray⟩) ∧ Below w.heap.size w w' :=
  Any.strings_Trim_laid Tryd.lays160 (by kernel_rfl) t ⟨(upto 95).toArray⟩ w (by omega) (by show (upto 95).length < _; rw [upto_len]; omega) (ascii_of_all (by decide))
end Go.Proofs.YteddodfpgaadoaaDoor
