/- The evaluator, F: slices built and made, append, octets to a text. -/
import Derived.Test.YtccjmmdppjialaaGreatDoorEvE
import Derived.Laws.BytesString
namespace Go.Proofs.YtccjmmdppjialaaGreatDoor
open Go.RowKit
namespace Ev

theorem cells_at {r : Nat → Option (Nat × Nat)} {M : Mem} {w : World} (hM : MR r M w) {i : Nat} {g : Nat × Nat} {cs : List Value} (hl : look M.bl i = some cs) (hi : r i = some g) {o n : Nat} (hn : o + n ≤ cs.length) :
    ∃ ys : List Value, ys.length = n ∧ (∀ (j : Nat) v, ys[j]? = some v → w.cell? ((⟨g.1, o, none⟩ : Addr).add j) = some v) ∧ LR r ((cs.drop o).take n) ys := by
  obtain ⟨g', t, cc, h1, h2, h2t, h3⟩ := hM.blk i cs hl
  rw [hi] at h1; cases h1
  have hlen : ∀ j, j < cs.length → j < cc.size := fun j hj => by
    obtain ⟨v', h4, _⟩ := h3 j cs[j] (List.getElem?_eq_getElem hj)
    exact (Array.getElem?_eq_some_iff.1 h4).1
  have hys : ((cc.toList.drop o).take n).length = n := by
    simp only [List.length_take, List.length_drop, Array.length_toList]
    rcases Nat.eq_zero_or_pos n with h0 | h0
    · subst h0; simp
    · have := hlen (o + n - 1) (by omega); omega
  refine ⟨(cc.toList.drop o).take n, hys, fun j v hv => ?_, ?_⟩
  · rw [List.getElem?_take] at hv
    split at hv
    · rw [List.getElem?_drop] at hv
      rw [add_at, cell_of_row w g.1 (o + j) cc t (0, 0) h2]
      simpa using hv
    · cases hv
  · refine ⟨by rw [hys]; simp; omega, fun j x y hx hy => ?_⟩
    rw [List.getElem?_take] at hx hy
    split at hx
    · rename_i hj; rw [if_pos hj, List.getElem?_drop] at hy
      rw [List.getElem?_drop] at hx
      obtain ⟨v', h4, h5⟩ := h3 _ _ hx
      have : cc[o + j]? = some y := by simpa using hy
      rw [h4] at this; cases this; exact h5
    · cases hx

theorem LR.of_cells {r : Nat → Option (Nat × Nat)} {cs ys : List Value} {cc : Array Value} (h : LR r cs ys) (hc : ∃ zs, cc.toList = ys ++ zs) : ∀ (j : Nat) v, cs[j]? = some v → ∃ v', cc[j]? = some v' ∧ VR r v v' := fun j v hv => by
  obtain ⟨y, h1, h2⟩ := h.get hv
  obtain ⟨zs, hz⟩ := hc
  have hj : j < ys.length := by
    rcases Nat.lt_or_ge j ys.length with h | h
    · exact h
    · rw [List.getElem?_eq_none h] at h1; cases h1
  exact ⟨y, by rw [← Array.getElem?_toList, hz, List.getElem?_append_left hj]; exact h1, h2⟩

/-! ### Slices built and made. -/
def zrow (z : Value) (k : Nat) : List Value := match z with
  | .agg xs => (List.range k).map fun i => xs[i % xs.size]!
  | z => List.replicate k z
theorem zrow_eq (z : Value) (k : Nat) : ((Array.range k).map (z.cells[· % z.cells.size]!)).toList = zrow z k := by
  cases z with
  | agg xs => simp [zrow, Value.cells]
  | _ =>
    simp only [zrow, Value.cells, Array.toList_map, Array.toList_range]
    refine List.ext_getElem (by simp) fun i h1 h2 => ?_
    simp [Nat.mod_one]
theorem zrow_rel (r : Nat → Option (Nat × Nat)) {z : Value} (h : af 4 z = true) (k : Nat) : LR r (zrow z k) (zrow z k) := by
  cases z with
  | agg xs =>
    refine ⟨rfl, fun i x y hx hy => ?_⟩
    rw [hx] at hy; cases hy
    simp only [zrow, List.getElem?_map] at hx
    cases hr : (List.range k)[i]? with
    | none => rw [hr] at hx; cases hx
    | some j =>
      rw [hr] at hx
      simp only [Option.map_some, Option.some.injEq] at hx
      subst hx
      by_cases hj : j % xs.size < xs.size
      · rw [getElem!_pos xs _ hj]
        exact .same 3 _ (all_at h (Array.getElem?_eq_getElem hj))
      · rw [getElem!_neg xs _ hj]
        exact .same 1 _ rfl
  | _ =>
    refine LR.of_af (k := 4) ?_
    simp only [zrow, List.all_eq_true]
    intro x hx
    rw [(List.mem_replicate.1 hx).2]
    exact h

def buildSliceA (P : Program) (M : Mem) (t : TypeId) (len : Nat) (parts : List (Nat × Value)) : Option (Value × Mem) := match P.underlying t with
  | some (.slice e) => match sizeA P e with
    | some n => match zeroOf P e with
      | some z => bif Nat.ble 1 (len * n) && Nat.ble (len * n) 16777216 then
          match fillA (fun i => some (i * n, n)) (zrow z (len * n)) parts with
          | some cs => some (.slice (some ⟨64 * M.next, 0, none⟩) len len, M.new cs)
          | none => none
        else none
      | none => none
    | none => none
  | _ => none
theorem buildSlice_sound {P : Program} {r : Nat → Option (Nat × Nat)} {M M' : Mem} {w : World} {v : Value} (hM : MR r M w) (t : TypeId) (len : Nat) {ps : List (Nat × Value)} {ps' : Array (Nat × Value)} (hp : PR r ps ps'.toList) (h : buildSliceA P M t len ps = some (v, M')) :
    ∃ r' v' w', (Instr.buildSlice t len ps').run P w = .ok v' w' ∧ VR r' v v' ∧ MR r' M' w' ∧ Stp r M w r' M' w' := by
  unfold buildSliceA at h
  split at h
  case h_2 => cases h
  rename_i e hu
  cases hn : sizeA P e with
  | none => rw [hn] at h; cases h
  | some n =>
    rw [hn] at h
    simp only at h
    cases hz : zeroOf P e with
    | none => rw [hz] at h; cases h
    | some z =>
      rw [hz] at h
      simp only at h
      obtain ⟨ha, hzr⟩ := zeroOf_run hz
      generalize hc : (Nat.ble 1 (len * n) && Nat.ble (len * n) 16777216) = c at h
      cases c with
      | false => cases h
      | true =>
        simp only [cond_true] at h
        simp only [Bool.and_eq_true] at hc
        have h1 := Nat.le_of_ble_eq_true hc.1
        have h2 := Nat.le_of_ble_eq_true hc.2
        cases hf : fillA (fun i => some (i * n, n)) (zrow z (len * n)) ps with
        | none => rw [hf] at h; cases h
        | some cs =>
          rw [hf] at h; cases h
          have hzl : LR r (zrow z (len * n)) ((Array.range (len * n)).map (z.cells[· % z.cells.size]!)).toList := by rw [zrow_eq]; exact zrow_rel r ha _
          obtain ⟨rc, h3, h4⟩ := fill_sound hp hzl hf
          obtain ⟨r', w', h5, h6, h7, h8⟩ := new_var_sound (P := P) hM e h4
          refine ⟨r', .slice (some ⟨w.heap.size, 0, none⟩) len len, w', ?_, .slice _ _ _ _ _ _ h6 (Nat.le_refl _) (.inl rfl), h7, h8⟩
          have g1 : ¬ (len * n > 16777216) := by omega
          have g2 : ¬ (len * n = 0) := by omega
          simp [Instr.buildSlice, underlying, hu, sizeA_run hn, g1, hzr, h3, h5]
          intro h0
          exact absurd h0 g2

def makeSliceA (P : Program) (M : Mem) (t : TypeId) (l c : Value) : Option (Value × Mem) := match l, c with
  | .int _ l, .int _ c => match P.underlying t with
    | some (.slice e) => match P.info? e with
      | some i => match zeroOf P e with
        | some z => bif decide (0 ≤ l) && (decide (l ≤ c) && (Nat.ble (i.bytes * c.toNat) 281474976710656 && decide (c ≤ 9223372036854775807))) then
            some (.slice (some ⟨64 * M.next, 0, none⟩) l.toNat c.toNat, M.new (zrow z (c.toNat * i.size)))
          else none
        | none => none
      | none => none
    | _ => none
  | _, _ => none
theorem makeSlice_sound {P : Program} {r : Nat → Option (Nat × Nat)} {M M' : Mem} {w : World} {v l l' c c' : Value} (hM : MR r M w) (t : TypeId) (hl : VR r l l') (hc : VR r c c') (h : makeSliceA P M t l c = some (v, M')) :
    ∃ r' v' w', (Instr.makeSlice t l' c').run P w = .ok v' w' ∧ VR r' v v' ∧ MR r' M' w' ∧ Stp r M w r' M' w' := by
  unfold makeSliceA at h
  split at h
  case h_2 => cases h
  rename_i kl l kc c
  have := hl.int; subst this
  have := hc.int; subst this
  split at h
  case h_2 => cases h
  rename_i e hu
  cases hi : P.info? e with
  | none => rw [hi] at h; cases h
  | some i =>
    rw [hi] at h
    simp only at h
    cases hz : zeroOf P e with
    | none => rw [hz] at h; cases h
    | some z =>
      rw [hz] at h
      simp only at h
      have hz' := hz
      unfold zeroOf at hz'
      rw [hi] at hz'
      simp only at hz'
      obtain ⟨ha, _⟩ := zeroOf_run hz
      have hiz : i.zero = some z := by
        cases hq : i.zero with
        | none => rw [hq] at hz'; cases hz'
        | some u =>
          rw [hq] at hz'
          simp only at hz'
          cases hb : af 4 u with
          | false => rw [hb] at hz'; cases hz'
          | true => rw [hb] at hz'; cases hz'; rfl
      generalize hcc : (decide (0 ≤ l) && (decide (l ≤ c) && (Nat.ble (i.bytes * c.toNat) 281474976710656 && decide (c ≤ 9223372036854775807)))) = d at h
      cases d with
      | false => cases h
      | true =>
        rw [cond_true] at h
        cases h
        simp only [Bool.and_eq_true, decide_eq_true_eq] at hcc
        obtain ⟨c1, c2, c3, c4⟩ := hcc
        have c3' := Nat.le_of_ble_eq_true c3
        have hbytes : (i.bytes : Int) * c ≤ 281474976710656 := by
          have e1 : ((c.toNat : Nat) : Int) = c := Int.toNat_of_nonneg (by omega)
          have e2 : ((i.bytes * c.toNat : Nat) : Int) ≤ ((281474976710656 : Nat) : Int) := Int.ofNat_le.2 c3'
          rw [Int.natCast_mul, e1] at e2
          omega
        have hrun := run_make (P := P) w t e i z hu hi hiz kl kc l c c1 c2 hbytes c4
        have hrel : LR r (zrow z (c.toNat * i.size)) (madeCells z.cells (c.toNat * i.size)).toList := by
          unfold madeCells; rw [zrow_eq]; exact zrow_rel r ha _
        obtain ⟨r', w', h5, h6, h7, h8⟩ := new_var_sound (P := P) hM e hrel
        have hw : w' = w.alloc (.cells (madeCells z.cells (c.toNat * i.size)) e) := by
          simp [newRow] at h5; exact h5.symm
        subst hw
        exact ⟨r', _, _, hrun, .slice _ _ _ _ _ _ h6 (Nat.le_refl _) (.inl rfl), h7, h8⟩

/-! ### Octets to a text. -/
def octets : List Value → Option (List Int)
  | [] => some []
  | .int .u8 n :: r => match octets r with
    | some q => some (n :: q)
    | none => none
  | _ => none
theorem octets_sound {r : Nat → Option (Nat × Nat)} : ∀ {xs ys : List Value} {ns : List Int}, octets xs = some ns → LR r xs ys → ys = ns.map (Value.int .u8)
  | [], ys, ns, h, hr => by
    cases h
    cases ys with
    | nil => rfl
    | cons y ys => exact absurd hr.1 (by simp)
  | x :: xs, ys, ns, h, hr => by
    cases ys with
    | nil => exact absurd hr.1 (by simp)
    | cons y ys =>
      unfold octets at h
      split at h
      case h_1 => rename_i e; cases e
      case h_3 => cases h
      rename_i n q e
      cases e
      split at h
      case h_2 => cases h
      rename_i q' hq
      cases h
      rw [octets_sound hq hr.tail, hr.head.int]
      rfl
def textA (M : Mem) (x : Value) : Option Value := match x with
  | .slice (some a) n _ => match look M.bl a.block with
    | some cs => bif Nat.ble (a.off + n) cs.length then match octets ((cs.drop a.off).take n) with
      | some ns => some (.string (ns.foldl (fun r n => r.push (UInt8.ofNat n.toNat)) ByteArray.empty))
      | none => none
      else none
    | none => none
  | _ => none
theorem text_sound {P : Program} {r : Nat → Option (Nat × Nat)} {M : Mem} {w : World} {v x x' : Value} (hM : MR r M w) (hx : VR r x x') (h : textA M x = some v) : (Conv.bytesToString x').run P w = .ok v w := by
  unfold textA at h
  split at h
  case h_2 => cases h
  rename_i a n c
  obtain ⟨hs, g, c', hg, hcap, ht, rfl⟩ := hx.of_slice
  cases hl : look M.bl a.block with
  | none => rw [hl] at h; cases h
  | some cs =>
    rw [hl] at h
    simp only at h
    cases hle : Nat.ble (a.off + n) cs.length with
    | false => rw [hle] at h; cases h
    | true =>
      rw [hle] at h
      simp only [cond_true] at h
      cases ho : octets ((cs.drop a.off).take n) with
      | none => rw [ho] at h; cases h
      | some ns =>
        rw [ho] at h
        cases h
        obtain ⟨ys, _, h2, h3⟩ := cells_sound hM hl hg (Nat.le_of_ble_eq_true hle)
        have := octets_sound ho h3
        subst this
        exact run_bytesToString w _ n c' ns (h2 P)
theorem textA_string {M : Mem} {v x : Value} (h : textA M x = some v) : ∃ s, v = .string s := by
  unfold textA at h
  split at h
  case h_2 => cases h
  rename_i a n c
  cases hl : look M.bl a.block with
  | none => rw [hl] at h; cases h
  | some cs =>
    rw [hl] at h
    simp only at h
    cases hle : Nat.ble (a.off + n) cs.length with
    | false => rw [hle] at h; cases h
    | true =>
      rw [hle] at h
      simp only [cond_true] at h
      cases ho : octets ((cs.drop a.off).take n) with
      | none => rw [ho] at h; cases h
      | some ns => rw [ho] at h; cases h; exact ⟨_, rfl⟩
def convertA (P : Program) (M : Mem) (s d : TypeId) (x : Value) : Option Value := match P.underlying s with
  | some (.slice e) => match P.underlying d with
    | some .string => match P.underlying e with
      | some (.int .u8) => textA M x
      | _ => none
    | _ => none
  | _ => none
theorem convert_sound {P : Program} {r : Nat → Option (Nat × Nat)} {M : Mem} {w : World} {v x x' : Value} (hM : MR r M w) (s d : TypeId) (hx : VR r x x') (h : convertA P M s d x = some v) : (convert s d x').run P w = .ok v w ∧ VR r v v := by
  unfold convertA at h
  split at h
  case h_2 => cases h
  rename_i e hs
  split at h
  case h_2 => cases h
  rename_i hd
  split at h
  case h_2 => cases h
  rename_i he
  have h2 := text_sound (P := P) hM hx h
  obtain ⟨s0, rfl⟩ := textA_string h
  have hv : VR r (.string s0) (.string s0) := .same 1 _ rfl
  refine ⟨?_, hv⟩
  unfold textA at h
  split at h
  case h_2 => cases h
  rename_i a n c
  obtain ⟨_, g, c', hg, hcap, ht, rfl⟩ := hx.of_slice
  rw [← h2]
  exact run_convert_bytes_string w s d e _ n c' hs he hd
end Ev
end Go.Proofs.YtccjmmdppjialaaGreatDoor
