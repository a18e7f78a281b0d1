/- The evaluator, G: append. -/
import Derived.Test.YtccjmmdppjialaaGreatDoorEvF
namespace Go.Proofs.YtccjmmdppjialaaGreatDoor
open Go.RowKit
namespace Ev

/-- A slice's cells, all of one cell: what is appended. -/
def srcA (M : Mem) (n : Nat) (x : Value) : Option (Nat × List Value) := match x with
  | .slice (some b) m _ => match look M.bl b.block with
    | some cs => bif Nat.ble (b.off + m * n) cs.length && ((cs.drop b.off).take (m * n)).all (·.oneCell') then some (m, (cs.drop b.off).take (m * n)) else none
    | none => none
  | _ => none
theorem src_sound {r : Nat → Option (Nat × Nat)} {M : Mem} {w : World} (hM : MR r M w) {n m : Nat} {x x' : Value} {xs : List Value} (hx : VR r x x') (h : srcA M n x = some (m, xs)) :
    ∃ (a : Addr) (c : Nat) (ys : List Value), x' = .slice (some a) m c ∧ ys.length = m * n ∧ xs.length = m * n ∧ (∀ (j : Nat) v, ys[j]? = some v → w.cell? (a.add j) = some v) ∧ LR r xs ys ∧ ∀ u ∈ ys, u.oneCell' = true := by
  unfold srcA at h
  split at h
  case h_2 => cases h
  rename_i b m' c
  obtain ⟨hs, g, c', hg, hcap, ht, rfl⟩ := hx.of_slice
  cases hl : look M.bl b.block with
  | none => rw [hl] at h; cases h
  | some cs =>
    rw [hl] at h
    simp only at h
    generalize hc : (Nat.ble (b.off + m' * n) cs.length && ((cs.drop b.off).take (m' * n)).all (·.oneCell')) = d at h
    cases d with
    | false => cases h
    | true =>
      cases h
      simp only [Bool.and_eq_true] at hc
      obtain ⟨ys, h1, h2, h3⟩ := cells_at hM hl hg (Nat.le_of_ble_eq_true hc.1)
      refine ⟨_, c', ys, rfl, h1, by rw [h3.1, h1], h2, h3, fun v hv => ?_⟩
      obtain ⟨j, hj⟩ := List.mem_iff_getElem?.1 hv
      have hjl : j < ((cs.drop b.off).take (m * n)).length := by
        rcases Nat.lt_or_ge j ys.length with h | h
        · rw [h3.1]; exact h
        · rw [List.getElem?_eq_none h] at hj; cases hj
      exact oneCell_of (h3.2 j _ _ (List.getElem?_eq_getElem hjl) hj) (List.all_eq_true.1 hc.2 _ (List.getElem_mem hjl))

def appendA (P : Program) (M : Mem) (t : TypeId) (s x : Value) : Option (Value × Mem) := match P.underlying t with
  | some (.slice e) => match P.info? e with
    | some i => match zeroOf P e with
      | some z => bif Nat.beq z.cells.size i.size && (Nat.ble 1 i.size && Nat.ble i.size 62) then
        match srcA M i.size x with
        | some (m, xs) => match s with
          | .slice none 0 0 => bif Nat.ble 1 m && Nat.ble (m * i.bytes) 140737488355328 && Nat.ble m 9223372036854775807 then
              some (.slice (some ⟨64 * M.next + i.size, 0, none⟩) m m, M.newZ i.size xs) else none
          | .slice (some a) k c => match look M.bl a.block with
            | some cs =>
              bif Nat.ble (k * i.size) cs.length && (Nat.ble ((k + m) * i.bytes) 140737488355328 && (Nat.ble (k + m) 9223372036854775807 && Nat.beq a.off 0)) then
                bif Nat.ble (k + m) c then
                  bif Nat.ble M.lo a.block && Nat.ble (k * i.size + xs.length) cs.length then
                    some (.slice (some ⟨a.block, 0, none⟩) (k + m) c, { M with bl := upd M.bl a.block (putRow cs (k * i.size) xs) }) else none
                else bif Nat.beq (a.block % 64) 0 then
                  some (.slice (some ⟨64 * M.next + i.size, 0, none⟩) (k + m) (k + m), M.newZ i.size (cs.take (k * i.size) ++ xs))
                else bif Nat.ble M.lo a.block && Nat.beq (a.block % 64) i.size then
                  some (.slice (some ⟨64 * M.next + i.size, 0, none⟩) (k + m) (k + m), { M with next := M.next + 1, bl := (64 * M.next + i.size, cs.take (k * i.size) ++ xs) :: kill M.bl a.block })
                else none
              else none
            | none => none
          | _ => none
        | none => none
        else none
      | none => none
    | none => none
  | _ => none

theorem zeroOf_info {P : Program} {e : TypeId} {i : TypeInfo} {z : Value} (hi : P.info? e = some i) (hz : zeroOf P e = some z) : i.zero = some z := by
  unfold zeroOf at hz
  rw [hi] at hz
  simp only at hz
  cases hq : i.zero with
  | none => rw [hq] at hz; cases hz
  | some u =>
    rw [hq] at hz
    simp only at hz
    cases hb : af 4 u with
    | false => rw [hb] at hz; cases hz
    | true => rw [hb] at hz; cases hz; rfl

theorem kill_sub (bl : List (Nat × List Value)) (b k : Nat) (ds : List Value) : ∀ i cs, look ((k, ds) :: kill bl b) i = some cs → look ((k, ds) :: bl) i = some cs ∨ (k ≠ i ∧ b = i) := fun i cs h => by
  rw [look_cons] at h ⊢
  by_cases hk : k = i
  · rw [if_pos hk] at h ⊢; exact .inl h
  · rw [if_neg hk] at h ⊢
    rw [look_kill] at h
    split at h
    · cases h
    · exact .inl h

/-- What the model's append does with a source of its own cells: there is room, or a new row is made. -/
theorem append_sound {P : Program} {r : Nat → Option (Nat × Nat)} {M M' : Mem} {w : World} {v s s' x x' : Value} (hM : MR r M w) (t ty : TypeId) (hs : VR r s s') (hx : VR r x x') (h : appendA P M t s x = some (v, M')) :
    ∃ r' v' w', (Builtin.append_ #[t, t] ty #[s', x']).run P w = .ok v' w' ∧ VR r' v v' ∧ MR r' M' w' ∧ Stp r M w r' M' w' := by
  unfold appendA at h
  split at h
  case h_2 => cases h
  rename_i e hu
  cases hi : P.info? e with
  | none => rw [hi] at h; cases h
  | some i =>
    rw [hi] at h
    simp only at h
    cases hz : zeroOf P e with
    | none => rw [hz] at h; cases h
    | some z =>
      rw [hz] at h
      simp only at h
      have hiz := zeroOf_info hi hz
      generalize hc : (Nat.beq z.cells.size i.size && (Nat.ble 1 i.size && Nat.ble i.size 62)) = d at h
      cases d with
      | false => cases h
      | true =>
        simp only [cond_true] at h
        simp only [Bool.and_eq_true] at hc
        have hzs : z.cells.size = i.size := Nat.eq_of_beq_eq_true hc.1
        have hn1 : 1 ≤ i.size := Nat.le_of_ble_eq_true hc.2.1
        have hn2 : i.size ≤ 62 := Nat.le_of_ble_eq_true hc.2.2
        cases hsrc : srcA M i.size x with
        | none => rw [hsrc] at h; cases h
        | some mx =>
          obtain ⟨m, xs⟩ := mx
          rw [hsrc] at h
          simp only at h
          obtain ⟨ax, cx, ys, rfl, hyl, hxl, hyc, hrel, hone⟩ := src_sound hM hx hsrc
          have hsz : ∀ k, (Builtin.zeroCells z.cells k).size = k * i.size := fun k => by rw [size_zeroCells, hzs]
          have tagof : (64 * M.next + i.size) % 64 = i.size := by omega
          -- the row that a growing append makes
          have grown : ∀ (cs ds : List Value) (cap : Nat) (need old : Nat) (w1 : World), w1 = w.drew.alloc (.cells (ds.toArray ++ Builtin.zeroCells z.cells (cap - need)) e) → ds.length = need * i.size → need ≤ cap → LR r cs ds →
              MR (more r (64 * M.next + i.size) (w.heap.size, cap * i.size)) (M.newZ i.size cs) w1 ∧ Stp r M w (more r (64 * M.next + i.size) (w.heap.size, cap * i.size)) (M.newZ i.size cs) w1 := by
            intro cs ds cap need old w1 hw1 hdl hle hr
            subst hw1
            refine new_sound (t := e) (cc := ds.toArray ++ Builtin.zeroCells z.cells (cap - need)) hM i.size (cap * i.size) (by omega) (fun _ => ?_) (hr.of_cells ⟨(Builtin.zeroCells z.cells (cap - need)).toList, by simp⟩) rfl rfl rfl rfl
            rw [Array.size_append, hsz]
            simp only [List.size_toArray, hdl]
            rw [← Nat.add_mul]
            congr 1
            omega
          split at h
          case h_3 => cases h
          · -- nil
            have := hs.eq (k := 1) rfl
            subst this
            generalize hcc : (Nat.ble 1 m && Nat.ble (m * i.bytes) 140737488355328 && Nat.ble m 9223372036854775807) = d at h
            cases d with
            | false => cases h
            | true =>
              cases h
              simp only [Bool.and_eq_true] at hcc
              have b1 := Nat.le_of_ble_eq_true hcc.1.1
              have b2 := Nat.le_of_ble_eq_true hcc.1.2
              have b3 := Nat.le_of_ble_eq_true hcc.2
              have hrun := run_append_nil (P := P) w t ty e i z hu hi hiz ax m cx ys hyl hyc b1 (by omega) (by omega)
              have hge := grownCap_ge w m 0 e
              obtain ⟨g1, g2⟩ := grown xs ys (grownCap w m 0 e) m 0 _ rfl hyl hge hrel
              exact ⟨_, _, _, hrun, .slice _ _ _ _ _ _ (more_self r _ _) hge (.inr (.inl ⟨by omega, by rw [tagof]; simp⟩)), g1, g2⟩
          · rename_i a k c
            obtain ⟨_, g, c', hg, hcap, ht, rfl⟩ := hs.of_slice
            cases hl : look M.bl a.block with
            | none => rw [hl] at h; cases h
            | some cs =>
              rw [hl] at h
              simp only at h
              generalize hcc : (Nat.ble (k * i.size) cs.length && (Nat.ble ((k + m) * i.bytes) 140737488355328 && (Nat.ble (k + m) 9223372036854775807 && Nat.beq a.off 0))) = d at h
              cases d with
              | false => cases h
              | true =>
                simp only [cond_true] at h
                simp only [Bool.and_eq_true] at hcc
                have b1 := Nat.le_of_ble_eq_true hcc.1
                have b2 := Nat.le_of_ble_eq_true hcc.2.1
                have b3 := Nat.le_of_ble_eq_true hcc.2.2.1
                have b4 : a.off = 0 := Nat.eq_of_beq_eq_true hcc.2.2.2
                rw [b4] at ht ⊢
                obtain ⟨g', te, cc, e1, hheap, htop, hcells⟩ := hM.blk a.block cs hl
                rw [hg] at e1; cases e1
                have hlen : ∀ j, j < cs.length → j < cc.size := fun j hj => by
                  obtain ⟨v', h4, _⟩ := hcells j cs[j] (List.getElem?_eq_getElem hj)
                  exact (Array.getElem?_eq_some_iff.1 h4).1
                have hcc' : cs.length ≤ cc.size := by
                  rcases Nat.eq_zero_or_pos cs.length with h0 | h0
                  · omega
                  · have := hlen (cs.length - 1) (by omega); omega
                obtain ⟨os, hol, hoc, horel⟩ := cells_at (o := 0) (n := k * i.size) hM hl hg (by omega)
                rw [List.drop_zero] at horel
                -- room in place: the model's run
                have inplace : k + m ≤ c' → k * i.size + ys.length ≤ cc.size → (Builtin.append_ #[t, t] ty #[.slice (some ⟨g.1, 0, none⟩) k c', .slice (some ax) m cx]).run P w =
                    .ok (.slice (some ⟨g.1, 0, none⟩) (k + m) c') (w.setRow g.1 (cc.toList.take (k * i.size) ++ ys ++ cc.toList.drop (k * i.size + ys.length)).toArray) := fun hroom hfit => by
                  have hf := run_firstCells_some (P := P) w i.size m ax m cx ys hyl hyc
                  have hst := run_storeCells_at P g.1 (k * i.size) te ys 0 cc w hheap (by simpa using hfit) hone
                  simp only [Nat.add_zero] at hst
                  simp [Builtin.append_, run_underlying hu, Go.sizeOf, typeInfo, hi, Builtin.lenOf, hroom, hf, Addr.add_lit, hst]
                have grows : c' < k + m → (Builtin.append_ #[t, t] ty #[.slice (some ⟨g.1, 0, none⟩) k c', .slice (some ax) m cx]).run P w =
                    .ok (.slice (some ⟨w.heap.size, 0, none⟩) (k + m) (grownCap w (k + m) c' e)) (w.drew.alloc (.cells (os.toArray ++ ys.toArray ++ Builtin.zeroCells z.cells (grownCap w (k + m) c' e - (k + m))) e)) := fun hlt =>
                  run_append_grow (P := P) w t ty e i z hu hi hiz ⟨g.1, 0, none⟩ k c' os hol hoc ax m cx ys hyl hyc hlt (by omega) (growslice_fits hlt b2)
                have hnew : ∀ cap, k + m ≤ cap → MR (more r (64 * M.next + i.size) (w.heap.size, cap * i.size)) (M.newZ i.size (cs.take (k * i.size) ++ xs)) (w.drew.alloc (.cells (os.toArray ++ ys.toArray ++ Builtin.zeroCells z.cells (cap - (k + m))) e)) ∧
                    Stp r M w (more r (64 * M.next + i.size) (w.heap.size, cap * i.size)) (M.newZ i.size (cs.take (k * i.size) ++ xs)) (w.drew.alloc (.cells (os.toArray ++ ys.toArray ++ Builtin.zeroCells z.cells (cap - (k + m))) e)) := fun cap hcap' => by
                  refine grown (cs.take (k * i.size) ++ xs) (os ++ ys) cap (k + m) 0 _ ?_ ?_ hcap' (horel.append hrel)
                  · congr 2; simp
                  · rw [List.length_append, hol, hyl, Nat.add_mul]
                cases hroom : Nat.ble (k + m) c with
                | true =>
                  rw [hroom] at h
                  simp only [cond_true] at h
                  have hr' := Nat.le_of_ble_eq_true hroom
                  generalize hd : (Nat.ble M.lo a.block && Nat.ble (k * i.size + xs.length) cs.length) = d at h
                  cases d with
                  | false => cases h
                  | true =>
                    cases h
                    simp only [Bool.and_eq_true] at hd
                    have d1 := Nat.le_of_ble_eq_true hd.1
                    have d2 := Nat.le_of_ble_eq_true hd.2
                    have hrun := inplace (by omega) (by rw [hyl, ← hxl]; omega)
                    have hpr : LR r (putRow cs (k * i.size) xs) ((putRow (cc.toList.take cs.length) (k * i.size) ys)) := by
                      refine putRow_rel ⟨by simp; omega, fun j x y hx hy => ?_⟩ hrel _
                      obtain ⟨v', h4, h5⟩ := hcells j x hx
                      rw [List.getElem?_take] at hy
                      split at hy
                      · have : cc[j]? = some y := by simpa using hy
                        rw [h4] at this; cases this; exact h5
                      · cases hy
                    have hrs := row_sound (w' := w.setRow g.1 (cc.toList.take (k * i.size) ++ ys ++ cc.toList.drop (k * i.size + ys.length)).toArray) (t := te) (ds := putRow cs (k * i.size) xs) hM d1 hl hg (fun h0 => by
                        have := htop h0
                        simp only [List.size_toArray, List.length_append, List.length_take, List.length_drop, Array.length_toList]
                        omega) (hpr.of_cells ⟨cc.toList.drop cs.length, by
                          simp only [putRow]
                          have q1 : List.take (k * i.size) (List.take cs.length cc.toList) = List.take (k * i.size) cc.toList := by rw [List.take_take]; congr 1; omega
                          rw [q1, List.append_assoc _ (List.drop _ _) _]
                          congr 1
                          rw [hyl, ← hxl, List.drop_take]
                          have q2 : List.drop cs.length cc.toList = List.drop (cs.length - (k * i.size + xs.length)) (List.drop (k * i.size + xs.length) cc.toList) := by rw [List.drop_drop]; congr 1; omega
                          rw [q2, List.take_append_drop]⟩)
                        (setRow_heap w g.1 cc _ te _ hheap) (fun k hk => setRow_other w g.1 k _ hk) (setRow_size ..) rfl rfl rfl
                    exact ⟨r, _, _, hrun, .slice _ _ _ _ _ _ hg hcap ht, hrs.1, hrs.2⟩
                | false =>
                  rw [hroom] at h
                  simp only [cond_false] at h
                  have hr' : c < k + m := by
                    rcases Nat.lt_or_ge c (k + m) with q | q
                    · exact q
                    · rw [Nat.ble_eq_true_of_le q] at hroom; cases hroom
                  cases htag : Nat.beq (a.block % 64) 0 with
                  | true =>
                    rw [htag] at h
                    simp only [cond_true] at h
                    cases h
                    have ht0 : a.block % 64 = 0 := Nat.eq_of_beq_eq_true htag
                    have hcc1 : c' = c := by rcases ht with q | q | q; exact q; omega; omega
                    have hge := grownCap_ge w (k + m) c' e
                    obtain ⟨g1, g2⟩ := hnew _ hge
                    exact ⟨_, _, _, grows (by omega), .slice _ _ _ _ _ _ (more_self r _ _) hge (.inr (.inl ⟨by omega, by rw [tagof]; simp⟩)), g1, g2⟩
                  | false =>
                    rw [htag] at h
                    simp only [cond_false] at h
                    generalize hd : (Nat.ble M.lo a.block && Nat.beq (a.block % 64) i.size) = d at h
                    cases d with
                    | false => cases h
                    | true =>
                      cases h
                      simp only [Bool.and_eq_true] at hd
                      have d1 := Nat.le_of_ble_eq_true hd.1
                      have d2 : a.block % 64 = i.size := Nat.eq_of_beq_eq_true hd.2
                      rcases Nat.lt_or_ge c' (k + m) with q | q
                      · have hge := grownCap_ge w (k + m) c' e
                        obtain ⟨g1, g2⟩ := hnew _ hge
                        have hsub : ∀ i' cs', look ((64 * M.next + i.size, cs.take (k * i.size) ++ xs) :: kill M.bl a.block) i' = some cs' → look (M.newZ i.size (cs.take (k * i.size) ++ xs)).bl i' = some cs' := fun i' cs' hh => by
                          rcases kill_sub _ _ _ _ i' cs' hh with q | ⟨q1, q2⟩
                          · exact q
                          · rw [look_cons, if_neg q1, look_kill, if_pos q2] at hh; cases hh
                        exact ⟨_, _, _, grows q, .slice _ _ _ _ _ _ (more_self r _ _) hge (.inr (.inl ⟨by omega, by rw [tagof]; simp⟩)), g1.sub hsub (glob_kill hM _ _ d1), g2.fewer hsub⟩
                      · have htt : 0 + c' * (a.block % 64) = g.2 := by
                          rcases ht with q' | q' | q'
                          · omega
                          · exact q'.2
                          · omega
                        have hsize : cc.size = g.2 := htop (by omega)
                        have hfit : k * i.size + ys.length ≤ cc.size := by
                          rw [hsize, ← htt, d2, hyl, ← Nat.add_mul, Nat.zero_add]
                          exact Nat.mul_le_mul_right _ q
                        have hrun := inplace q hfit
                        have hcel : ∀ (j : Nat) v, (cs.take (k * i.size) ++ xs)[j]? = some v → ∃ v', (cc.toList.take (k * i.size) ++ ys ++ cc.toList.drop (k * i.size + ys.length)).toArray[j]? = some v' ∧ VR r v v' := by
                          refine LR.of_cells (ys := os ++ ys) (horel.append hrel) ⟨cc.toList.drop (k * i.size + ys.length), ?_⟩
                          have : os = cc.toList.take (k * i.size) := by
                            refine List.ext_getElem? fun j => ?_
                            rcases Nat.lt_or_ge j (k * i.size) with hj | hj
                            · have hj2 : j < os.length := by omega
                              have := hoc j os[j] (List.getElem?_eq_getElem hj2)
                              rw [add_at, Nat.zero_add, cell_of_row w g.1 j cc te (0, 0) hheap] at this
                              rw [List.getElem?_eq_getElem hj2, List.getElem?_take_of_lt hj]
                              simpa using this.symm
                            · rw [List.getElem?_eq_none (by omega), List.getElem?_take_eq_none hj]
                          rw [this]
                        have hov := over_sound (w' := w.setRow g.1 (cc.toList.take (k * i.size) ++ ys ++ cc.toList.drop (k * i.size + ys.length)).toArray) (t := te) hM i.size d1 hl hg (by omega) (fun _ => by
                            rw [← hsize]
                            simp only [List.size_toArray, List.length_append, List.length_take, List.length_drop, Array.length_toList]
                            omega) hcel (setRow_heap w g.1 cc _ te _ hheap) (fun k hk => setRow_other w g.1 k _ hk) (setRow_size ..) rfl rfl rfl
                        exact ⟨_, _, _, hrun, .slice _ _ _ _ _ _ (more_self r _ _) q (.inr (.inl ⟨by omega, by rw [tagof, ← d2]; exact htt⟩)), hov.1, hov.2⟩
end Ev
end Go.Proofs.YtccjmmdppjialaaGreatDoor
