/- The evaluator, E: structs, arrays and slices built, slices made, append, len, octets to a text. -/
import Derived.Test.YtccjmmdppjialaaGreatDoorEvD
import Derived.Laws.MakeOwn
import Derived.Laws.AppendOwn
namespace Go.Proofs.YtccjmmdppjialaaGreatDoor
open Go.RowKit
namespace Ev

/-! ### Rows filled. -/
def putRow (cs : List Value) (o : Nat) (xs : List Value) : List Value := cs.take o ++ xs ++ cs.drop (o + xs.length)
theorem putRow_rel {r : Nat → Option (Nat × Nat)} {cs cs' xs xs' : List Value} (h : LR r cs cs') (hx : LR r xs xs') (o : Nat) : LR r (putRow cs o xs) (putRow cs' o xs') := by
  unfold putRow
  rw [← hx.1]
  exact ((h.take o).append hx).append (h.drop _)
theorem foldl_set (off : Nat) : ∀ (xs : List Value) (k : Nat) (cs : Array Value), off + k + xs.length ≤ cs.size →
    (((xs.zipIdx k).foldl (fun cs p => cs.setIfInBounds (off + p.2) p.1) cs)).toList = cs.toList.take (off + k) ++ xs ++ cs.toList.drop (off + k + xs.length)
  | [], k, cs, _ => by simp
  | x :: xs, k, cs, h => by
    simp only [List.length_cons] at h
    rw [List.zipIdx_cons, List.foldl_cons, foldl_set off xs (k + 1) _ (by simp; omega)]
    simp only [Array.toList_setIfInBounds]
    apply List.ext_getElem?
    intro j
    have hlen : cs.toList.length = cs.size := by simp
    simp only [List.append_assoc, List.getElem?_append, List.length_take, List.length_set, List.getElem?_take, List.getElem?_set, List.getElem?_drop, List.length_cons, List.cons_append, List.getElem?_cons, hlen]
    repeat' split
    all_goals first
      | rfl
      | omega
      | (simp_all; done)
      | (congr 1; omega)
      | skip

def fillA (place : Nat → Option (Nat × Nat)) (cells : List Value) : List (Nat × Value) → Option (List Value)
  | [] => some cells
  | p :: rest => match place p.1 with
    | none => none
    | some q => bif Nat.beq (cellsOf' p.2).length q.2 && Nat.ble (q.1 + (cellsOf' p.2).length) cells.length then fillA place (putRow cells q.1 (cellsOf' p.2)) rest else none
def PR (r : Nat → Option (Nat × Nat)) : List (Nat × Value) → List (Nat × Value) → Prop
  | [], [] => True
  | p :: ps, q :: qs => p.1 = q.1 ∧ VR r p.2 q.2 ∧ PR r ps qs
  | _, _ => False
theorem fill_sound {r : Nat → Option (Nat × Nat)} {place : Nat → Option (Nat × Nat)} : ∀ {ps ps' : List (Nat × Value)} {cs rs : List Value} {cc : Array Value}, PR r ps ps' → LR r cs cc.toList → fillA place cs ps = some rs →
    ∃ rc, Instr.fill place cc ps' = some rc ∧ LR r rs rc.toList
  | [], [], cs, rs, cc, _, hc, h => by cases h; exact ⟨cc, rfl, hc⟩
  | [], _ :: _, _, _, _, hp, _, _ => hp.elim
  | _ :: _, [], _, _, _, hp, _, _ => hp.elim
  | (i, v) :: ps, (j, v') :: ps', cs, rs, cc, hp, hc, h => by
    obtain ⟨e, hv, hps⟩ := hp
    simp only at e hv
    subst e
    simp only [fillA] at h
    simp only [Instr.fill]
    cases hq : place i with
    | none => rw [hq] at h; cases h
    | some q =>
      obtain ⟨off, size⟩ := q
      rw [hq] at h
      simp only at h
      generalize hb : (Nat.beq (cellsOf' v).length size && Nat.ble (off + (cellsOf' v).length) cs.length) = b at h
      cases b with
      | false => cases h
      | true =>
        simp only [cond_true] at h
        simp only [Bool.and_eq_true] at hb
        have hrel := cellsOf_rel hv
        have h1 : v'.cells.size = size := by
          have := hrel.1
          rw [Nat.eq_of_beq_eq_true hb.1] at this
          simpa using this.symm
        have h2 : off + v'.cells.size ≤ cc.size := by
          have h3 := Nat.le_of_ble_eq_true hb.2
          have h4 := hrel.1
          have h5 := hc.1
          simp only [Array.length_toList] at h4 h5
          omega
        have hcond : (decide (v'.cells.size ≠ size) || decide (off + v'.cells.size > cc.size)) = false := by simp; omega
        have hfold : (Array.foldl (fun cs x => cs.setIfInBounds (off + x.2) x.1) cc v'.cells.zipIdx).toList = putRow cc.toList off v'.cells.toList := by
          have := foldl_set off v'.cells.toList 0 cc (by simpa using h2)
          rw [← Array.foldl_toList, Array.toList_zipIdx]
          simpa [putRow] using this
        obtain ⟨rc, h6, h7⟩ := fill_sound (cc := Array.foldl (fun cs x => cs.setIfInBounds (off + x.2) x.1) cc v'.cells.zipIdx) hps (by rw [hfold]; exact putRow_rel hc hrel off) h
        refine ⟨rc, ?_, h7⟩
        rw [← h6]
        simp only [hcond]
        rfl

def placesA (P : Program) : List Field → Option (List (Nat × Nat))
  | [] => some []
  | f :: fs => match sizeA P f.type with
    | some n => match placesA P fs with
      | some r => some ((f.offset, n) :: r)
      | none => none
    | none => none
theorem places_run {P : Program} {w : World} : ∀ {fs : List Field} {ps : List (Nat × Nat)}, placesA P fs = some ps → (fs.mapM fun f => (Prod.mk f.offset <$> Go.sizeOf f.type : Sem (Nat × Nat))).run P w = .ok ps w
  | [], ps, h => by cases h; rfl
  | f :: fs, ps, h => by
    simp only [placesA] at h
    cases hn : sizeA P f.type with
    | none => rw [hn] at h; cases h
    | some n =>
      rw [hn] at h
      simp only at h
      cases hr : placesA P fs with
      | none => rw [hr] at h; cases h
      | some q =>
        rw [hr] at h; cases h
        have ih := places_run (w := w) hr
        simp only [List.mapM_cons, Sem.run_bind, Sem.run_map, sizeA_run hn, Result.andThen_ok, Sem.run_pure, ih]

def buildA (P : Program) (t : TypeId) (parts : List (Nat × Value)) : Option Value := match zeroOf P t with
  | some z => match P.underlying t with
    | some (.struct fields) => match placesA P fields.toList with
      | some ps => match fillA (fun i => ps[i]?) (cellsOf' z) parts with
        | some cs => some (.agg cs.toArray)
        | none => none
      | none => none
    | some (.array _ e) => match sizeA P e with
      | some n => match fillA (fun i => some (i * n, n)) (cellsOf' z) parts with
        | some cs => some (.agg cs.toArray)
        | none => none
      | none => none
    | _ => none
  | none => none
theorem build_sound {P : Program} {r : Nat → Option (Nat × Nat)} {v : Value} (t : TypeId) {ps : List (Nat × Value)} {ps' : Array (Nat × Value)} (hp : PR r ps ps'.toList) (h : buildA P t ps = some v) :
    ∃ v', (∀ w, (Instr.build t ps').run P w = .ok v' w) ∧ VR r v v' := by
  unfold buildA at h
  cases hz : zeroOf P t with
  | none => rw [hz] at h; cases h
  | some z =>
    rw [hz] at h
    obtain ⟨ha, hzr⟩ := zeroOf_run hz
    have hzc := cellsOf_rel (.same (r := r) 4 z ha)
    simp only at h
    split at h
    case h_3 => cases h
    · rename_i fields hu
      cases hq : placesA P fields.toList with
      | none => rw [hq] at h; cases h
      | some q =>
        rw [hq] at h
        simp only at h
        cases hf : fillA (fun i => q[i]?) (cellsOf' z) ps with
        | none => rw [hf] at h; cases h
        | some cs =>
          rw [hf] at h; cases h
          obtain ⟨rc, h1, h2⟩ := fill_sound hp hzc hf
          have hpl : ∀ w, (fields.mapM fun f => (Prod.mk f.offset <$> Go.sizeOf f.type : Sem (Nat × Nat))).run P w = .ok q.toArray w := fun w => by
            rw [← Array.toArray_toList (xs := fields), List.mapM_toArray, Sem.run_map, places_run hq]
            rfl
          refine ⟨.agg rc, fun w => ?_, .agg _ _ (by simpa using h2.1) fun i x y hx hy => h2.2 i x y (by simpa using hx) (by simpa using hy)⟩
          simp [Instr.build, hzr, underlying, hu, hpl, h1]
    · rename_i n0 e hu
      cases hn : sizeA P e with
      | none => rw [hn] at h; cases h
      | some n =>
        rw [hn] at h
        simp only at h
        cases hf : fillA (fun i => some (i * n, n)) (cellsOf' z) ps with
        | none => rw [hf] at h; cases h
        | some cs =>
          rw [hf] at h; cases h
          obtain ⟨rc, h1, h2⟩ := fill_sound hp hzc hf
          refine ⟨.agg rc, fun w => ?_, .agg _ _ (by simpa using h2.1) fun i x y hx hy => h2.2 i x y (by simpa using hx) (by simpa using hy)⟩
          simp [Instr.build, hzr, underlying, hu, sizeA_run hn, h1]
end Ev
end Go.Proofs.YtccjmmdppjialaaGreatDoor
