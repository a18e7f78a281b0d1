/- The evaluator, J: operations that hang on no world, loads from blocks that stay as they are, and equality of abstract states: what a region that draws its order wants. -/
import Derived.Test.YtccjmmdppjialaaGreatDoorEvR
namespace Go.Proofs.YtccjmmdppjialaaGreatDoor
open Go.RowKit
namespace Ev

/-- An operation that hangs on no world. -/
def opW (P : Program) (env : Env) (o : Oper) : Option Value := match o.op with
  | .move x => ev env x
  | .assign x => ev env x
  | .pick c x y => match ev env c with
    | some (.bool t) => ev env (bif t then x else y)
    | _ => none
  | .fieldAddr s x f => match ev env x with
    | some v => fieldAddrA P s v f
    | none => none
  | .indexAddr t x ix => match ev env x with
    | some v => match ev env ix with
      | some i => indexAddrA P t v i
      | none => none
    | none => none
  | .field t x f => match ev env x with
    | some v => fieldA P t v f
    | none => none
  | .extract x i => match ev env x with
    | some v => extractA v i
    | none => none
  | .makeFunc fn first captured => bif isYield fn then none else match evs env first.toList with
    | some xs => match evs env captured.toList with
      | some us => some (.func fn xs.toArray us.toArray)
      | none => none
    | none => none
  | .slice t x lo hi mx => match ev env x with
    | some v => match evo env lo with
      | some l => match evo env hi with
        | some h => match evo env mx with
          | some m => sliceA P t v l h m
          | none => none
        | none => none
      | none => none
    | none => none
  | .build t parts => match evp env parts.toList with
    | some q => buildA P t q
    | none => none
  | .call c => match c.callee with
    | .builtin .len => match c.args.toList with
      | [x] => match c.argTypes.toList with
        | [t] => match ev env x with
          | some v => lenA P t v
          | none => none
        | _ => none
      | _ => none
    | _ => none
  | _ => none

theorem opW_sound {P : Program} {env : Env} {o : Oper} {v : Value} {r : Nat → Option (Nat × Nat)} {a : Act} (h : opW P env o = some v) (he : ER r env a.tmps) :
    ∃ v', (∀ w, (execOp a.eval o).run P w = .ok (.value v') w) ∧ VR r v v' := by
  obtain ⟨dst, op, ty, pos, after, guard⟩ := o
  cases op with
  | move x => exact ⟨_, fun w => rfl, ev_sound he h⟩
  | assign x => exact ⟨_, fun w => rfl, ev_sound he h⟩
  | pick c x y =>
    simp only [opW] at h
    split at h
    case h_2 => cases h
    rename_i t h1
    have hb := (ev_sound he h1).bool
    refine ⟨a.eval (bif t then x else y), fun w => ?_, ev_sound he h⟩
    cases t <;> simp [execOp, hb, asBool]
  | fieldAddr s x f =>
    simp only [opW] at h
    cases h0 : ev env x with
    | none => rw [h0] at h; cases h
    | some u =>
      rw [h0] at h
      obtain ⟨v', h2, h3⟩ := fieldAddr_sound s f (ev_sound he h0) h
      exact ⟨v', fun w => run_value (h2 w), h3⟩
  | indexAddr t x ix =>
    simp only [opW] at h
    cases h0 : ev env x with
    | none => rw [h0] at h; cases h
    | some u =>
      rw [h0] at h
      simp only at h
      cases h1 : ev env ix with
      | none => rw [h1] at h; cases h
      | some i =>
        rw [h1] at h
        obtain ⟨v', h3, h4⟩ := indexAddr_sound t (ev_sound he h0) (ev_sound he h1) h
        exact ⟨v', fun w => run_value (h3 w), h4⟩
  | field t x f =>
    simp only [opW] at h
    cases h0 : ev env x with
    | none => rw [h0] at h; cases h
    | some u =>
      rw [h0] at h
      obtain ⟨v', h2, h3⟩ := field_sound t f (ev_sound he h0) h
      exact ⟨v', fun w => run_value (h2 w), h3⟩
  | extract x i =>
    simp only [opW] at h
    cases h0 : ev env x with
    | none => rw [h0] at h; cases h
    | some u =>
      rw [h0] at h
      obtain ⟨v', h2, h3⟩ := extract_sound (P := P) i (ev_sound he h0) h
      exact ⟨v', fun w => run_value (h2 w), h3⟩
  | makeFunc fn first captured =>
    simp only [opW] at h
    cases hy : isYield fn with
    | true => rw [hy] at h; cases h
    | false =>
    rw [hy] at h
    simp only [cond_false] at h
    cases h0 : evs env first.toList with
    | none => rw [h0] at h; cases h
    | some xs =>
      rw [h0] at h
      simp only at h
      cases h1 : evs env captured.toList with
      | none => rw [h1] at h; cases h
      | some us =>
        rw [h1] at h; cases h
        have e1 := evs_sound he h0
        have e2 := evs_sound he h1
        refine ⟨.func fn (first.map a.eval) (captured.map a.eval), fun w => by simp [execOp, Instr.makeFunc], ?_⟩
        have := VR.func' fn hy e1 e2
        have q1 : first.map a.eval = (first.toList.map a.eval).toArray := by rw [← Array.toList_map]
        have q2 : captured.map a.eval = (captured.toList.map a.eval).toArray := by rw [← Array.toList_map]
        rw [q1, q2]
        exact this
  | slice t x lo hi mx =>
    simp only [opW] at h
    cases h0 : ev env x with
    | none => rw [h0] at h; cases h
    | some u =>
      rw [h0] at h
      simp only at h
      cases h1 : evo env lo with
      | none => rw [h1] at h; cases h
      | some l =>
        rw [h1] at h
        simp only at h
        cases h2 : evo env hi with
        | none => rw [h2] at h; cases h
        | some hh =>
          rw [h2] at h
          simp only at h
          cases h3 : evo env mx with
          | none => rw [h3] at h; cases h
          | some m =>
            rw [h3] at h
            obtain ⟨v', h5, h6⟩ := slice_sound t (ev_sound he h0) (evo_sound he h1) (evo_sound he h2) (evo_sound he h3) h
            exact ⟨v', fun w => run_value (h5 w), h6⟩
  | build t parts =>
    simp only [opW] at h
    cases h0 : evp env parts.toList with
    | none => rw [h0] at h; cases h
    | some q =>
      rw [h0] at h
      obtain ⟨v', h2, h3⟩ := build_sound (ps' := parts.map fun p => (p.1, a.eval p.2)) t (by simpa using evp_sound he h0) h
      exact ⟨v', fun w => run_value (h2 w), h3⟩
  | call c =>
    obtain ⟨callee, args, argTypes⟩ := c
    simp only [opW] at h
    split at h
    case h_2 => cases h
    split at h
    case h_2 => cases h
    rename_i x hargs
    split at h
    case h_2 => cases h
    rename_i t hty
    cases h0 : ev env x with
    | none => rw [h0] at h; cases h
    | some u =>
      rw [h0] at h
      simp only at h
      unfold lenA at h
      split at h
      case h_2 => cases h
      rename_i ad n cap
      split at h
      case h_2 => cases h
      rename_i e hu
      cases h
      obtain ⟨hs, g, c', hg, hcap, ht, hv⟩ := (ev_sound he h0).of_slice
      have e1 := toArray_of hargs
      have e2 := toArray_of hty
      subst e1; subst e2
      exact ⟨.int .i64 n, fun w => by simp [execOp, resolve, invoke, builtin, Builtin.len_, underlying, hu, hv, goInt], .of_int r _ _⟩
  | _ => simp only [opW] at h; cases h

def opP (P : Program) (env : Env) (o : Oper) : Option Value := match opW P env o with
  | some v => some v
  | none => match nextP P env o with
    | some (.value v) => bif af 4 v then some v else none
    | _ => none
theorem opP_sound {P : Program} {env : Env} {o : Oper} {v : Value} {r : Nat → Option (Nat × Nat)} {a : Act} (h : opP P env o = some v) (he : ER r env a.tmps) :
    ∃ v', (∀ w, (execOp a.eval o).run P w = .ok (.value v') w) ∧ VR r v v' := by
  unfold opP at h
  cases h1 : opW P env o with
  | some q => rw [h1] at h; cases h; exact opW_sound h1 he
  | none =>
    rw [h1] at h
    simp only at h
    split at h
    case h_2 => cases h
    rename_i u h2
    cases hf : af 4 u with
    | false => rw [hf] at h; cases h
    | true => rw [hf] at h; cases h; exact ⟨_, fun w => nextP_sound w h2 he, .same 4 _ hf⟩

/-! ### Blocks that stay as they are. -/
def Stay (St : List (Nat × List Value)) (r : Nat → Option (Nat × Nat)) (w0 w : World) : Prop := ∀ i cs g, look St i = some cs → r i = some g → w.heap[g.1]? = w0.heap[g.1]?
def opL (P : Program) (St : List (Nat × List Value)) (env : Env) (o : Oper) : Option Value := match o.op with
  | .load t x => match ev env x with
    | some v => loadA P { next := 0, lo := 0, bl := St, gl := [], ob := [] } t v
    | none => none
  | _ => none
theorem loadA_block {P : Program} {M : Mem} {t : TypeId} {x v : Value} (h : loadA P M t x = some v) : ∃ a cs, x = .pointer (some a) ∧ look M.bl a.block = some cs := by
  unfold loadA at h
  split at h
  case h_2 => cases h
  rename_i a
  cases hl : look M.bl a.block with
  | none => rw [hl] at h; cases h
  | some cs => exact ⟨a, cs, rfl, hl⟩
theorem loadCells_same {P : Program} {w w0 : World} {a : Addr} (h : w.heap[a.block]? = w0.heap[a.block]?) {n : Nat} {ys : Array Value} (hs : ys.size = n)
    (hy : ∀ j, j < n → w0.cell? (a.add j) = ys[j]?) : (loadCells a n).run P w = .ok ys w := by
  have hcell : ∀ j, w.cell? (a.add j) = w0.cell? (a.add j) := fun j => by
    unfold World.cell?
    have : (a.add j).block = a.block := by unfold Addr.add; split <;> rfl
    rw [this, h]
  have := run_loadCells_list (P := P) w a ys.toList fun j v hv => by
    have hj : j < n := by
      rcases Nat.lt_or_ge j ys.toList.length with q | q
      · simpa [hs] using q
      · rw [List.getElem?_eq_none q] at hv; cases hv
    rw [hcell, hy j hj]
    simpa using hv
  simpa [hs] using this

theorem opL_sound {P : Program} {St : List (Nat × List Value)} {env : Env} {o : Oper} {v : Value} {r r0 : Nat → Option (Nat × Nat)} {M0 : Mem} {w0 : World} {a : Act} (h : opL P St env o = some v) (he : ER r env a.tmps)
    (hext : ∀ i g, r0 i = some g → r i = some g) (hM : MR r0 { M0 with bl := St, gl := [], ob := [] } w0) : ∃ v', (∀ w, Stay St r0 w0 w → (execOp a.eval o).run P w = .ok (.value v') w) ∧ VR r v v' := by
  obtain ⟨dst, op, ty, pos, after, guard⟩ := o
  unfold opL at h
  split at h
  case h_2 => cases h
  rename_i t x hop
  simp only at hop
  subst hop
  cases h0 : ev env x with
  | none => rw [h0] at h; cases h
  | some u =>
    rw [h0] at h
    simp only at h
    have hx := ev_sound he h0
    obtain ⟨ad, cs, rfl, hl⟩ := loadA_block h
    obtain ⟨hs, g, hg, hv⟩ := hx.of_ptr
    simp only at hl
    obtain ⟨g', tt, cc, hg', _⟩ := hM.blk ad.block cs hl
    have e := hext _ _ hg'
    rw [hg] at e; cases e
    have hx0 : VR r0 (.pointer (some ad)) (a.eval x) := by
      obtain ⟨b, of, sp⟩ := ad
      simp only at hs
      subst hs
      rw [hv]
      exact .ptr _ _ _ hg'
    have hl0 : loadA P { M0 with bl := St, gl := [], ob := [] } t (.pointer (some ad)) = some v := h
    -- the blocks at the start, seen from any world that stays
    obtain ⟨v', hrun, hval⟩ : ∃ v', (∀ w, Stay St r0 w0 w → (Instr.loadAt t (a.eval x)).run P w = .ok v' w) ∧ VR r0 v v' := by
      unfold loadA at hl0
      simp only [hl] at hl0
      cases hb : aggT P t with
      | none => rw [hb] at hl0; cases hl0
      | some b =>
        rw [hb] at hl0
        cases b with
        | false =>
          obtain ⟨y, h1, h2⟩ := cell_sound hM hl hg' hl0
          refine ⟨y, fun w hw => ?_, h2⟩
          have hblk := hw _ _ _ hl hg'
          have : w.cell? ⟨g.1, ad.off, none⟩ = some y := by
            rw [← h1]
            unfold World.cell?
            rw [hblk]
          simp [Instr.loadAt, hv, Instr.sureAddr, loadVar, aggT_run hb, this]
        | true =>
          cases hn : sizeA P t with
          | none => rw [hn] at hl0; cases hl0
          | some n =>
            rw [hn] at hl0
            simp only at hl0
            cases hle : Nat.ble (ad.off + n) cs.length with
            | false => rw [hle] at hl0; cases hl0
            | true =>
              rw [hle] at hl0
              cases hl0
              obtain ⟨ys, h1, h2, h3⟩ := cells_at hM hl hg' (Nat.le_of_ble_eq_true hle)
              refine ⟨.agg ys.toArray, fun w hw => ?_, .agg' h3⟩
              have hblk := hw _ _ _ hl hg'
              have hld : (loadCells ⟨g.1, ad.off, none⟩ n).run P w = .ok ys.toArray w :=
                loadCells_same (w0 := w0) hblk (by simpa using h1) fun j hj => by
                  rw [h2 j _ (List.getElem?_eq_getElem (by omega))]; simp [List.getElem?_eq_getElem (show j < ys.length by omega)]
              simp [Instr.loadAt, hv, Instr.sureAddr, loadVar, aggT_run hb, sizeA_run hn, hld]
    exact ⟨v', fun w hw => run_value (hrun w hw), hval.mono hext⟩

/-! ### Equal abstract states. -/
def beqT : Tr → Tr → Bool
  | .e, .e => true
  | .nd v l r, .nd u k q => beqV 6 v u && (beqT l k && beqT r q)
  | _, _ => false
theorem beqT_eq : ∀ {x y : Tr}, beqT x y = true → x = y
  | .e, .e, _ => rfl
  | .e, .nd _ _ _, h => by cases h
  | .nd _ _ _, .e, h => by cases h
  | .nd v l r, .nd u k q, h => by
    simp only [beqT, Bool.and_eq_true] at h
    rw [beqV_eq 6 _ _ h.1, beqT_eq h.2.1, beqT_eq h.2.2]
def beqN : List Nat → List Nat → Bool
  | [], [] => true
  | x :: xs, y :: ys => Nat.beq x y && beqN xs ys
  | _, _ => false
theorem beqN_eq : ∀ {x y : List Nat}, beqN x y = true → x = y
  | [], [], _ => rfl
  | [], _ :: _, h => by cases h
  | _ :: _, [], h => by cases h
  | x :: xs, y :: ys, h => by
    simp only [beqN, Bool.and_eq_true] at h
    rw [Nat.eq_of_beq_eq_true h.1, beqN_eq h.2]
end Ev
end Go.Proofs.YtccjmmdppjialaaGreatDoor
