/- The evaluator, three texts: X Y Z I I2 I3. No program is named here. -/
import Derived.Test.YtjinpngojdefiaaEvP
import Derived.Maps.Keyed
import Derived.RangeFuncRecord
import Derived.RangeFuncCalls
import Derived.RecoverIn
import Derived.TacticsIn
import Derived.LoopNIn
/-! ## X -/
namespace Go.Proofs.Ytjinpngojdefiaa
open Go.RowKit
namespace Ev

/-! ### A new object; an object written anew; an object let go. -/
theorem newO_sound {r : Nat → Option (Nat × Nat)} {M : Mem} {w w' : World} (hM : MR r M w) {o : AOb} {h : Obj} (hh : OB r o h) (hw : w'.heap = w.heap.push h) (ho : w'.os = w.os) (ht : w'.tape = w.tape) (hu : w'.output = w.output) :
    MR (more r (64 * M.next) (w.heap.size, 0)) { M with next := M.next + 1, ob := (64 * M.next, o) :: M.ob } w' ∧ Stp r M w (more r (64 * M.next) (w.heap.size, 0)) { M with next := M.next + 1, ob := (64 * M.next, o) :: M.ob } w' := by
  have hext : ∀ i h, r i = some h → more r (64 * M.next) (w.heap.size, 0) i = some h := more_ext (hM.ne 0) (w.heap.size, 0)
  have hself := more_self r (64 * M.next) (w.heap.size, 0)
  have hold : ∀ g, g < w.heap.size → w'.heap[g]? = w.heap[g]? := fun g hg => by
    rw [hw, Array.getElem?_push, if_neg (by omega)]
  have hne : ∀ i p, look M.ob i = some p → 64 * M.next ≠ i := fun i p hl => by
    obtain ⟨g, _, h1, _⟩ := hM.obj i p hl
    exact (hM.ne 0 i g h1).symm
  refine ⟨⟨?_, ?_, ?_, fun i cs hl => (by obtain ⟨h1, h2, ⟨s, h4⟩, h5⟩ := hM.glob i cs hl; exact ⟨h1, h2, ⟨s, hext _ _ h4⟩, h5⟩), ?_, ?_⟩, ⟨hext, rfl, Nat.le_succ _, fun i cs hl _ => ⟨cs, hl⟩, ho, ht, hu, by rw [hw]; simp, fun g hg _ _ => hold g hg, ?_, rfl, ?_⟩⟩
  · intro i cs hl
    obtain ⟨g, t, cc, h1, h2, h2', h3⟩ := hM.blk i cs hl
    refine ⟨g, t, cc, hext _ _ h1, by rw [hold g.1 (hM.lt hl h1)]; exact h2, h2', fun j v hv => ?_⟩
    obtain ⟨v', h4, h5⟩ := h3 j v hv
    exact ⟨v', h4, h5.mono hext⟩
  · intro i j cs ds g g' hl hl' hi hj e
    obtain ⟨g1, _, _, h1, _⟩ := hM.blk i cs hl
    obtain ⟨g2, _, _, h2, _⟩ := hM.blk j ds hl'
    have e1 := hext _ _ h1
    have e2 := hext _ _ h2
    rw [hi] at e1; rw [hj] at e2; cases e1; cases e2
    exact hM.inj i j cs ds _ _ hl hl' h1 h2 e
  · intro i g hi
    simp only [more] at hi
    split at hi
    · simp only; omega
    · have := hM.bound i g hi; simp only; omega
  · intro i p hl
    simp only [look_cons] at hl
    by_cases hi : 64 * M.next = i
    · subst hi
      rw [if_pos rfl] at hl; cases hl
      exact ⟨(w.heap.size, 0), h, hself, by rw [hw]; simp, hh.mono hext⟩
    · rw [if_neg hi] at hl
      obtain ⟨g, x, h1, h2, h3⟩ := hM.obj i p hl
      exact ⟨g, x, hext _ _ h1, by rw [hold g.1 (hM.ltO hl h1)]; exact h2, h3.mono hext⟩
  · intro i j p q g g' hl hl' hi hj e
    simp only [look_cons] at hl hl'
    have key : ∀ k s x, look M.ob k = some s → more r (64 * M.next) (w.heap.size, 0) k = some x → x.1 = w.heap.size → False := fun k s x hk hx ex => by
      obtain ⟨g1, _, h1, _⟩ := hM.obj k s hk
      have e1 := hext _ _ h1
      have := hM.ltO hk h1
      rw [hx] at e1; cases e1; omega
    by_cases hin : 64 * M.next = i
    · subst hin
      rw [hself] at hi; cases hi
      by_cases hjn : 64 * M.next = j
      · exact hjn
      · rw [if_neg hjn] at hl'; exact (key _ _ _ hl' hj e.symm).elim
    · rw [if_neg hin] at hl
      by_cases hjn : 64 * M.next = j
      · subst hjn
        rw [hself] at hj; cases hj
        exact (key _ _ _ hl hi e).elim
      · rw [if_neg hjn] at hl'
        obtain ⟨g1, _, h1, _⟩ := hM.obj i p hl
        obtain ⟨g2, _, h2, _⟩ := hM.obj j q hl'
        have e1 := hext _ _ h1
        have e2 := hext _ _ h2
        rw [hi] at e1; rw [hj] at e2; cases e1; cases e2
        exact hM.injO i j p q _ _ hl hl' h1 h2 e
  · intro i cs g hlo hl hi _
    obtain ⟨g1, _, _, h1, _⟩ := hM.blk i cs hl
    have e1 := hext _ _ h1
    rw [hi] at e1; cases e1
    exact ⟨i, cs, _, hlo, hl, h1, rfl⟩
  · intro i p g hl hi hg
    simp only [look_cons] at hl
    by_cases hin : 64 * M.next = i
    · subst hin; rw [hself] at hi; cases hi; simp at hg
    · rw [if_neg hin] at hl
      obtain ⟨g1, _, h1, _⟩ := hM.obj i p hl
      have e1 := hext _ _ h1
      rw [hi] at e1; cases e1
      exact ⟨i, p, _, hl, h1, rfl⟩

theorem chgO {r : Nat → Option (Nat × Nat)} {M : Mem} {w w' : World} (hM : MR r M w) {i : Nat} {o : AOb} {g : Nat × Nat} (hl : look M.ob i = some o) (hi : r i = some g) (ob' : List (Nat × AOb))
    (h1 : ∀ j p, look ob' j = some p → ∃ q, look M.ob j = some q) (h2 : ∀ j p, look ob' j = some p → ∃ k h, r j = some k ∧ w'.heap[k.1]? = some h ∧ OB r p h)
    (hk : ∀ k, k ≠ g.1 → w'.heap[k]? = w.heap[k]?) (hs : w'.heap.size = w.heap.size) (ho : w'.os = w.os) (ht : w'.tape = w.tape) (hu : w'.output = w.output) :
    MR r { M with ob := ob' } w' ∧ Stp r M w r { M with ob := ob' } w' := by
  refine ⟨⟨?_, hM.inj, hM.bound, hM.glob, h2, ?_⟩, ⟨fun _ _ h => h, rfl, Nat.le_refl _, fun j cs hj _ => ⟨cs, hj⟩, ho, ht, hu, by omega, fun k hk' _ hn => hk k fun e => hn i o g hl hi e.symm, fun j cs k h3 h4 h5 _ => ⟨j, cs, k, h3, h4, h5, rfl⟩, rfl, ?_⟩⟩
  · intro j cs hj
    obtain ⟨k, t, cc, h3, h4, h5⟩ := hM.blk j cs hj
    exact ⟨k, t, cc, h3, by rw [hk k.1 (hM.apart hj h3 hl hi)]; exact h4, h5⟩
  · intro j k p q a b hj hk' ha hb e
    obtain ⟨p', hp⟩ := h1 j p hj
    obtain ⟨q', hq⟩ := h1 k q hk'
    exact hM.injO j k p' q' a b hp hq ha hb e
  · intro j p k hj hr _
    obtain ⟨p', hp⟩ := h1 j p hj
    exact ⟨j, p', k, hp, hr, rfl⟩
theorem setO_sound {r : Nat → Option (Nat × Nat)} {M : Mem} {w w' : World} (hM : MR r M w) {i : Nat} {o p : AOb} {g : Nat × Nat} {h : Obj} (hl : look M.ob i = some o) (hi : r i = some g) (hp : OB r p h) (hg : w'.heap[g.1]? = some h)
    (hk : ∀ k, k ≠ g.1 → w'.heap[k]? = w.heap[k]?) (hs : w'.heap.size = w.heap.size) (ho : w'.os = w.os) (ht : w'.tape = w.tape) (hu : w'.output = w.output) :
    MR r { M with ob := upd M.ob i p } w' ∧ Stp r M w r { M with ob := upd M.ob i p } w' := by
  refine chgO hM hl hi _ (fun j q hj => ?_) (fun j q hj => ?_) hk hs ho ht hu
  · rw [look_upd] at hj
    split at hj
    · rename_i e; subst e; exact ⟨o, hl⟩
    · exact ⟨q, hj⟩
  · rw [look_upd] at hj
    split at hj
    · rename_i e; subst e
      rw [hl] at hj; simp at hj; subst hj
      exact ⟨g, h, hi, hg, hp⟩
    · rename_i hne
      obtain ⟨k, x, h1, h2, h3⟩ := hM.obj j q hj
      exact ⟨k, x, h1, by rw [hk k.1 (fun e => hne (hM.injO i j o q g k hl hj hi h1 e.symm))]; exact h2, h3⟩
theorem killO_sound {r : Nat → Option (Nat × Nat)} {M : Mem} {w w' : World} (hM : MR r M w) {i : Nat} {o : AOb} {g : Nat × Nat} (hl : look M.ob i = some o) (hi : r i = some g)
    (hk : ∀ k, k ≠ g.1 → w'.heap[k]? = w.heap[k]?) (hs : w'.heap.size = w.heap.size) (ho : w'.os = w.os) (ht : w'.tape = w.tape) (hu : w'.output = w.output) :
    MR r { M with ob := kill M.ob i } w' ∧ Stp r M w r { M with ob := kill M.ob i } w' := by
  refine chgO hM hl hi _ (fun j q hj => ?_) (fun j q hj => ?_) hk hs ho ht hu
  · rw [look_kill] at hj
    split at hj
    · cases hj
    · exact ⟨q, hj⟩
  · rw [look_kill] at hj
    split at hj
    · cases hj
    · rename_i hne
      obtain ⟨k, x, h1, h2, h3⟩ := hM.obj j q hj
      exact ⟨k, x, h1, by rw [hk k.1 (fun e => hne (hM.injO i j o q g k hl hj hi h1 e.symm))]; exact h2, h3⟩

/-! ### Against nil. -/
def nilEq (P : Program) (t : TypeId) (x y : Value) : Option Bool := match P.underlying t with
  | some (.slice _) => match x, y with
    | .slice a _ _, .slice none _ _ => some a.isNone
    | .slice none _ _, .slice b _ _ => some b.isNone
    | _, _ => none
  | some (.pointer _) => match x, y with
    | .pointer a, .pointer none => some a.isNone
    | .pointer none, .pointer b => some b.isNone
    | _, _ => none
  | some (.map _ _) => match x, y with
    | .map a, .map none => some a.isNone
    | .map none, .map b => some b.isNone
    | _, _ => none
  | some (.interface _) => match x, y with
    | .nilIface, .iface _ _ => some false
    | .iface _ _, .nilIface => some false
    | _, _ => none
  | some (.func _ _ _) => match x, y with
    | .nilFunc, .func (.func _) _ _ => some false
    | .func (.func _) _ _, .nilFunc => some false
    | _, _ => none
  | _ => none
theorem VR.of_iface {r : Nat → Option (Nat × Nat)} {t : TypeId} {u v : Value} (h : VR r (.iface t u) v) : ∃ u', v = .iface t u' ∧ VR r u u' := by
  cases h with
  | same k _ h =>
    cases k with
    | zero => simp [af] at h
    | succ k => exact ⟨u, rfl, .same k _ h⟩
  | iface _ _ u' h => exact ⟨u', rfl, h⟩
theorem VR.slice_shape {r : Nat → Option (Nat × Nat)} {a : Option Addr} {n c : Nat} {v : Value} (h : VR r (.slice a n c) v) : ∃ a' n' c', v = .slice a' n' c' ∧ a'.isNone = a.isNone := by
  cases a with
  | none =>
    have := h.eq (k := 1)
    cases h with
    | same => exact ⟨none, n, c, rfl, rfl⟩
  | some a => obtain ⟨_, g, c', _, _, _, rfl⟩ := h.of_slice; exact ⟨_, _, _, rfl, rfl⟩
theorem VR.pointer_shape {r : Nat → Option (Nat × Nat)} {a : Option Addr} {v : Value} (h : VR r (.pointer a) v) : ∃ a', v = .pointer a' ∧ a'.isNone = a.isNone := by
  cases a with
  | none => cases h with
    | same => exact ⟨none, rfl, rfl⟩
  | some a => obtain ⟨_, g, _, rfl⟩ := h.of_ptr; exact ⟨_, rfl, rfl⟩
theorem VR.map_shape {r : Nat → Option (Nat × Nat)} {a : Option Nat} {v : Value} (h : VR r (.map a) v) : ∃ a', v = .map a' ∧ a'.isNone = a.isNone := by
  cases a with
  | none => cases h with
    | same => exact ⟨none, rfl, rfl⟩
  | some a => obtain ⟨g, _, rfl⟩ := h.of_map; exact ⟨_, rfl, rfl⟩
theorem equal_run {P : Program} {t : TypeId} {x y : Value} {q : Bool} {w : World} (h : ∀ d, (Op.equalIn (d + 1) t x y).run P w = .ok q w) (xo yo : Operand)
    (h1 : (do eqGuard .eql t xo yo x y; binOp .eql t x y : Sem Value) = (do pure (.bool (← Op.equal t x y)))) (h2 : (do eqGuard .neq t xo yo x y; binOp .neq t x y : Sem Value) = (do pure (.bool (!(← Op.equal t x y))))) :
    (do eqGuard .eql t xo yo x y; binOp .eql t x y : Sem Value).run P w = .ok (.bool q) w ∧ (do eqGuard .neq t xo yo x y; binOp .neq t x y : Sem Value).run P w = .ok (.bool !q) w := by
  have h0 : (Op.equal t x y).run P w = .ok q w := h 9999
  rw [h1, h2]
  simp [h0]
theorem nilEq_sound {P : Program} {t : TypeId} {x y x' y' : Value} {q : Bool} {r : Nat → Option (Nat × Nat)} (h : nilEq P t x y = some q) (hx : VR r x x') (hy : VR r y y') (xo yo : Operand) (w : World) :
    (do eqGuard .eql t xo yo x' y'; binOp .eql t x' y' : Sem Value).run P w = .ok (.bool q) w ∧ (do eqGuard .neq t xo yo x' y'; binOp .neq t x' y' : Sem Value).run P w = .ok (.bool !q) w := by
  unfold nilEq at h
  split at h
  · rename_i e hu
    split at h
    · rename_i a n c m d
      cases h
      obtain ⟨a', n', c', rfl, ha⟩ := hx.slice_shape
      obtain ⟨b', m', d', rfl, hb⟩ := hy.slice_shape
      cases b' with
      | some _ => cases hb
      | none =>
        refine equal_run (fun dd => ?_) xo yo rfl rfl
        rw [← ha]
        cases a' <;> simp [Op.equalIn, underlying, hu]
    · rename_i n c b m d hne
      cases h
      obtain ⟨a', n', c', rfl, ha⟩ := hx.slice_shape
      obtain ⟨b', m', d', rfl, hb⟩ := hy.slice_shape
      cases a' with
      | some _ => cases ha
      | none =>
        refine equal_run (fun dd => ?_) xo yo rfl rfl
        rw [← hb]
        cases b' <;> simp [Op.equalIn, underlying, hu]
    · cases h
  · rename_i e hu
    split at h
    · rename_i a
      cases h
      obtain ⟨a', rfl, ha⟩ := hx.pointer_shape
      obtain ⟨b', rfl, hb⟩ := hy.pointer_shape
      cases b' with
      | some _ => cases hb
      | none =>
        refine equal_run (fun dd => ?_) xo yo rfl rfl
        rw [← ha]
        cases a' <;> simp [Op.equalIn, underlying, hu]
    · rename_i b hne
      cases h
      obtain ⟨a', rfl, ha⟩ := hx.pointer_shape
      obtain ⟨b', rfl, hb⟩ := hy.pointer_shape
      cases a' with
      | some _ => cases ha
      | none =>
        refine equal_run (fun dd => ?_) xo yo rfl rfl
        rw [← hb]
        cases b' <;> simp [Op.equalIn, underlying, hu]
    · cases h
  · rename_i e1 e2 hu
    split at h
    · rename_i a
      cases h
      obtain ⟨a', rfl, ha⟩ := hx.map_shape
      obtain ⟨b', rfl, hb⟩ := hy.map_shape
      cases b' with
      | some _ => cases hb
      | none =>
        refine equal_run (fun dd => ?_) xo yo rfl rfl
        rw [← ha]
        cases a' <;> simp [Op.equalIn, underlying, hu]
    · rename_i b hne
      cases h
      obtain ⟨a', rfl, ha⟩ := hx.map_shape
      obtain ⟨b', rfl, hb⟩ := hy.map_shape
      cases a' with
      | some _ => cases ha
      | none =>
        refine equal_run (fun dd => ?_) xo yo rfl rfl
        rw [← hb]
        cases b' <;> simp [Op.equalIn, underlying, hu]
    · cases h
  · rename_i ms hu
    split at h
    · cases h
      have e1 := hx.eq (k := 1) rfl
      obtain ⟨u', rfl, _⟩ := hy.of_iface
      subst e1
      exact equal_run (fun dd => by simp [Op.equalIn, underlying, hu]) xo yo rfl rfl
    · cases h
      obtain ⟨u', rfl, _⟩ := hx.of_iface
      have e1 := hy.eq (k := 1) rfl
      subst e1
      exact equal_run (fun dd => by simp [Op.equalIn, underlying, hu]) xo yo rfl rfl
    · cases h
  · rename_i e1 e2 e3 hu
    split at h
    · cases h
      have e1 := hx.eq (k := 1) rfl
      obtain ⟨u', v', rfl, _⟩ := hy.of_func rfl
      subst e1
      exact equal_run (fun dd => by simp [Op.equalIn, underlying, hu]) xo yo rfl rfl
    · cases h
      obtain ⟨u', v', rfl, _⟩ := hx.of_func rfl
      have e1 := hy.eq (k := 1) rfl
      subst e1
      exact equal_run (fun dd => by simp [Op.equalIn, underlying, hu]) xo yo rfl rfl
    · cases h
  · cases h

/-! ### An element of an array; a slice as an array. -/
def indexA (P : Program) (t : TypeId) (x ix : Value) : Option Value := match ix with
  | .int _ i => match x with
    | .agg cs => match P.underlying t with
      | some (.array n e) => match sizeA P e with
        | some s => bif decide (0 ≤ i) && decide (i < n) then partA P e cs.toList (i.toNat * s) else none
        | none => none
      | _ => none
    | _ => none
  | _ => none
theorem index_sound {P : Program} {r : Nat → Option (Nat × Nat)} {v x x' ix ix' : Value} (t : TypeId) (hx : VR r x x') (hi : VR r ix ix') (h : indexA P t x ix = some v) :
    ∃ v', (∀ w, (Instr.index t x' ix').run P w = .ok v' w) ∧ VR r v v' := by
  unfold indexA at h
  split at h
  case h_2 => cases h
  rename_i k i
  have e := hi.int
  subst e
  split at h
  case h_2 => cases h
  rename_i cs
  obtain ⟨ys, rfl, hl⟩ := hx.of_agg
  split at h
  case h_2 => cases h
  rename_i n e hu
  cases hs : sizeA P e with
  | none => rw [hs] at h; cases h
  | some s =>
    rw [hs] at h
    simp only at h
    generalize hc : (decide (0 ≤ i) && decide (i < (n : Int))) = c at h
    cases c with
    | false => cases h
    | true =>
      simp only [cond_true] at h
      simp only [Bool.and_eq_true, decide_eq_true_eq] at hc
      obtain ⟨v', h1, h2⟩ := part_sound e (i.toNat * s) hl h
      exact ⟨v', fun w => by simp [Instr.index, asIntOf, underlying, hu, hc.1, hc.2, sizeA_run hs, h1], h2⟩
def arrayAtA (P : Program) (t : TypeId) (x : Value) : Option Value := match P.underlying t with
  | some (.array n _) => match x with
    | .slice (some a) len _ => bif Nat.ble n len then some (.pointer (some a)) else none
    | _ => none
  | _ => none
theorem arrayAt_sound {P : Program} {r : Nat → Option (Nat × Nat)} {v x x' : Value} (t : TypeId) (hx : VR r x x') (h : arrayAtA P t x = some v) :
    ∃ v', (∀ w, (Instr.arrayAt t x').run P w = .ok v' w) ∧ VR r v v' := by
  unfold arrayAtA at h
  split at h
  case h_2 => cases h
  rename_i n e hu
  split at h
  case h_2 => cases h
  rename_i a len c
  obtain ⟨hs, g, c', hg, hcap, ht, rfl⟩ := hx.of_slice
  cases hb : Nat.ble n len with
  | false => rw [hb] at h; cases h
  | true =>
    rw [hb] at h; cases h
    have hle := Nat.le_of_ble_eq_true hb
    obtain ⟨b, o, sp⟩ := a
    simp only at hs
    subst hs
    exact ⟨_, fun w => by simp [Instr.arrayAt, underlying, hu, Nat.not_lt.2 hle], .ptr _ _ _ hg⟩

/-! ### Copies. -/
def copyA (P : Program) (M : Mem) (t : TypeId) (d s : Value) : Option (Value × Mem) := match P.underlying t with
  | some (.slice e) => match sizeA P e with
    | some sz => match d with
      | .slice (some a) dn _ => match s with
        | .slice (some b) sn _ => match look M.bl b.block with
          | some cs => match look M.bl a.block with
            | some ds =>
              bif Nat.ble (b.off + Nat.min sn dn * sz) cs.length && (((cs.drop b.off).take (Nat.min sn dn * sz)).all (·.oneCell') && (Nat.ble M.lo a.block && Nat.ble (a.off + Nat.min sn dn * sz) ds.length)) then
                some (.int .i64 (Nat.min sn dn), { M with bl := upd M.bl a.block (putRow ds a.off ((cs.drop b.off).take (Nat.min sn dn * sz))) }) else none
            | none => none
          | none => none
        | .string str => match look M.bl a.block with
          | some ds => bif Nat.beq sz 1 && (Nat.ble M.lo a.block && Nat.ble (a.off + ((str.extract 0 (Nat.min str.size dn)).data.map fun b => Value.int .u8 b.toNat).toList.length) ds.length) then
              some (.int .i64 (Nat.min str.size dn), { M with bl := upd M.bl a.block (putRow ds a.off ((str.extract 0 (Nat.min str.size dn)).data.map fun b => Value.int .u8 b.toNat).toList) }) else none
          | none => none
        | _ => none
      | _ => none
    | none => none
  | _ => none
theorem copy_sound {P : Program} {r : Nat → Option (Nat × Nat)} {M M' : Mem} {w : World} {v d d' s s' : Value} (hM : MR r M w) (t u ty : TypeId) (hd : VR r d d') (hs : VR r s s') (h : copyA P M t d s = some (v, M')) :
    ∃ w', (Builtin.copy_ #[t, u] ty #[d', s']).run P w = .ok v w' ∧ (∃ n : Nat, v = .int .i64 n) ∧ MR r M' w' ∧ Stp r M w r M' w' := by
  unfold copyA at h
  split at h
  case h_2 => cases h
  rename_i e hu
  cases hz : sizeA P e with
  | none => rw [hz] at h; cases h
  | some sz =>
    rw [hz] at h
    simp only at h
    split at h
    case h_2 => cases h
    rename_i a dn dc
    obtain ⟨hsp, g, c', hg, hcap, htt, rfl⟩ := hd.of_slice
    split at h
    case h_3 => cases h
    · rename_i b sn sc
      obtain ⟨hsp2, g2, c2, hg2, hcap2, htt2, rfl⟩ := hs.of_slice
      cases hl2 : look M.bl b.block with
      | none => rw [hl2] at h; cases h
      | some cs =>
        rw [hl2] at h
        simp only at h
        cases hl : look M.bl a.block with
        | none => rw [hl] at h; cases h
        | some ds =>
          rw [hl] at h
          simp only at h
          generalize hb : (Nat.ble (b.off + Nat.min sn dn * sz) cs.length && (((cs.drop b.off).take (Nat.min sn dn * sz)).all (·.oneCell') && (Nat.ble M.lo a.block && Nat.ble (a.off + Nat.min sn dn * sz) ds.length))) = c at h
          cases c with
          | false => cases h
          | true =>
            cases h
            simp only [Bool.and_eq_true] at hb
            obtain ⟨ys, h1, h2, h3⟩ := cells_sound hM hl2 hg2 (Nat.le_of_ble_eq_true hb.1)
            have hxl : ((cs.drop b.off).take (Nat.min sn dn * sz)).length = Nat.min sn dn * sz := by rw [h3.1, h1]
            obtain ⟨w', h4, h5, h6, _⟩ := store_sound hM (Nat.le_of_ble_eq_true hb.2.2.1) hl hg (o := a.off) (by rw [hxl]; exact Nat.le_of_ble_eq_true hb.2.2.2) hb.2.1 h3
            refine ⟨w', ?_, ⟨_, rfl⟩, h5, h6⟩
            have h2' := h2 P
            have h4' := h4 P
            simp [Builtin.copy_, run_underlying hu, Builtin.lenOf, Builtin.firstCells, sizeA_run hz, h2', h4', goInt]
    · rename_i str
      have e1 := hs.eq (k := 1) rfl
      subst e1
      cases hl : look M.bl a.block with
      | none => rw [hl] at h; cases h
      | some ds =>
        rw [hl] at h
        simp only at h
        generalize hb : (Nat.beq sz 1 && (Nat.ble M.lo a.block && Nat.ble (a.off + ((str.extract 0 (Nat.min str.size dn)).data.map fun b => Value.int .u8 b.toNat).toList.length) ds.length)) = c at h
        cases c with
        | false => cases h
        | true =>
          cases h
          simp only [Bool.and_eq_true] at hb
          have hall : (((str.extract 0 (Nat.min str.size dn)).data.map fun b => Value.int .u8 b.toNat).toList).all (·.oneCell') = true := by
            rw [List.all_eq_true]
            intro x hx
            rw [Array.toList_map, List.mem_map] at hx
            obtain ⟨_, _, rfl⟩ := hx
            rfl
          have haf : (((str.extract 0 (Nat.min str.size dn)).data.map fun b => Value.int .u8 b.toNat).toList).all (af 1) = true := by
            rw [List.all_eq_true]
            intro x hx
            rw [Array.toList_map, List.mem_map] at hx
            obtain ⟨_, _, rfl⟩ := hx
            rfl
          obtain ⟨w', h4, h5, h6, _⟩ := store_sound hM (Nat.le_of_ble_eq_true hb.2.1) hl hg (o := a.off) (Nat.le_of_ble_eq_true hb.2.2) hall (LR.of_af (r := r) haf)
          refine ⟨w', ?_, ⟨_, rfl⟩, h5, h6⟩
          have h4' := h4 P
          simp at h4'
          simp [Builtin.copy_, run_underlying hu, Builtin.lenOf, Builtin.firstCells, sizeA_run hz, h4', goInt]

/-! ### A slice of no cells; nothing appended. -/
def build0A (P : Program) (M : Mem) (t : TypeId) (len : Nat) (parts : List (Nat × Value)) : Option (Value × Mem) := match P.underlying t with
  | some (.slice e) => match sizeA P e with
    | some n => bif Nat.beq (len * n) 0 then match parts with
        | [] => some (.slice (some ⟨64 * M.next, 0, none⟩) len len, M.new [])
        | _ => none
      else none
    | none => none
  | _ => none
theorem build0_sound {P : Program} {r : Nat → Option (Nat × Nat)} {M M' : Mem} {w : World} {v : Value} (hM : MR r M w) (t : TypeId) (len : Nat) {ps : List (Nat × Value)} {ps' : Array (Nat × Value)} (hp : PR r ps ps'.toList) (h : build0A P M t len ps = some (v, M')) :
    ∃ r' v' w', (Instr.buildSlice t len ps').run P w = .ok v' w' ∧ VR r' v v' ∧ MR r' M' w' ∧ Stp r M w r' M' w' := by
  unfold build0A at h
  split at h
  case h_2 => cases h
  rename_i e hu
  cases hn : sizeA P e with
  | none => rw [hn] at h; cases h
  | some n =>
    rw [hn] at h
    simp only at h
    cases hb : Nat.beq (len * n) 0 with
    | false => rw [hb] at h; cases h
    | true =>
      rw [hb] at h
      simp only [cond_true] at h
      have h0 : len * n = 0 := Nat.eq_of_beq_eq_true hb
      split at h
      case h_2 => cases h
      cases h
      have hps : ps' = #[] := by
        cases hq : ps'.toList with
        | nil => simpa using hq
        | cons x xs => rw [hq] at hp; exact hp.elim
      subst hps
      obtain ⟨r', w', h5, h6, h7, h8⟩ := new_var_sound (P := P) hM (cs := []) (cc := #[]) e (.nil r)
      exact ⟨r', .slice (some ⟨w.heap.size, 0, none⟩) len len, w', by simp [Instr.buildSlice, underlying, hu, sizeA_run hn, h0, Instr.fill, show ∀ f : Nat → Value, (Array.range 0).map f = #[] from fun f => by apply Array.ext' ; simp, h5], .slice _ _ _ _ _ _ h6 (Nat.le_refl _) (.inl rfl), h7, h8⟩
def append0A (P : Program) (t u : TypeId) (s x : Value) : Option Value := match P.underlying t with
  | some (.slice e) => match sizeA P e with
    | some _ => match P.underlying u with
      | some (.slice _) => match x with
        | .slice _ 0 _ => match s with
          | .slice a k c => bif Nat.ble k c then some (.slice a k c) else none
          | _ => none
        | _ => none
      | _ => none
    | none => none
  | _ => none
theorem VR.slice_len {r : Nat → Option (Nat × Nat)} {a : Option Addr} {n c : Nat} {v : Value} (h : VR r (.slice a n c) v) : ∃ a' c', v = .slice a' n c' ∧ c ≤ c' := by
  cases a with
  | none => cases h with
    | same => exact ⟨none, c, rfl, Nat.le_refl _⟩
  | some a => obtain ⟨_, g, c', _, hc, _, rfl⟩ := h.of_slice; exact ⟨_, c', rfl, hc⟩
theorem append0_sound {P : Program} {r : Nat → Option (Nat × Nat)} {w : World} {v s s' x x' : Value} (t u ty : TypeId) (hs : VR r s s') (hx : VR r x x') (h : append0A P t u s x = some v) :
    (Builtin.append_ #[t, u] ty #[s', x']).run P w = .ok s' w ∧ VR r v s' := by
  unfold append0A at h
  split at h
  case h_2 => cases h
  rename_i e hu
  cases hn : sizeA P e with
  | none => rw [hn] at h; cases h
  | some n =>
    rw [hn] at h
    simp only at h
    split at h
    case h_2 => cases h
    rename_i e2 hu2
    split at h
    case h_2 => cases h
    rename_i xa xc
    split at h
    case h_2 => cases h
    rename_i a k c
    cases hb : Nat.ble k c with
    | false => rw [hb] at h; cases h
    | true =>
      rw [hb] at h; cases h
      have hle := Nat.le_of_ble_eq_true hb
      obtain ⟨a', c', rfl, hc⟩ := hs.slice_len
      obtain ⟨xa', xc', rfl, _⟩ := hx.slice_len
      have hle' : k ≤ c' := Nat.le_trans hle hc
      refine ⟨?_, hs⟩
      cases a' <;> cases xa' <;> simp [Builtin.append_, run_underlying hu, run_underlying hu2, Builtin.lenOf, Builtin.firstCells, sizeA_run hn, hle', storeCells, loadCells, loadCellsFrom]
end Ev
end Go.Proofs.Ytjinpngojdefiaa
/-! ## Y -/
namespace Go.Proofs.Ytjinpngojdefiaa
open Go.RowKit
namespace Ev

def keyed (kd : TypeDesc) (k : Value) : Bool := match kd, k with
  | .int _, .int _ _ => true
  | .string, .string _ => true
  | .bool, .bool _ => true
  | _, _ => false
theorem keyed_check {P : Program} {kt : TypeId} {kd : TypeDesc} {k : Value} (hu : P.underlying kt = some kd) (hk : keyed kd k = true) (e : Bool) (w : World) : (Instr.checkKey e 10000 kt k).run P w = .ok () w := by
  have : ∀ d, (Instr.checkKey e (d + 1) kt k).run P w = .ok () w := fun d => by
    unfold keyed at hk
    split at hk
    · simp [Instr.checkKey, underlying, hu]
    · simp [Instr.checkKey, underlying, hu]
    · simp [Instr.checkKey, underlying, hu]
    · cases hk
  exact this 9999
theorem bytes_eq {a b : ByteArray} (h : (a == b) = true) : a = b := by
  obtain ⟨a⟩ := a
  obtain ⟨b⟩ := b
  have h' : (a == b) = true := h
  rw [eq_of_beq h']
theorem bytes_self (a : ByteArray) : (a == a) = true := by
  obtain ⟨a⟩ := a
  show (a == a) = true
  exact beq_self_eq_true a
theorem sameNow_eq {kd : TypeDesc} {k k' : Value} (h : Instr.sameNow kd k k' = some true) : k' = k := by
  unfold Instr.sameNow at h
  split at h
  · split at h
    · rename_i e; subst e
      simp only [Option.some.injEq, beq_iff_eq] at h
      rw [h]
    · cases h
  · simp only [Option.some.injEq] at h
    rw [bytes_eq h]
  · simp only [Option.some.injEq, beq_iff_eq] at h
    rw [h]
  · cases h
theorem same_bits {kd : TypeDesc} {k : Value} (hk : keyed kd k = true) (n : Nat) : Instr.sameBits n k k = true := by
  unfold keyed at hk
  split at hk
  · cases n <;> simp [Instr.sameBits]
  · cases n <;> simp [Instr.sameBits, bytes_self]
  · cases n <;> simp [Instr.sameBits]
  · cases hk
def mapFind (kd : TypeDesc) (k : Value) : List (Value × Value) → Nat → Option (Option (Nat × Value))
  | [], _ => some none
  | p :: es, i => match Instr.sameNow kd k p.1 with
    | some true => some (some (i, p.2))
    | some false => mapFind kd k es (i + 1)
    | none => none
theorem mapFind_none {r : Nat → Option (Nat × Nat)} {kd : TypeDesc} {k : Value} : ∀ {es : List (Value × Value)} {l : List MapEntry} {i : Nat}, EntsR r es l → mapFind kd k es i = some none → Instr.findNow kd k l i = some none
  | [], [], _, _, _ => rfl
  | p :: es, e :: l, i, h, hm => by
    simp only [mapFind] at hm
    simp only [Instr.findNow, h.1.1]
    split at hm
    · cases hm
    · rename_i hs; rw [hs]; exact mapFind_none h.2 hm
    · cases hm
theorem mapFind_some {r : Nat → Option (Nat × Nat)} {kd : TypeDesc} {k v : Value} {n : Nat} : ∀ {es : List (Value × Value)} {l : List MapEntry} {i : Nat}, EntsR r es l → mapFind kd k es i = some (some (n, v)) →
    ∃ e, Instr.findNow kd k l i = some (some (n, e.val)) ∧ VR r v e.val ∧ i ≤ n ∧ l[n - i]? = some e ∧ e.key = k
  | [], [], _, _, hm => by cases hm
  | p :: es, e :: l, i, h, hm => by
    simp only [mapFind] at hm
    simp only [Instr.findNow, h.1.1]
    split at hm
    · rename_i hs
      cases hm
      refine ⟨e, by rw [hs], h.1.2, Nat.le_refl _, by simp, h.1.1.trans (sameNow_eq hs)⟩
    · rename_i hs
      rw [hs]
      obtain ⟨e', h1, h2, h3, h4, h5⟩ := mapFind_some h.2 hm
      refine ⟨e', h1, h2, by omega, ?_, h5⟩
      have : n - i = (n - (i + 1)) + 1 := by omega
      rw [this]
      simpa using h4
    · cases hm
theorem EntsR.modify {r : Nat → Option (Nat × Nat)} {k v v' : Value} (hv : VR r v v') : ∀ {es : List (Value × Value)} {l : List MapEntry} (n : Nat), EntsR r es l → EntsR r (es.set n (k, v)) (l.modify n fun e => { e with key := k, val := v' })
  | [], [], _, _ => by simp [EntsR]
  | _ :: _, _ :: _, 0, h => by simp only [List.set_cons_zero, List.modify_zero_cons]; exact ⟨⟨rfl, hv⟩, h.2⟩
  | _ :: _, _ :: _, n + 1, h => by simp only [List.set_cons_succ, List.modify_succ_cons]; exact ⟨h.1, EntsR.modify hv n h.2⟩
theorem EntsR.push {r : Nat → Option (Nat × Nat)} {k v : Value} {e : MapEntry} (hk : e.key = k) (hv : VR r v e.val) : ∀ {es : List (Value × Value)} {l : List MapEntry}, EntsR r es l → EntsR r (es ++ [(k, v)]) (l ++ [e])
  | [], [], _ => ⟨⟨hk, hv⟩, trivial⟩
  | _ :: _, _ :: _, h => ⟨h.1, EntsR.push hk hv h.2⟩

def okA (ok : Bool) (v : Value) (b : Bool) : Value := bif ok then .tuple #[v, .bool b] else v
def lookupA (P : Program) (M : Mem) (t : TypeId) (x k : Value) (ok : Bool) : Option Value := match P.underlying t with
  | some (.map kt et) => match P.underlying kt with
    | some kd => bif keyed kd k then match x with
      | .map (some i) => match look M.ob i with
        | some (.map es) => match mapFind kd k es 0 with
          | some (some (_, v)) => some (okA ok v true)
          | some none => match zeroOf P et with
            | some z => some (okA ok z false)
            | none => none
          | none => none
        | _ => none
      | _ => none
      else none
    | none => none
  | _ => none
theorem okA_rel {r : Nat → Option (Nat × Nat)} {v v' : Value} (ok b : Bool) (h : VR r v v') : VR r (okA ok v b) (if ok then .tuple #[v', .bool b] else v') := by
  cases ok with
  | false => exact h
  | true => exact VR.tuple' (xs := [v, .bool b]) (ys := [v', .bool b]) (.cons h (.cons (.of_bool r b) (.nil r)))
theorem run_getObj_map' {P : Program} {w : World} {b : Nat} {es : Array MapEntry} {c : Nat} (h : w.heap[b]? = some (.map es c)) : (getObj b).run P w = .ok (.map es c) w := by simp [getObj, Sem.run, h]
theorem run_setObj_map' {P : Program} {w : World} {b : Nat} {es : Array MapEntry} {c : Nat} (o : Obj) (h : w.heap[b]? = some (.map es c)) : (setObj b o).run P w = .ok () { w with heap := w.heap.setIfInBounds b o } := by simp [setObj, Sem.run, h]
theorem lookup_sound {P : Program} {r : Nat → Option (Nat × Nat)} {M : Mem} {w : World} {v x x' k k' : Value} (hM : MR r M w) (t : TypeId) (ok : Bool) (hx : VR r x x') (hk : VR r k k') (h : lookupA P M t x k ok = some v) :
    ∃ v', (Instr.lookup t x' k' ok).run P w = .ok v' w ∧ VR r v v' := by
  unfold lookupA at h
  split at h
  case h_2 => cases h
  rename_i kt et hu
  cases hku : P.underlying kt with
  | none => rw [hku] at h; cases h
  | some kd =>
    rw [hku] at h
    simp only at h
    cases hkd : keyed kd k with
    | false => rw [hkd] at h; cases h
    | true =>
      rw [hkd] at h
      simp only [cond_true] at h
      have ek : k' = k := hk.eq (k := 1) (by unfold keyed at hkd; split at hkd <;> first | rfl | cases hkd)
      subst ek
      split at h
      case h_2 => cases h
      rename_i i
      obtain ⟨g, hg, rfl⟩ := hx.of_map
      split at h
      case h_2 => cases h
      rename_i es hl
      obtain ⟨g', o, h1, h2, h3⟩ := hM.obj _ _ hl
      rw [hg] at h1; cases h1
      obtain ⟨ents, clock, rfl, hr⟩ := h3
      split at h
      · rename_i n u hf
        cases h
        obtain ⟨e, f1, f2, _, _, _⟩ := mapFind_some hr hf
        exact ⟨_, by simp [Instr.lookup, underlying, hu, run_getObj_map' h2, keyed_check hku hkd, Instr.findKey, hku, f1], okA_rel ok true f2⟩
      · rename_i hf
        have f1 := mapFind_none hr hf
        cases hz : zeroOf P et with
        | none => rw [hz] at h; cases h
        | some z =>
          rw [hz] at h; cases h
          obtain ⟨ha, hzr⟩ := zeroOf_run hz
          exact ⟨_, by simp [Instr.lookup, underlying, hu, run_getObj_map' h2, keyed_check hku hkd, Instr.findKey, hku, f1, hzr], okA_rel ok false (.same 4 _ ha)⟩
      · cases h
def updateA (P : Program) (M : Mem) (t : TypeId) (x k v : Value) : Option Mem := match P.underlying t with
  | some (.map kt _) => match P.underlying kt with
    | some kd => bif keyed kd k then match x with
      | .map (some i) => match look M.ob i with
        | some (.map es) => match mapFind kd k es 0 with
          | some (some (n, _)) => some { M with ob := upd M.ob i (.map (es.set n (k, v))) }
          | some none => some { M with ob := upd M.ob i (.map (es ++ [(k, v)])) }
          | none => none
        | _ => none
      | _ => none
      else none
    | none => none
  | _ => none
theorem update_sound {P : Program} {r : Nat → Option (Nat × Nat)} {M M' : Mem} {w : World} {v v' x x' k k' : Value} (hM : MR r M w) (t : TypeId) (hx : VR r x x') (hk : VR r k k') (hv : VR r v v') (h : updateA P M t x k v = some M') :
    ∃ w', (Instr.mapUpdate t x' k' v').run P w = .ok () w' ∧ MR r M' w' ∧ Stp r M w r M' w' := by
  unfold updateA at h
  split at h
  case h_2 => cases h
  rename_i kt et hu
  cases hku : P.underlying kt with
  | none => rw [hku] at h; cases h
  | some kd =>
    rw [hku] at h
    simp only at h
    cases hkd : keyed kd k with
    | false => rw [hkd] at h; cases h
    | true =>
      rw [hkd] at h
      simp only [cond_true] at h
      have ek : k' = k := hk.eq (k := 1) (by unfold keyed at hkd; split at hkd <;> first | rfl | cases hkd)
      subst ek
      split at h
      case h_2 => cases h
      rename_i i
      obtain ⟨g, hg, rfl⟩ := hx.of_map
      split at h
      case h_2 => cases h
      rename_i es hl
      obtain ⟨g', o, h1, h2, h3⟩ := hM.obj _ _ hl
      rw [hg] at h1; cases h1
      obtain ⟨ents, clock, rfl, hr⟩ := h3
      have hlt := hM.ltO hl hg
      have keep : ∀ (ob : Obj) k, k ≠ g.1 → ({ w with heap := w.heap.setIfInBounds g.1 ob } : World).heap[k]? = w.heap[k]? := fun ob k hne => by
        simp [Array.getElem?_setIfInBounds_ne (Ne.symm hne)]
      have self : ∀ (ob : Obj), ({ w with heap := w.heap.setIfInBounds g.1 ob } : World).heap[g.1]? = some ob := fun ob => by simp [hlt]
      split at h
      · rename_i n u hf
        cases h
        obtain ⟨e, f1, f2, _, f4, f5⟩ := mapFind_some hr hf
        have f4' : ents[n]? = some e := by simpa using f4
        refine ⟨_, by simp [Instr.mapUpdate, underlying, hu, run_getObj_map' h2, keyed_check hku hkd, Instr.findKey, hku, f1, f4', f5, Instr.keyThatStays, same_bits hkd, run_setObj_map' _ h2]; rfl, ?_⟩
        exact setO_sound hM hl hg (p := .map (es.set n (k', v))) ⟨_, _, rfl, by simpa using hr.modify hv n⟩ (self _) (keep _) (by simp) rfl rfl rfl
      · rename_i hf
        cases h
        have f1 := mapFind_none hr hf
        refine ⟨_, by simp [Instr.mapUpdate, underlying, hu, run_getObj_map' h2, keyed_check hku hkd, Instr.findKey, hku, f1, run_setObj_map' _ h2]; rfl, ?_⟩
        exact setO_sound hM hl hg (p := .map (es ++ [(k', v)])) ⟨_, _, rfl, by simpa using hr.push (e := { key := k', val := v', born := clock }) rfl hv⟩ (self _) (keep _) (by simp) rfl rfl rfl
      · cases h
def makeMapA (P : Program) (M : Mem) (t : TypeId) (hint : Option Value) : Option (Value × Mem) := match hint with
  | none => some (.map (some (64 * M.next)), { M with next := M.next + 1, ob := (64 * M.next, .map []) :: M.ob })
  | some (.int _ _) => match P.underlying t with
    | some (.map _ _) => some (.map (some (64 * M.next)), { M with next := M.next + 1, ob := (64 * M.next, .map []) :: M.ob })
    | _ => none
  | _ => none
theorem makeMap_sound {P : Program} {r : Nat → Option (Nat × Nat)} {M M' : Mem} {w : World} {v : Value} {hint hint' : Option Value} (hM : MR r M w) (t : TypeId) (hh : OR r hint hint') (h : makeMapA P M t hint = some (v, M')) :
    ∃ r' v' w', (Instr.makeMap t hint').run P w = .ok v' w' ∧ VR r' v v' ∧ MR r' M' w' ∧ Stp r M w r' M' w' := by
  have key := newO_sound (w' := w.alloc (.map #[] 0)) hM (o := .map []) (h := .map #[] 0) ⟨#[], 0, rfl, trivial⟩ rfl rfl rfl rfl
  unfold makeMapA at h
  split at h
  · cases h
    cases hint' with
    | some _ => cases hh
    | none => exact ⟨_, _, _, by simp [Instr.makeMap], .map _ _ (more_self r _ _), key.1, key.2⟩
  · rename_i k n
    split at h
    case h_2 => cases h
    rename_i kt et hu
    cases h
    cases hint' with
    | none => cases hh
    | some u =>
      have e := VR.int hh
      subst e
      exact ⟨_, _, _, by simp [Instr.makeMap, underlying, hu, asInt, asIntOf], .map _ _ (more_self r _ _), key.1, key.2⟩
  · cases h
def lenMapA (P : Program) (M : Mem) (t : TypeId) (x : Value) : Option Value := match P.underlying t with
  | some (.map _ _) => match x with
    | .map (some i) => match look M.ob i with
      | some (.map es) => some (.int .i64 es.length)
      | _ => none
    | _ => none
  | _ => none
theorem EntsR.length {r : Nat → Option (Nat × Nat)} : ∀ {es : List (Value × Value)} {l : List MapEntry}, EntsR r es l → l.length = es.length
  | [], [], _ => rfl
  | _ :: _, _ :: _, h => by simp [EntsR.length h.2]
theorem lenMap_sound {P : Program} {r : Nat → Option (Nat × Nat)} {M : Mem} {w : World} {v x x' : Value} (hM : MR r M w) (t ty : TypeId) (hx : VR r x x') (h : lenMapA P M t x = some v) :
    (Builtin.len_ #[t] ty #[x']).run P w = .ok v w ∧ ∃ n : Nat, v = .int .i64 n := by
  unfold lenMapA at h
  split at h
  case h_2 => cases h
  rename_i kt et hu
  split at h
  case h_2 => cases h
  rename_i i
  obtain ⟨g, hg, rfl⟩ := hx.of_map
  split at h
  case h_2 => cases h
  rename_i es hl
  cases h
  obtain ⟨g', o, h1, h2, h3⟩ := hM.obj _ _ hl
  rw [hg] at h1; cases h1
  obtain ⟨ents, clock, rfl, hr⟩ := h3
  have := hr.length
  refine ⟨?_, _, rfl⟩
  have hs : ents.size = es.length := by simpa using this
  simp [Builtin.len_, underlying, hu, run_getObj_map' h2, goInt, hs]

def ifaceT (P : Program) (t : TypeId) : Bool := match P.underlying t with
  | some (.interface _) => true
  | some _ => false
  | none => true
/-- The smaller operations. -/
def opX (P : Program) (env : Env) (M : Mem) (o : Oper) : Option (Value × Mem) := match o.op with
  | .binOp op t x y _ => match ev env x with
    | some a => match ev env y with
      | some b => match nilEq P t a b with
        | some q => match op with
          | .eql => some (.bool q, M)
          | .neq => some (.bool !q, M)
          | _ => none
        | none => none
      | none => none
    | none => none
  | .index t x ix => match ev env x with
    | some a => match ev env ix with
      | some b => match indexA P t a b with
        | some v => some (v, M)
        | none => none
      | none => none
    | none => none
  | .sliceToArrayPointer t x => match ev env x with
    | some a => match arrayAtA P t a with
      | some v => some (v, M)
      | none => none
    | none => none
  | .nilCheck x => match ev env x with
    | some (.func (.func f) a b) => some (.func (.func f) a b, M)
    | some (.map (some i)) => some (.map (some i), M)
    | _ => none
  | .makeInterface t x => match ev env x with
    | some v => bif ifaceT P t then none else some (.iface t v, M)
    | none => none
  | .buildSlice t len parts => match evp env parts.toList with
    | some q => build0A P M t len q
    | none => none
  | .makeMap t hint => match evo env hint with
    | some h => makeMapA P M t h
    | none => none
  | .mapUpdate t m k x => match ev env m with
    | some a => match ev env k with
      | some b => match ev env x with
        | some c => match updateA P M t a b c with
          | some M' => some (Go.undef, M')
          | none => none
        | none => none
      | none => none
    | none => none
  | .insert t m k x => match ev env m with
    | some a => match ev env k with
      | some b => match ev env x with
        | some c => match updateA P M t a b c with
          | some M' => some (Go.undef, M')
          | none => none
        | none => none
      | none => none
    | none => none
  | .lookup t x k ok => match ev env x with
    | some a => match ev env k with
      | some b => match lookupA P M t a b ok with
        | some v => some (v, M)
        | none => none
      | none => none
    | none => none
  | .call c => match c.callee with
    | .builtin .copy => match c.args.toList with
      | [d, s] => match c.argTypes.toList with
        | [t, _] => match ev env d with
          | some a => match ev env s with
            | some b => copyA P M t a b
            | none => none
          | none => none
        | _ => none
      | _ => none
    | .builtin .append => match c.args.toList with
      | [d, s] => match c.argTypes.toList with
        | [t, u] => match ev env d with
          | some a => match ev env s with
            | some b => match append0A P t u a b with
              | some v => some (v, M)
              | none => none
            | none => none
          | none => none
        | _ => none
      | _ => none
    | .builtin .len => match c.args.toList with
      | [x] => match c.argTypes.toList with
        | [t] => match ev env x with
          | some a => match lenMapA P M t a with
            | some v => some (v, M)
            | none => none
          | none => none
        | _ => none
      | _ => none
    | _ => none
  | _ => none

theorem opX_sound {P : Program} {env : Env} {M M' : Mem} {o : Oper} {v : Value} {r : Nat → Option (Nat × Nat)} {a : Act} {w : World} (h : opX P env M o = some (v, M')) (he : ER r env a.tmps) (hM : MR r M w) :
    ∃ r' v' w', Out P (execOp a.eval o) w r M v M' r' v' w' := by
  obtain ⟨dst, op, ty, pos, after, guard⟩ := o
  cases op with
  | binOp op t x y yt =>
    simp only [opX] at h
    cases h0 : ev env x with
    | none => rw [h0] at h; cases h
    | some u =>
      rw [h0] at h
      simp only at h
      cases h1 : ev env y with
      | none => rw [h1] at h; cases h
      | some z =>
        rw [h1] at h
        simp only at h
        cases h2 : nilEq P t u z with
        | none => rw [h2] at h; cases h
        | some q =>
          rw [h2] at h
          simp only at h
          obtain ⟨k1, k2⟩ := nilEq_sound h2 (ev_sound he h0) (ev_sound he h1) x y w
          split at h
          · cases h; exact ⟨r, _, w, .still hM (run_value k1) (.of_bool r _)⟩
          · cases h; exact ⟨r, _, w, .still hM (run_value k2) (.of_bool r _)⟩
          · cases h
  | index t x ix =>
    simp only [opX] at h
    cases h0 : ev env x with
    | none => rw [h0] at h; cases h
    | some u =>
      rw [h0] at h
      simp only at h
      cases h1 : ev env ix with
      | none => rw [h1] at h; cases h
      | some i =>
        rw [h1] at h
        simp only at h
        cases h2 : indexA P t u i with
        | none => rw [h2] at h; cases h
        | some q =>
          rw [h2] at h; cases h
          obtain ⟨v', h3, h4⟩ := index_sound t (ev_sound he h0) (ev_sound he h1) h2
          exact ⟨r, v', w, .still hM (run_value (h3 w)) h4⟩
  | sliceToArrayPointer t x =>
    simp only [opX] at h
    cases h0 : ev env x with
    | none => rw [h0] at h; cases h
    | some u =>
      rw [h0] at h
      simp only at h
      cases h2 : arrayAtA P t u with
      | none => rw [h2] at h; cases h
      | some q =>
        rw [h2] at h; cases h
        obtain ⟨v', h3, h4⟩ := arrayAt_sound t (ev_sound he h0) h2
        exact ⟨r, v', w, .still hM (run_value (h3 w)) h4⟩
  | nilCheck x =>
    simp only [opX] at h
    split at h
    case h_3 => cases h
    · rename_i f xs us h0
      cases h
      have hh := ev_sound he h0
      obtain ⟨ys, vs, hv, _, _⟩ := hh.of_func rfl
      exact ⟨r, a.eval x, w, .still hM (by simp [execOp, hv]) hh⟩
    · rename_i i h0
      cases h
      have hh := ev_sound he h0
      obtain ⟨g, hg, hv⟩ := hh.of_map
      exact ⟨r, a.eval x, w, .still hM (by simp [execOp, hv]) hh⟩
  | makeInterface t x =>
    simp only [opX] at h
    cases h0 : ev env x with
    | none => rw [h0] at h; cases h
    | some u =>
      rw [h0] at h
      simp only at h
      cases h1 : ifaceT P t with
      | true => rw [h1] at h; cases h
      | false =>
        rw [h1] at h; cases h
        refine ⟨r, .iface t (a.eval x), w, .still hM (run_value ?_) (.iface _ _ _ (ev_sound he h0))⟩
        unfold ifaceT at h1
        split at h1
        · cases h1
        · rename_i d hne hu
          cases d <;> first | exact (hne _ rfl).elim | simp [Instr.makeInterface, underlying, hu]
        · cases h1
  | buildSlice t len parts =>
    simp only [opX] at h
    cases h0 : evp env parts.toList with
    | none => rw [h0] at h; cases h
    | some q =>
      rw [h0] at h
      obtain ⟨r', v', w', h2, h3, h4, h5⟩ := build0_sound (P := P) (ps' := parts.map fun p => (p.1, a.eval p.2)) hM t len (by simpa using evp_sound he h0) h
      exact ⟨r', v', w', .inl (run_value h2), h3, h4, h5⟩
  | makeMap t hint =>
    simp only [opX] at h
    cases h0 : evo env hint with
    | none => rw [h0] at h; cases h
    | some u =>
      rw [h0] at h
      obtain ⟨r', v', w', h2, h3, h4, h5⟩ := makeMap_sound (P := P) hM t (evo_sound he h0) h
      exact ⟨r', v', w', .inl (run_value h2), h3, h4, h5⟩
  | mapUpdate t m k x =>
    simp only [opX] at h
    cases h0 : ev env m with
    | none => rw [h0] at h; cases h
    | some u =>
      rw [h0] at h
      simp only at h
      cases h1 : ev env k with
      | none => rw [h1] at h; cases h
      | some i =>
        rw [h1] at h
        simp only at h
        cases h2 : ev env x with
        | none => rw [h2] at h; cases h
        | some c =>
          rw [h2] at h
          simp only at h
          cases h3 : updateA P M t u i c with
          | none => rw [h3] at h; cases h
          | some M2 =>
            rw [h3] at h; cases h
            obtain ⟨w', h4, h5, h6⟩ := update_sound hM t (ev_sound he h0) (ev_sound he h1) (ev_sound he h2) h3
            exact ⟨r, Go.undef, w', .inr ⟨run_unit h4, rfl⟩, .undef r, h5, h6⟩
  | insert t m k x =>
    simp only [opX] at h
    cases h0 : ev env m with
    | none => rw [h0] at h; cases h
    | some u =>
      rw [h0] at h
      simp only at h
      cases h1 : ev env k with
      | none => rw [h1] at h; cases h
      | some i =>
        rw [h1] at h
        simp only at h
        cases h2 : ev env x with
        | none => rw [h2] at h; cases h
        | some c =>
          rw [h2] at h
          simp only at h
          cases h3 : updateA P M t u i c with
          | none => rw [h3] at h; cases h
          | some M2 =>
            rw [h3] at h; cases h
            obtain ⟨w', h4, h5, h6⟩ := update_sound hM t (ev_sound he h0) (ev_sound he h1) (ev_sound he h2) h3
            exact ⟨r, Go.undef, w', .inr ⟨run_unit h4, rfl⟩, .undef r, h5, h6⟩
  | lookup t x k ok =>
    simp only [opX] at h
    cases h0 : ev env x with
    | none => rw [h0] at h; cases h
    | some u =>
      rw [h0] at h
      simp only at h
      cases h1 : ev env k with
      | none => rw [h1] at h; cases h
      | some i =>
        rw [h1] at h
        simp only at h
        cases h2 : lookupA P M t u i ok with
        | none => rw [h2] at h; cases h
        | some q =>
          rw [h2] at h; cases h
          obtain ⟨v', h3, h4⟩ := lookup_sound hM t ok (ev_sound he h0) (ev_sound he h1) h2
          exact ⟨r, v', w, .still hM (run_value h3) h4⟩
  | call c =>
    obtain ⟨callee, args, argTypes⟩ := c
    simp only [opX] at h
    split at h
    case h_4 => cases h
    · split at h
      case h_2 => cases h
      rename_i d s hargs
      split at h
      case h_2 => cases h
      rename_i t u hty
      cases h0 : ev env d with
      | none => rw [h0] at h; cases h
      | some dv =>
        rw [h0] at h
        simp only at h
        cases h1 : ev env s with
        | none => rw [h1] at h; cases h
        | some sv =>
          rw [h1] at h
          obtain ⟨w', h2, ⟨n, rfl⟩, h3, h4⟩ := copy_sound (P := P) hM t u ty (ev_sound he h0) (ev_sound he h1) h
          have e1 := toArray_of hargs
          have e2 := toArray_of hty
          subst e1; subst e2
          refine ⟨r, _, w', .inl ?_, .of_int r _ _, h3, h4⟩
          simp [execOp, resolve, invoke, builtin, h2]
    · split at h
      case h_2 => cases h
      rename_i d s hargs
      split at h
      case h_2 => cases h
      rename_i t u hty
      cases h0 : ev env d with
      | none => rw [h0] at h; cases h
      | some dv =>
        rw [h0] at h
        simp only at h
        cases h1 : ev env s with
        | none => rw [h1] at h; cases h
        | some sv =>
          rw [h1] at h
          simp only at h
          cases h2 : append0A P t u dv sv with
          | none => rw [h2] at h; cases h
          | some q =>
            rw [h2] at h; cases h
            obtain ⟨h3, h4⟩ := append0_sound (P := P) (w := w) t u ty (ev_sound he h0) (ev_sound he h1) h2
            have e1 := toArray_of hargs
            have e2 := toArray_of hty
            subst e1; subst e2
            exact ⟨r, _, w, .still hM (by simp [execOp, resolve, invoke, builtin, h3]) h4⟩
    · split at h
      case h_2 => cases h
      rename_i x hargs
      split at h
      case h_2 => cases h
      rename_i t hty
      cases h0 : ev env x with
      | none => rw [h0] at h; cases h
      | some u =>
        rw [h0] at h
        simp only at h
        cases h1 : lenMapA P M t u with
        | none => rw [h1] at h; cases h
        | some q =>
          rw [h1] at h; cases h
          obtain ⟨h2, n, rfl⟩ := lenMap_sound (P := P) hM t ty (ev_sound he h0) h1
          have e1 := toArray_of hargs
          have e2 := toArray_of hty
          subst e1; subst e2
          exact ⟨r, _, w, .still hM (by simp [execOp, resolve, invoke, builtin, h2]) (.of_int r _ _)⟩
  | _ => simp only [opX] at h; cases h

end Ev
end Go.Proofs.Ytjinpngojdefiaa
/-! ## Z -/
namespace Go.Proofs.Ytjinpngojdefiaa
open Go.RowKit
namespace Ev

theorem VR.of_empty {r : Nat → Option (Nat × Nat)} {q : Option Nat} {v : Value} (h : VR r (.chan q) v) : q = some 0 ∧ ∃ a c, v = .slice (some a) 0 c := by
  cases h with
  | same k _ h => cases k <;> simp [af] at h
  | empty a c => exact ⟨rfl, a, c, rfl⟩

/-! ### A slice of no elements. -/
def sliceE (P : Program) (t : TypeId) (x : Value) (lo hi mx : Option Value) : Option Value := match P.underlying t with
  | some (.slice e) => match sizeA P e with
    | some _ => match mx with
      | none => match x with
        | .slice (some _) len cap => match boundsA len cap lo hi none with
          | some (l, h, _) => bif Nat.beq h l then some (.chan (some 0)) else none
          | none => none
        | .chan (some 0) => match boundsA 0 0 lo hi none with
          | some (l, h, _) => bif Nat.beq h l then some (.chan (some 0)) else none
          | none => none
        | _ => none
      | some _ => none
    | none => none
  | _ => none
theorem sliceE_sound {P : Program} {r : Nat → Option (Nat × Nat)} {v x x' : Value} {lo hi mx lo' hi' mx' : Option Value} (t : TypeId) (hx : VR r x x') (h1 : OR r lo lo') (h2 : OR r hi hi') (h3 : OR r mx mx')
    (h : sliceE P t x lo hi mx = some v) : ∃ v', (∀ w, (Instr.sliceAt t x' lo' hi' mx').run P w = .ok v' w) ∧ VR r v v' := by
  unfold sliceE at h
  split at h
  case h_2 => cases h
  rename_i e hu
  cases hn : sizeA P e with
  | none => rw [hn] at h; cases h
  | some n =>
    rw [hn] at h
    simp only at h
    cases mx with
    | some _ => cases h
    | none =>
      cases mx' with
      | some _ => exact h3.elim
      | none =>
        simp only at h
        have go : ∀ (a : Addr) (len cap cap' l hh m : Nat), x' = .slice (some a) len cap' → cap ≤ cap' → boundsA len cap lo hi none = some (l, hh, m) → (bif Nat.beq hh l then some (Value.chan (some 0)) else none) = some v →
            ∃ v', (∀ w, (Instr.sliceAt t x' lo' hi' none).run P w = .ok v' w) ∧ VR r v v' := by
          intro a len cap cap' l hh m hx' hc hb he
          subst hx'
          obtain ⟨m', hrun, _, _, _⟩ := bounds_sound (P := P) (mx := none) (mx' := none) true hc h1 h2 trivial hb
          cases hq : Nat.beq hh l with
          | false => rw [hq] at he; cases he
          | true =>
            rw [hq] at he; cases he
            have e1 := Nat.eq_of_beq_eq_true hq
            subst e1
            refine ⟨.slice (some (if m' = hh then a else a.add (hh * n))) 0 (m' - hh), fun w => ?_, .empty _ _⟩
            by_cases hm : m' = hh <;> simp [Instr.sliceAt, Instr.slice, underlying, hu, hrun, sizeA_run hn, hm]
        split at h
        case h_3 => cases h
        · obtain ⟨_, g, c', _, hc, _, rfl⟩ := hx.of_slice
          split at h
          case h_2 => cases h
          rename_i hb
          exact go _ _ _ _ _ _ _ rfl hc hb h
        · obtain ⟨_, a, c, rfl⟩ := hx.of_empty
          split at h
          case h_2 => cases h
          rename_i hb
          exact go _ _ _ _ _ _ _ rfl (Nat.zero_le _) hb h
def lenE (P : Program) (t : TypeId) (x : Value) : Option Value := match x with
  | .chan _ => match P.underlying t with
    | some (.slice _) => some (.int .i64 0)
    | _ => none
  | _ => none
theorem lenE_sound {P : Program} {r : Nat → Option (Nat × Nat)} {v x x' : Value} (t ty : TypeId) (hx : VR r x x') (h : lenE P t x = some v) (w : World) : (Builtin.len_ #[t] ty #[x']).run P w = .ok v w ∧ VR r v v := by
  unfold lenE at h
  split at h
  case h_2 => cases h
  obtain ⟨_, a, c, rfl⟩ := hx.of_empty
  split at h
  case h_2 => cases h
  rename_i e hu
  cases h
  exact ⟨by simp [Builtin.len_, underlying, hu, goInt], .of_int r _ _⟩
def appendE (P : Program) (t u : TypeId) (s x : Value) : Option Value := match x with
  | .chan _ => append0A P t u s (.slice none 0 0)
  | _ => none
theorem appendE_sound {P : Program} {r : Nat → Option (Nat × Nat)} {w : World} {v s s' x x' : Value} (t u ty : TypeId) (hs : VR r s s') (hx : VR r x x') (h : appendE P t u s x = some v) :
    (Builtin.append_ #[t, u] ty #[s', x']).run P w = .ok s' w ∧ VR r v s' := by
  unfold appendE at h
  split at h
  case h_2 => cases h
  obtain ⟨_, xa, xc, rfl⟩ := hx.of_empty
  unfold append0A at h
  split at h
  case h_2 => cases h
  rename_i e hu
  cases hn : sizeA P e with
  | none => rw [hn] at h; cases h
  | some n =>
    rw [hn] at h
    simp only at h
    split at h
    case h_2 => cases h
    rename_i e2 hu2
    split at h
    case h_2 => cases h
    rename_i a k c
    cases hb : Nat.ble k c with
    | false => rw [hb] at h; cases h
    | true =>
      rw [hb] at h; cases h
      have hle := Nat.le_of_ble_eq_true hb
      obtain ⟨a', c', rfl, hc⟩ := hs.slice_len
      have hle' : k ≤ c' := Nat.le_trans hle hc
      refine ⟨?_, hs⟩
      cases a' <;> simp [Builtin.append_, run_underlying hu, run_underlying hu2, Builtin.lenOf, Builtin.firstCells, sizeA_run hn, hle', storeCells, loadCells, loadCellsFrom]
def nilE (P : Program) (t : TypeId) (x y : Value) : Bool := match P.underlying t with
  | some (.slice _) => match x, y with
    | .chan _, .slice none _ _ => true
    | .slice none _ _, .chan _ => true
    | _, _ => false
  | _ => false
theorem nilE_sound {P : Program} {t : TypeId} {x y x' y' : Value} {r : Nat → Option (Nat × Nat)} (h : nilE P t x y = true) (hx : VR r x x') (hy : VR r y y') (xo yo : Operand) (w : World) :
    (do eqGuard .eql t xo yo x' y'; binOp .eql t x' y' : Sem Value).run P w = .ok (.bool false) w ∧ (do eqGuard .neq t xo yo x' y'; binOp .neq t x' y' : Sem Value).run P w = .ok (.bool !false) w := by
  unfold nilE at h
  split at h
  case h_2 => cases h
  rename_i e hu
  split at h
  case h_3 => cases h
  · obtain ⟨_, a, c, rfl⟩ := hx.of_empty
    obtain ⟨b', m', d', rfl, hb⟩ := hy.slice_shape
    cases b' with
    | some _ => cases hb
    | none => exact equal_run (fun dd => by simp [Op.equalIn, underlying, hu]) xo yo rfl rfl
  · obtain ⟨_, a, c, rfl⟩ := hy.of_empty
    obtain ⟨b', m', d', rfl, hb⟩ := hx.slice_shape
    cases b' with
    | some _ => cases hb
    | none => exact equal_run (fun dd => by simp [Op.equalIn, underlying, hu]) xo yo rfl rfl

/-! ### Elements of no cells. -/
def loadZ (P : Program) (t : TypeId) (x : Value) : Bool := match x with
  | .pointer (some _) => match aggT P t with
    | some true => match sizeA P t with
      | some 0 => true
      | _ => false
    | _ => false
  | _ => false
theorem loadZ_sound {P : Program} {r : Nat → Option (Nat × Nat)} {w : World} {x x' : Value} (t : TypeId) (hx : VR r x x') (h : loadZ P t x = true) : (Instr.loadAt t x').run P w = .ok (.agg #[]) w := by
  unfold loadZ at h
  split at h
  case h_2 => cases h
  obtain ⟨_, g, _, rfl⟩ := hx.of_ptr
  split at h
  case h_2 => cases h
  rename_i ha
  split at h
  case h_2 => cases h
  rename_i hs
  simp [Instr.loadAt, Instr.sureAddr, loadVar, aggT_run ha, sizeA_run hs, loadCells, loadCellsFrom]
def noCells (l : List (Nat × Value)) : Bool := l.all fun p => nilL' (cellsOf' p.2)
where nilL' : List Value → Bool
  | [] => true
  | _ => false
theorem fill_none {r : Nat → Option (Nat × Nat)} : ∀ {ps ps' : List (Nat × Value)}, PR r ps ps' → noCells ps = true → Instr.fill (fun _ => some (0, 0)) #[] ps' = some #[]
  | [], [], _, _ => rfl
  | [], _ :: _, h, _ => h.elim
  | _ :: _, [], h, _ => h.elim
  | p :: ps, q :: qs, h, hn => by
    obtain ⟨h1, h2, h3⟩ := h
    simp only [noCells, List.all_cons, Bool.and_eq_true] at hn
    have hq : q.2.cells = #[] := by
      have := cellsOf_rel h2
      cases hc : cellsOf' p.2 with
      | cons x xs => rw [hc] at hn; cases hn.1
      | nil =>
        rw [hc] at this
        have := this.1
        simpa using this.symm
    have ih := fill_none h3 (by simpa [noCells] using hn.2)
    have hz : (#[] : Array Value).zipIdx = #[] := rfl
    simp only [Instr.fill, hq, hz]
    simpa using ih
def buildZ (P : Program) (M : Mem) (t : TypeId) (len : Nat) (parts : List (Nat × Value)) : Option (Value × Mem) := match P.underlying t with
  | some (.slice e) => match sizeA P e with
    | some 0 => bif noCells parts then some (.slice (some ⟨64 * M.next, 0, none⟩) len len, M.new []) else none
    | _ => none
  | _ => none
theorem buildZ_sound {P : Program} {r : Nat → Option (Nat × Nat)} {M M' : Mem} {w : World} {v : Value} (hM : MR r M w) (t : TypeId) (len : Nat) {ps : List (Nat × Value)} {ps' : Array (Nat × Value)} (hp : PR r ps ps'.toList) (h : buildZ P M t len ps = some (v, M')) :
    ∃ r' v' w', (Instr.buildSlice t len ps').run P w = .ok v' w' ∧ VR r' v v' ∧ MR r' M' w' ∧ Stp r M w r' M' w' := by
  unfold buildZ at h
  split at h
  case h_2 => cases h
  rename_i e hu
  split at h
  case h_2 => cases h
  rename_i hn
  cases hb : noCells ps with
  | false => rw [hb] at h; cases h
  | true =>
    rw [hb] at h; cases h
    have hf := fill_none hp hb
    obtain ⟨r', w', h5, h6, h7, h8⟩ := new_var_sound (P := P) hM (cs := []) (cc := #[]) e (.nil r)
    exact ⟨r', .slice (some ⟨w.heap.size, 0, none⟩) len len, w', by simp [Instr.buildSlice, underlying, hu, sizeA_run hn, show ∀ f : Nat → Value, (Array.range 0).map f = #[] from fun f => by apply Array.ext' ; simp, hf, h5], .slice _ _ _ _ _ _ h6 (Nat.le_refl _) (.inl rfl), h7, h8⟩

/-- A name more for a place that is known, or for one that isn't. -/
theorem name_sound {r : Nat → Option (Nat × Nat)} {M : Mem} {w : World} (hM : MR r M w) (z : Nat) (hz : z < 64) (g : Nat × Nat) :
    MR (more r (64 * M.next + z) g) { M with next := M.next + 1 } w ∧ Stp r M w (more r (64 * M.next + z) g) { M with next := M.next + 1 } w := by
  have hext := more_ext (hM.ne z) g
  have back : ∀ i h, more r (64 * M.next + z) g i = some h → (∃ h', r i = some h') → r i = some h := fun i h h1 ⟨h', h2⟩ => by
    have := hext _ _ h2
    rw [h1] at this; cases this; exact h2
  refine ⟨⟨fun i cs hl => ?_, fun i j cs ds a b hl hl' hi hj e => ?_, fun i a hi => ?_, fun i cs hl => ?_, fun i o hl => ?_, fun i j o p a b hl hl' hi hj e => ?_⟩,
    ⟨hext, rfl, Nat.le_succ _, fun i cs hl _ => ⟨cs, hl⟩, rfl, rfl, rfl, Nat.le_refl _, fun _ _ _ _ => rfl, fun i cs a hlo hl hi _ => ?_, rfl, fun i o a hl hi _ => ?_⟩⟩
  · obtain ⟨a, t, cc, h1, h2, h3, h4⟩ := hM.blk i cs hl
    exact ⟨a, t, cc, hext _ _ h1, h2, h3, fun j v hv => by obtain ⟨v', q1, q2⟩ := h4 j v hv; exact ⟨v', q1, q2.mono hext⟩⟩
  · obtain ⟨a', _, _, h1, _⟩ := hM.blk i cs hl
    obtain ⟨b', _, _, h2, _⟩ := hM.blk j ds hl'
    exact hM.inj i j cs ds a b hl hl' (back _ _ hi ⟨_, h1⟩) (back _ _ hj ⟨_, h2⟩) e
  · simp only [more] at hi
    split at hi
    · simp only; omega
    · have := hM.bound i a hi; simp only; omega
  · obtain ⟨h1, h2, ⟨s, h3⟩, h4⟩ := hM.glob i cs hl
    exact ⟨h1, h2, ⟨s, hext _ _ h3⟩, h4⟩
  · obtain ⟨a, x, h1, h2, h3⟩ := hM.obj i o hl
    exact ⟨a, x, hext _ _ h1, h2, h3.mono hext⟩
  · obtain ⟨a', _, h1, _⟩ := hM.obj i o hl
    obtain ⟨b', _, h2, _⟩ := hM.obj j p hl'
    exact hM.injO i j o p a b hl hl' (back _ _ hi ⟨_, h1⟩) (back _ _ hj ⟨_, h2⟩) e
  · obtain ⟨a', _, _, h1, _⟩ := hM.blk i cs hl
    exact ⟨i, cs, a, hlo, hl, back _ _ hi ⟨_, h1⟩, rfl⟩
  · obtain ⟨a', _, h1, _⟩ := hM.obj i o hl
    exact ⟨i, o, a, hl, back _ _ hi ⟨_, h1⟩, rfl⟩
def lenZ (x : Value) : Option Nat := match x with
  | .slice _ m _ => some m
  | .chan _ => some 0
  | _ => none
theorem lenZ_sound {r : Nat → Option (Nat × Nat)} {x x' : Value} {m : Nat} (hx : VR r x x') (h : lenZ x = some m) : ∃ a c, x' = .slice a m c := by
  unfold lenZ at h
  split at h
  · cases h
    obtain ⟨a, c, rfl, _⟩ := hx.slice_len
    exact ⟨a, c, rfl⟩
  · cases h
    obtain ⟨_, a, c, rfl⟩ := hx.of_empty
    exact ⟨_, c, rfl⟩
  · cases h
def appendZ (P : Program) (M : Mem) (t : TypeId) (s x : Value) : Option (Value × Mem) := match P.underlying t with
  | some (.slice e) => match P.info? e with
    | some i => match zeroOf P e with
      | some z => bif Nat.beq z.cells.size 0 && (Nat.beq i.size 0 && Nat.beq i.bytes 0) then match lenZ x with
          | some m => match s with
            | .slice none 0 0 => bif Nat.ble 1 m && Nat.ble m 9223372036854775807 then some (.slice (some ⟨64 * M.next + 63, 0, none⟩) m m, { M with next := M.next + 1 }) else none
            | .slice (some a) k c => bif Nat.ble (k + m) 9223372036854775807 && Nat.beq a.off 0 then
                bif Nat.ble (k + m) c then some (.slice (some ⟨a.block, 0, none⟩) (k + m) c, M)
                else some (.slice (some ⟨64 * M.next + 63, 0, none⟩) (k + m) (k + m), { M with next := M.next + 1 })
              else none
            | _ => none
          | none => none
        else none
      | none => none
    | none => none
  | _ => none
theorem zeroCells_none {z : Array Value} (h : z.size = 0) (n : Nat) : Builtin.zeroCells z n = #[] := by
  apply Array.eq_empty_of_size_eq_zero
  simp [Builtin.zeroCells, h]
theorem appendZ_sound {P : Program} {r : Nat → Option (Nat × Nat)} {M M' : Mem} {w : World} {v s s' x x' : Value} (hM : MR r M w) (t ty : TypeId) (hs : VR r s s') (hx : VR r x x') (h : appendZ P M t s x = some (v, M')) :
    ∃ r' v' w', (Builtin.append_ #[t, t] ty #[s', x']).run P w = .ok v' w' ∧ VR r' v v' ∧ MR r' M' w' ∧ Stp r M w r' M' w' := by
  unfold appendZ at h
  split at h
  case h_2 => cases h
  rename_i e hu
  cases hi : P.info? e with
  | none => rw [hi] at h; cases h
  | some i =>
    rw [hi] at h
    simp only at h
    cases hz : zeroOf P e with
    | none => rw [hz] at h; cases h
    | some z =>
      rw [hz] at h
      simp only at h
      have hiz := zeroOf_info hi hz
      obtain ⟨_, hzr⟩ := zeroOf_run hz
      generalize hc : (Nat.beq z.cells.size 0 && (Nat.beq i.size 0 && Nat.beq i.bytes 0)) = d at h
      cases d with
      | false => cases h
      | true =>
        simp only [cond_true] at h
        simp only [Bool.and_eq_true] at hc
        have hzs : z.cells.size = 0 := Nat.eq_of_beq_eq_true hc.1
        have hn : i.size = 0 := Nat.eq_of_beq_eq_true hc.2.1
        have hb : i.bytes = 0 := Nat.eq_of_beq_eq_true hc.2.2
        have hsz : sizeA P e = some 0 := by simp [sizeA, hi, hn]
        cases hlx : lenZ x with
        | none => rw [hlx] at h; cases h
        | some m =>
          rw [hlx] at h
          simp only at h
          obtain ⟨xa, xc, rfl⟩ := lenZ_sound hx hlx
          have hfx : ∀ (k : Nat) (a : Option Addr) (n c : Nat) (w : World), (Builtin.firstCells 0 k (.slice a n c)).run P w = .ok #[] w := fun k a n c w => by
            cases a <;> simp [Builtin.firstCells, loadCells, loadCellsFrom]
          -- a new row
          have grow : ∀ (sa : Option Addr) (k c' : Nat), c' < k + m → k + m ≤ 9223372036854775807 → ∃ w' cap, k + m ≤ cap ∧ w' = w.drew.alloc (.cells #[] e) ∧ (Builtin.append_ #[t, t] ty #[.slice sa k c', .slice xa m xc]).run P w = .ok (.slice (some ⟨w.heap.size, 0, none⟩) (k + m) cap) w' := fun sa k c' hlt hmax => by
            refine ⟨w.drew.alloc (.cells #[] e), grownCap w (k + m) c' e, grownCap_ge w (k + m) c' e, rfl, ?_⟩
            have h1 : ¬ (k + m ≤ c') := by omega
            have h2 : ¬ (9223372036854775807 < ((k : Int) + (m : Int))) := by omega
            simp [Builtin.append_, run_underlying hu, sizeOf, typeInfo, zeroValue, hi, hiz, hn, Builtin.lenOf, h1, h2, hb, Question.forced, hfx, newRow, grownCap, zeroCells_none hzs]
          have hnew : ∀ w' (cap k : Nat), k ≤ cap → w' = w.drew.alloc (.cells #[] e) → ∃ r', VR r' (.slice (some ⟨64 * M.next + 63, 0, none⟩) k k) (.slice (some ⟨w.heap.size, 0, none⟩) k cap) ∧ MR r' { M with next := M.next + 1 } w' ∧ Stp r M w r' { M with next := M.next + 1 } w' := fun w' cap k hk hw => by
            subst hw
            obtain ⟨g1, g2⟩ := new_sound (t := e) (cs := []) (cc := #[]) (w' := w.drew.alloc (.cells #[] e)) hM 63 0 (by omega) (fun _ => rfl) (fun j v hv => by simp at hv) rfl rfl rfl rfl
            have hsub : ∀ i cs, look M.bl i = some cs → look (M.newZ 63 []).bl i = some cs := fun i cs hl => by
              obtain ⟨g', _, _, q, _⟩ := hM.blk i cs hl
              simp only [Mem.newZ, look_cons]
              rw [if_neg (hM.ne 63 i g' q).symm]
              exact hl
            refine ⟨_, .slice _ _ _ _ _ _ (more_self r _ _) hk (.inr (.inr (by omega))), g1.sub hsub (fun i cs hl => (hM.glob i cs hl).2.1), g2.fewer hsub⟩
          split at h
          case h_3 => cases h
          · have := hs.eq (k := 1) rfl
            subst this
            generalize hcc : (Nat.ble 1 m && Nat.ble m 9223372036854775807) = d at h
            cases d with
            | false => cases h
            | true =>
              cases h
              simp only [Bool.and_eq_true] at hcc
              have b1 := Nat.le_of_ble_eq_true hcc.1
              have b2 := Nat.le_of_ble_eq_true hcc.2
              obtain ⟨w', cap, k1, k2, k3⟩ := grow none 0 0 (by omega) (by omega)
              obtain ⟨r', q1, q2, q3⟩ := hnew w' cap m (by omega) k2
              rw [Nat.zero_add] at k3
              exact ⟨r', _, w', k3, q1, q2, q3⟩
          · rename_i a k c
            obtain ⟨_, g, c', hg, hcap, ht, rfl⟩ := hs.of_slice
            generalize hcc : (Nat.ble (k + m) 9223372036854775807 && Nat.beq a.off 0) = d at h
            cases d with
            | false => cases h
            | true =>
              simp only [cond_true] at h
              simp only [Bool.and_eq_true] at hcc
              have b1 := Nat.le_of_ble_eq_true hcc.1
              have b2 : a.off = 0 := Nat.eq_of_beq_eq_true hcc.2
              have inplace : k + m ≤ c' → (Builtin.append_ #[t, t] ty #[.slice (some ⟨g.1, a.off, none⟩) k c', .slice xa m xc]).run P w = .ok (.slice (some ⟨g.1, 0, none⟩) (k + m) c') w := fun hle => by
                simp [Builtin.append_, run_underlying hu, sizeA_run hsz, Builtin.lenOf, hle, hfx, storeCells, b2]
              cases hroom : Nat.ble (k + m) c with
              | true =>
                rw [hroom] at h
                cases h
                have hr := Nat.le_of_ble_eq_true hroom
                rw [b2] at ht
                exact ⟨r, _, w, inplace (by omega), .slice _ _ _ _ _ _ hg hcap ht, hM, .refl _ _ _⟩
              | false =>
                rw [hroom] at h
                cases h
                rcases Nat.lt_or_ge c' (k + m) with q | q
                · obtain ⟨w', cap, k1, k2, k3⟩ := grow (some ⟨g.1, a.off, none⟩) k c' q b1
                  obtain ⟨r', q1, q2, q3⟩ := hnew w' cap (k + m) k1 k2
                  exact ⟨r', _, w', k3, q1, q2, q3⟩
                · obtain ⟨m1, m2⟩ := name_sound hM 63 (by omega) g
                  exact ⟨_, _, w, inplace q, .slice _ _ _ _ _ _ (more_self r _ _) q (.inr (.inr (by omega))), m1, m2⟩

/-! ### Keys of several cells. -/
def askKey (kd : TypeDesc) : Bool := match kd with
  | .struct _ => true
  | .array _ _ => true
  | _ => false
theorem sameNow_ask {kd : TypeDesc} (h : askKey kd = true) (k k' : Value) : Instr.sameNow kd k k' = none := by
  unfold askKey at h
  split at h <;> first | rfl | cases h
def mapAsk (P : Program) (kt : TypeId) (k : Value) : List (Value × Value) → Nat → Option (Option (Nat × Value × Value))
  | [], _ => some none
  | p :: es, i => match pureRun P (Op.equal kt k p.1) with
    | some true => some (some (i, p.1, p.2))
    | some false => mapAsk P kt k es (i + 1)
    | none => none
theorem ask_none {P : Program} {r : Nat → Option (Nat × Nat)} {kt : TypeId} {k : Value} : ∀ {es : List (Value × Value)} {l : List MapEntry} {i : Nat}, EntsR r es l → mapAsk P kt k es i = some none → ∀ w, (Instr.findAsking kt k l i).run P w = .ok none w
  | [], [], _, _, _, w => rfl
  | p :: es, e :: l, i, h, hm, w => by
    simp only [mapAsk] at hm
    split at hm
    · cases hm
    · rename_i hs
      have := pureRun_sound hs w
      simp only [Instr.findAsking, h.1.1, Sem.run_bind, this, Result.andThen_ok, Bool.false_eq_true, if_false]
      exact ask_none h.2 hm w
    · cases hm
theorem ask_some {P : Program} {r : Nat → Option (Nat × Nat)} {kt : TypeId} {k u v : Value} {n : Nat} : ∀ {es : List (Value × Value)} {l : List MapEntry} {i : Nat}, EntsR r es l → mapAsk P kt k es i = some (some (n, u, v)) →
    ∃ e, (∀ w, (Instr.findAsking kt k l i).run P w = .ok (some (n, e.val)) w) ∧ e.key = u ∧ VR r v e.val ∧ i ≤ n ∧ l[n - i]? = some e
  | [], [], _, _, hm => by cases hm
  | p :: es, e :: l, i, h, hm => by
    simp only [mapAsk] at hm
    split at hm
    · rename_i hs
      cases hm
      refine ⟨e, fun w => ?_, h.1.1, h.1.2, Nat.le_refl _, by simp⟩
      have := pureRun_sound hs w
      simp [Instr.findAsking, h.1.1, this]
    · rename_i hs
      obtain ⟨e', h1, h2, h3, h4, h5⟩ := ask_some h.2 hm
      refine ⟨e', fun w => ?_, h2, h3, by omega, ?_⟩
      · have := pureRun_sound hs w
        simp only [Instr.findAsking, h.1.1, Sem.run_bind, this, Result.andThen_ok, Bool.false_eq_true, if_false]
        exact h1 w
      · have : n - i = (n - (i + 1)) + 1 := by omega
        rw [this]
        simpa using h5
    · cases hm
theorem findKey_ask {P : Program} {kt : TypeId} {kd : TypeDesc} (hu : P.underlying kt = some kd) (ha : askKey kd = true) (k : Value) {l : List MapEntry} {q : Option (Nat × Value)} {w : World} (h : (Instr.findAsking kt k l).run P w = .ok q w) : (Instr.findKey kt k l).run P w = .ok q w := by
  cases l with
  | nil =>
    have : q = none := by
      have h' : (.ok none w : Result (Option (Nat × Value))) = .ok q w := h
      cases h'; rfl
    subst this
    simp [Instr.findKey, underlying, hu, Instr.findNow]
  | cons e l =>
    have : Instr.findNow kd k (e :: l) 0 = none := by simp only [Instr.findNow, sameNow_ask ha]
    simp only [Instr.findKey, Sem.run_bind, underlying, run_program, Result.andThen_ok, hu, Sem.run_pure, this]
    exact h
def empE : List (Value × Value) → Bool
  | [] => true
  | _ => false
def lookupG (P : Program) (M : Mem) (t : TypeId) (x k : Value) (ok : Bool) : Option Value := match P.underlying t with
  | some (.map kt et) => match P.underlying kt with
    | some kd => bif askKey kd && af 4 k then match x with
      | .map (some i) => match look M.ob i with
        | some (.map es) => match pureRun P (Instr.checkKey (empE es) 10000 kt k) with
          | some _ => match mapAsk P kt k es 0 with
            | some (some (_, _, v)) => some (okA ok v true)
            | some none => match zeroOf P et with
              | some z => some (okA ok z false)
              | none => none
            | none => none
          | none => none
        | _ => none
      | _ => none
      else none
    | none => none
  | _ => none
theorem lookupG_sound {P : Program} {r : Nat → Option (Nat × Nat)} {M : Mem} {w : World} {v x x' k k' : Value} (hM : MR r M w) (t : TypeId) (ok : Bool) (hx : VR r x x') (hk : VR r k k') (h : lookupG P M t x k ok = some v) :
    ∃ v', (Instr.lookup t x' k' ok).run P w = .ok v' w ∧ VR r v v' := by
  unfold lookupG at h
  split at h
  case h_2 => cases h
  rename_i kt et hu
  cases hku : P.underlying kt with
  | none => rw [hku] at h; cases h
  | some kd =>
    rw [hku] at h
    simp only at h
    generalize hc : (askKey kd && af 4 k) = c at h
    cases c with
    | false => cases h
    | true =>
      simp only [cond_true] at h
      simp only [Bool.and_eq_true] at hc
      have ek : k' = k := hk.eq hc.2
      subst ek
      split at h
      case h_2 => cases h
      rename_i i
      obtain ⟨g, hg, rfl⟩ := hx.of_map
      split at h
      case h_2 => cases h
      rename_i es hl
      obtain ⟨g', o, h1, h2, h3⟩ := hM.obj _ _ hl
      rw [hg] at h1; cases h1
      obtain ⟨ents, clock, rfl, hr⟩ := h3
      split at h
      case h_2 => cases h
      rename_i u hch
      have hemp : ents.isEmpty = empE es := by
        have := hr.length
        cases es with
        | nil => simp only [List.length_nil, List.length_eq_zero_iff, Array.toList_eq_nil_iff] at this; subst this; rfl
        | cons p es =>
          cases he : ents.isEmpty with
          | false => rfl
          | true =>
            rw [Array.isEmpty_iff.1 he] at this
            simp at this
      have hchk : (Instr.checkKey ents.isEmpty 10000 kt k').run P w = .ok () w := by rw [hemp]; exact pureRun_sound hch w
      split at h
      · rename_i n u' f hf
        cases h
        obtain ⟨e, f1, _, f2, _, _⟩ := ask_some hr hf
        have := findKey_ask hku hc.1 k' (f1 w)
        exact ⟨_, by simp [Instr.lookup, underlying, hu, run_getObj_map' h2, hchk, this], okA_rel ok true f2⟩
      · rename_i hf
        have := findKey_ask hku hc.1 k' (ask_none hr hf w)
        cases hz : zeroOf P et with
        | none => rw [hz] at h; cases h
        | some z =>
          rw [hz] at h; cases h
          obtain ⟨ha, hzr⟩ := zeroOf_run hz
          exact ⟨_, by simp [Instr.lookup, underlying, hu, run_getObj_map' h2, hchk, this, hzr], okA_rel ok false (.same 4 _ ha)⟩
      · cases h
def updateG (P : Program) (M : Mem) (t : TypeId) (x k v : Value) : Option Mem := match P.underlying t with
  | some (.map kt _) => match P.underlying kt with
    | some kd => bif askKey kd && af 4 k then match x with
      | .map (some i) => match look M.ob i with
        | some (.map es) => match pureRun P (Instr.checkKey false 10000 kt k) with
          | some _ => match mapAsk P kt k es 0 with
            | some (some (n, u, _)) => bif Instr.sameBits 10000 u k then some { M with ob := upd M.ob i (.map (es.set n (k, v))) } else none
            | some none => some { M with ob := upd M.ob i (.map (es ++ [(k, v)])) }
            | none => none
          | none => none
        | _ => none
      | _ => none
      else none
    | none => none
  | _ => none
theorem updateG_sound {P : Program} {r : Nat → Option (Nat × Nat)} {M M' : Mem} {w : World} {v v' x x' k k' : Value} (hM : MR r M w) (t : TypeId) (hx : VR r x x') (hk : VR r k k') (hv : VR r v v') (h : updateG P M t x k v = some M') :
    ∃ w', (Instr.mapUpdate t x' k' v').run P w = .ok () w' ∧ MR r M' w' ∧ Stp r M w r M' w' := by
  unfold updateG at h
  split at h
  case h_2 => cases h
  rename_i kt et hu
  cases hku : P.underlying kt with
  | none => rw [hku] at h; cases h
  | some kd =>
    rw [hku] at h
    simp only at h
    generalize hc : (askKey kd && af 4 k) = c at h
    cases c with
    | false => cases h
    | true =>
      simp only [cond_true] at h
      simp only [Bool.and_eq_true] at hc
      have ek : k' = k := hk.eq hc.2
      subst ek
      split at h
      case h_2 => cases h
      rename_i i
      obtain ⟨g, hg, rfl⟩ := hx.of_map
      split at h
      case h_2 => cases h
      rename_i es hl
      obtain ⟨g', o, h1, h2, h3⟩ := hM.obj _ _ hl
      rw [hg] at h1; cases h1
      obtain ⟨ents, clock, rfl, hr⟩ := h3
      have hlt := hM.ltO hl hg
      have keep : ∀ (ob : Obj) k, k ≠ g.1 → ({ w with heap := w.heap.setIfInBounds g.1 ob } : World).heap[k]? = w.heap[k]? := fun ob k hne => by
        simp [Array.getElem?_setIfInBounds_ne (Ne.symm hne)]
      have self : ∀ (ob : Obj), ({ w with heap := w.heap.setIfInBounds g.1 ob } : World).heap[g.1]? = some ob := fun ob => by simp [hlt]
      split at h
      case h_2 => cases h
      rename_i u hch
      have hchk := pureRun_sound hch w
      split at h
      · rename_i n u' f hf
        cases hsb : Instr.sameBits 10000 u' k' with
        | false => rw [hsb] at h; cases h
        | true =>
          rw [hsb] at h
          cases h
          obtain ⟨e, f1, f0, f2, _, f4⟩ := ask_some hr hf
          have hfk := findKey_ask hku hc.1 k' (f1 w)
          have f4' : ents[n]? = some e := by simpa using f4
          refine ⟨_, by simp [Instr.mapUpdate, underlying, hu, run_getObj_map' h2, hchk, hfk, f4', f0, Instr.keyThatStays, hsb, run_setObj_map' _ h2]; rfl, ?_⟩
          exact setO_sound hM hl hg (p := .map (es.set n (k', v))) ⟨_, _, rfl, by simpa using hr.modify hv n⟩ (self _) (keep _) (by simp) rfl rfl rfl
      · rename_i hf
        cases h
        have hfk := findKey_ask hku hc.1 k' (ask_none hr hf w)
        refine ⟨_, by simp [Instr.mapUpdate, underlying, hu, run_getObj_map' h2, hchk, hfk, run_setObj_map' _ h2]; rfl, ?_⟩
        exact setO_sound hM hl hg (p := .map (es ++ [(k', v)])) ⟨_, _, rfl, by simpa using hr.push (e := { key := k', val := v', born := clock }) rfl hv⟩ (self _) (keep _) (by simp) rfl rfl rfl
      · cases h

/-! ### Texts gone through. -/
def rangeS (P : Program) (M : Mem) (t : TypeId) (x : Value) : Option (Value × Mem) := match x with
  | .string s => match P.underlying t with
    | some .string => some (.pointer (some ⟨64 * M.next, 0, none⟩), { M with next := M.next + 1, ob := (64 * M.next, .iter s 0) :: M.ob })
    | _ => none
  | _ => none
theorem rangeS_sound {P : Program} {r : Nat → Option (Nat × Nat)} {M M' : Mem} {w : World} {v x x' : Value} (hM : MR r M w) (t : TypeId) (hx : VR r x x') (h : rangeS P M t x = some (v, M')) :
    ∃ r' v' w', (Instr.range t x').run P w = .ok v' w' ∧ VR r' v v' ∧ MR r' M' w' ∧ Stp r M w r' M' w' := by
  unfold rangeS at h
  split at h
  case h_2 => cases h
  rename_i s
  split at h
  case h_2 => cases h
  rename_i hu
  cases h
  have := hx.eq (k := 1) rfl
  subst this
  have key := newO_sound (w' := w.alloc (.stringIter s 0)) hM (o := .iter s 0) (h := .stringIter s 0) rfl rfl rfl rfl rfl
  exact ⟨_, _, _, by simp [Instr.range, underlying, hu], .ptr _ _ _ (more_self r _ _), key.1, key.2⟩
def nextS (M : Mem) (x : Value) : Option (Value × Mem) := match x with
  | .pointer (some a) => bif Nat.beq a.off 0 then match look M.ob a.block with
      | some (.iter s pos) => bif Nat.blt pos s.size then some (.tuple #[.bool true, .int .i64 (.ofNat pos), .int .i32 (.ofNat (Utf8.decode s pos).1)], { M with ob := upd M.ob a.block (.iter s (pos + (Utf8.decode s pos).2)) })
        else some (.tuple #[.bool false], M)
      | _ => none
    else none
  | _ => none
theorem nextS_sound {P : Program} {r : Nat → Option (Nat × Nat)} {M M' : Mem} {w : World} {v x x' : Value} (ty : TypeId) (hM : MR r M w) (hx : VR r x x') (h : nextS M x = some (v, M')) :
    ∃ w', (Instr.next x' true ty).run P w = .ok v w' ∧ VR r v v ∧ MR r M' w' ∧ Stp r M w r M' w' := by
  unfold nextS at h
  split at h
  case h_2 => cases h
  rename_i a
  obtain ⟨_, g, hg, rfl⟩ := hx.of_ptr
  cases hb : Nat.beq a.off 0 with
  | false => rw [hb] at h; cases h
  | true =>
    rw [hb] at h
    simp only [cond_true] at h
    have ho : a.off = 0 := Nat.eq_of_beq_eq_true hb
    split at h
    case h_2 => cases h
    rename_i s pos hl
    obtain ⟨g', o, h1, h2, h3⟩ := hM.obj _ _ hl
    rw [hg] at h1; cases h1
    have h3' : o = .stringIter s pos := h3
    subst h3'
    have hlt := hM.ltO hl hg
    have hget : (getObj g.1).run P w = .ok (.stringIter s pos) w := by simp [getObj, Sem.run, h2]
    have hset : ∀ o, (setObj g.1 o).run P w = .ok () { w with heap := w.heap.setIfInBounds g.1 o } := fun o => by simp [setObj, Sem.run, h2]
    cases hp : Nat.blt pos s.size with
    | true =>
      rw [hp] at h
      cases h
      have hlt' : pos < s.size := Nat.le_of_ble_eq_true hp
      refine ⟨{ w with heap := w.heap.setIfInBounds g.1 (.stringIter s (pos + (Utf8.decode s pos).2)) }, ?_, .same 2 _ rfl, ?_⟩
      · simp [Instr.next, ho, hget, hlt', hset, goInt]
      · exact setO_sound hM hl hg (p := .iter s (pos + (Utf8.decode s pos).2)) (h := .stringIter s (pos + (Utf8.decode s pos).2)) rfl (by simp [hlt]) (fun k hk => by simp [Array.getElem?_setIfInBounds_ne (Ne.symm hk)]) (by simp) rfl rfl rfl
    | false =>
      rw [hp] at h
      cases h
      have hge : ¬ pos < s.size := fun q => by
        have : Nat.blt pos s.size = true := Nat.ble_eq_true_of_le q
        rw [this] at hp; cases hp
      refine ⟨w, ?_, .same 2 _ rfl, hM, .refl _ _ _⟩
      simp [Instr.next, ho, hget, hge]

/-! ### A row cleared. -/
def clearA (P : Program) (M : Mem) (t : TypeId) (x : Value) : Option Mem := match P.underlying t with
  | some (.slice e) => match zeroOf P e with
    | some z => match x with
      | .slice _ 0 _ => some M
      | .chan _ => some M
      | .slice (some a) n _ => match look M.bl a.block with
        | some cs => bif Nat.ble M.lo a.block && (Nat.ble (a.off + (zrow z (n * z.cells.size)).length) cs.length && (zrow z (n * z.cells.size)).all (·.oneCell')) then
            some { M with bl := upd M.bl a.block (cs.take a.off ++ zrow z (n * z.cells.size) ++ cs.drop (a.off + (zrow z (n * z.cells.size)).length)) } else none
        | none => none
      | _ => none
    | none => none
  | _ => none
theorem clear_sound {P : Program} {r : Nat → Option (Nat × Nat)} {M M' : Mem} {w : World} {x x' : Value} (hM : MR r M w) (t ty : TypeId) (hx : VR r x x') (h : clearA P M t x = some M') :
    ∃ w', (Builtin.clear_ #[t] ty #[x']).run P w = .ok (.tuple #[]) w' ∧ MR r M' w' ∧ Stp r M w r M' w' := by
  unfold clearA at h
  split at h
  case h_2 => cases h
  rename_i e hu
  cases hz : zeroOf P e with
  | none => rw [hz] at h; cases h
  | some z =>
    rw [hz] at h
    simp only at h
    obtain ⟨ha, hzr⟩ := zeroOf_run hz
    split at h
    case h_4 => cases h
    · cases h
      obtain ⟨a', c', rfl, _⟩ := hx.slice_len
      refine ⟨w, ?_, hM, .refl _ _ _⟩
      cases a' <;> simp [Builtin.clear_, underlying, hu]
    · cases h
      obtain ⟨_, a, c, rfl⟩ := hx.of_empty
      exact ⟨w, by simp [Builtin.clear_, underlying, hu], hM, .refl _ _ _⟩
    · rename_i a n c hne
      obtain ⟨_, g, c', hg, _, _, rfl⟩ := hx.of_slice
      split at h
      case h_2 => cases h
      rename_i cs hl
      generalize hc : (Nat.ble M.lo a.block && (Nat.ble (a.off + (zrow z (n * z.cells.size)).length) cs.length && (zrow z (n * z.cells.size)).all (·.oneCell'))) = d at h
      cases d with
      | false => cases h
      | true =>
        cases h
        simp only [Bool.and_eq_true] at hc
        obtain ⟨w', h1, h2, h3, _⟩ := store_sound hM (Nat.le_of_ble_eq_true hc.1) hl hg (Nat.le_of_ble_eq_true hc.2.1) hc.2.2 (zrow_rel r ha _)
        refine ⟨w', ?_, h2, h3⟩
        have hn0 : n ≠ 0 := fun e => by subst e; exact hne rfl
        have hzc : (Builtin.zeroCells z.cells n).toList = zrow z (n * z.cells.size) := zrow_eq z _
        obtain ⟨n, rfl⟩ := Nat.exists_eq_succ_of_ne_zero hn0
        simp [Builtin.clear_, underlying, hu, hzr, hzc, h1 P]

/-! ### These together. -/
def opZ (P : Program) (env : Env) (M : Mem) (o : Oper) : Option (Value × Mem) := match o.op with
  | .slice t x lo hi mx => match ev env x with
    | some v => match evo env lo with
      | some l => match evo env hi with
        | some h => match evo env mx with
          | some m => match sliceE P t v l h m with
            | some u => some (u, M)
            | none => none
          | none => none
        | none => none
      | none => none
    | none => none
  | .load t x => match ev env x with
    | some v => bif loadZ P t v then some (.agg #[], M) else none
    | none => none
  | .binOp op t x y _ => match ev env x with
    | some a => match ev env y with
      | some b => bif nilE P t a b then match op with
          | .eql => some (.bool false, M)
          | .neq => some (.bool true, M)
          | _ => none
        else none
      | none => none
    | none => none
  | .buildSlice t len parts => match evp env parts.toList with
    | some q => buildZ P M t len q
    | none => none
  | .lookup t x k ok => match ev env x with
    | some a => match ev env k with
      | some b => match lookupG P M t a b ok with
        | some v => some (v, M)
        | none => none
      | none => none
    | none => none
  | .mapUpdate t m k x => match ev env m with
    | some a => match ev env k with
      | some b => match ev env x with
        | some c => match updateG P M t a b c with
          | some M' => some (Go.undef, M')
          | none => none
        | none => none
      | none => none
    | none => none
  | .insert t m k x => match ev env m with
    | some a => match ev env k with
      | some b => match ev env x with
        | some c => match updateG P M t a b c with
          | some M' => some (Go.undef, M')
          | none => none
        | none => none
      | none => none
    | none => none
  | .range t x => match ev env x with
    | some v => rangeS P M t v
    | none => none
  | .next it s => match ev env it with
    | some v => bif s then nextS M v else none
    | none => none
  | .call c => match c.callee with
    | .builtin .append => match c.args.toList with
      | [d, s] => match c.argTypes.toList with
        | [t, u] => match ev env d with
          | some a => match ev env s with
            | some b => match appendE P t u a b with
              | some v => some (v, M)
              | none => bif Nat.beq t u then appendZ P M t a b else none
            | none => none
          | none => none
        | _ => none
      | _ => none
    | .builtin .len => match c.args.toList with
      | [x] => match c.argTypes.toList with
        | [t] => match ev env x with
          | some a => match lenE P t a with
            | some v => some (v, M)
            | none => none
          | none => none
        | _ => none
      | _ => none
    | .builtin .clear => match c.args.toList with
      | [x] => match c.argTypes.toList with
        | [t] => match ev env x with
          | some a => match clearA P M t a with
            | some M' => some (.tuple #[], M')
            | none => none
          | none => none
        | _ => none
      | _ => none
    | _ => none
  | _ => none
theorem opZ_sound {P : Program} {env : Env} {M M' : Mem} {o : Oper} {v : Value} {r : Nat → Option (Nat × Nat)} {a : Act} {w : World} (h : opZ P env M o = some (v, M')) (he : ER r env a.tmps) (hM : MR r M w) :
    ∃ r' v' w', Out P (execOp a.eval o) w r M v M' r' v' w' := by
  obtain ⟨dst, op, ty, pos, after, guard⟩ := o
  cases op with
  | slice t x lo hi mx =>
    simp only [opZ] at h
    split at h
    case h_2 => cases h
    rename_i h0
    split at h
    case h_2 => cases h
    rename_i h1
    split at h
    case h_2 => cases h
    rename_i h2
    split at h
    case h_2 => cases h
    rename_i h3
    split at h
    case h_2 => cases h
    rename_i h4
    cases h
    obtain ⟨v', h5, h6⟩ := sliceE_sound t (ev_sound he h0) (evo_sound he h1) (evo_sound he h2) (evo_sound he h3) h4
    exact ⟨r, v', w, .still hM (run_value (h5 w)) h6⟩
  | load t x =>
    simp only [opZ] at h
    split at h
    case h_2 => cases h
    rename_i u h0
    cases hz : loadZ P t u with
    | false => rw [hz] at h; cases h
    | true =>
      rw [hz] at h; cases h
      exact ⟨r, _, w, .still hM (run_value (loadZ_sound t (ev_sound he h0) hz)) (.same 2 _ rfl)⟩
  | binOp op t x y yt =>
    simp only [opZ] at h
    split at h
    case h_2 => cases h
    rename_i u h0
    split at h
    case h_2 => cases h
    rename_i z h1
    cases hz : nilE P t u z with
    | false => rw [hz] at h; cases h
    | true =>
      rw [hz] at h
      simp only [cond_true] at h
      obtain ⟨k1, k2⟩ := nilE_sound hz (ev_sound he h0) (ev_sound he h1) x y w
      split at h
      · cases h; exact ⟨r, _, w, .still hM (run_value k1) (.of_bool r _)⟩
      · cases h; exact ⟨r, _, w, .still hM (run_value k2) (.of_bool r _)⟩
      · cases h
  | buildSlice t len parts =>
    simp only [opZ] at h
    split at h
    case h_2 => cases h
    rename_i h0
    obtain ⟨r', v', w', h2, h3, h4, h5⟩ := buildZ_sound (P := P) (ps' := parts.map fun p => (p.1, a.eval p.2)) hM t len (by simpa using evp_sound he h0) h
    exact ⟨r', v', w', .inl (run_value h2), h3, h4, h5⟩
  | lookup t x k ok =>
    simp only [opZ] at h
    split at h
    case h_2 => cases h
    rename_i h0
    split at h
    case h_2 => cases h
    rename_i h1
    split at h
    case h_2 => cases h
    rename_i h2
    cases h
    obtain ⟨v', h3, h4⟩ := lookupG_sound hM t ok (ev_sound he h0) (ev_sound he h1) h2
    exact ⟨r, v', w, .still hM (run_value h3) h4⟩
  | mapUpdate t m k x =>
    simp only [opZ] at h
    split at h
    case h_2 => cases h
    rename_i h0
    split at h
    case h_2 => cases h
    rename_i h1
    split at h
    case h_2 => cases h
    rename_i h2
    split at h
    case h_2 => cases h
    rename_i h3
    cases h
    obtain ⟨w', h4, h5, h6⟩ := updateG_sound hM t (ev_sound he h0) (ev_sound he h1) (ev_sound he h2) h3
    exact ⟨r, Go.undef, w', .inr ⟨run_unit h4, rfl⟩, .undef r, h5, h6⟩
  | insert t m k x =>
    simp only [opZ] at h
    split at h
    case h_2 => cases h
    rename_i h0
    split at h
    case h_2 => cases h
    rename_i h1
    split at h
    case h_2 => cases h
    rename_i h2
    split at h
    case h_2 => cases h
    rename_i h3
    cases h
    obtain ⟨w', h4, h5, h6⟩ := updateG_sound hM t (ev_sound he h0) (ev_sound he h1) (ev_sound he h2) h3
    exact ⟨r, Go.undef, w', .inr ⟨run_unit h4, rfl⟩, .undef r, h5, h6⟩
  | range t x =>
    simp only [opZ] at h
    split at h
    case h_2 => cases h
    rename_i h0
    obtain ⟨r', v', w', h2, h3, h4, h5⟩ := rangeS_sound (P := P) hM t (ev_sound he h0) h
    exact ⟨r', v', w', .inl (run_value h2), h3, h4, h5⟩
  | next it s =>
    simp only [opZ] at h
    split at h
    case h_2 => cases h
    rename_i h0
    cases s with
    | false => cases h
    | true =>
      obtain ⟨w', h2, h3, h4, h5⟩ := nextS_sound (P := P) ty hM (ev_sound he h0) h
      exact ⟨r, v, w', .inl (run_value h2), h3, h4, h5⟩
  | call c =>
    obtain ⟨callee, args, argTypes⟩ := c
    simp only [opZ] at h
    split at h
    case h_4 => cases h
    · split at h
      case h_2 => cases h
      rename_i d s hargs
      split at h
      case h_2 => cases h
      rename_i t u hty
      have ea := toArray_of hargs
      have et := toArray_of hty
      subst ea; subst et
      split at h
      case h_2 => cases h
      rename_i dv h0
      split at h
      case h_2 => cases h
      rename_i sv h1
      split at h
      · rename_i q h2
        cases h
        obtain ⟨h3, h4⟩ := appendE_sound (w := w) t u ty (ev_sound he h0) (ev_sound he h1) h2
        exact ⟨r, _, w, .still hM (by simp [execOp, resolve, invoke, builtin, h3]) h4⟩
      · cases hb : Nat.beq t u with
        | false => rw [hb] at h; cases h
        | true =>
          rw [hb] at h
          have e := Nat.eq_of_beq_eq_true hb
          subst e
          obtain ⟨r', v', w', h2, h3, h4, h5⟩ := appendZ_sound (P := P) hM t ty (ev_sound he h0) (ev_sound he h1) h
          exact ⟨r', v', w', .inl (by simp [execOp, resolve, invoke, builtin, h2]), h3, h4, h5⟩
    · split at h
      case h_2 => cases h
      rename_i x hargs
      split at h
      case h_2 => cases h
      rename_i t hty
      have ea := toArray_of hargs
      have et := toArray_of hty
      subst ea; subst et
      split at h
      case h_2 => cases h
      rename_i xv h0
      split at h
      case h_2 => cases h
      rename_i q h2
      cases h
      obtain ⟨h3, h4⟩ := lenE_sound t ty (ev_sound he h0) h2 w
      exact ⟨r, _, w, .still hM (by simp [execOp, resolve, invoke, builtin, h3]) h4⟩
    · split at h
      case h_2 => cases h
      rename_i x hargs
      split at h
      case h_2 => cases h
      rename_i t hty
      have ea := toArray_of hargs
      have et := toArray_of hty
      subst ea; subst et
      split at h
      case h_2 => cases h
      rename_i xv h0
      split at h
      case h_2 => cases h
      rename_i q h2
      cases h
      obtain ⟨w', h3, h4, h5⟩ := clear_sound (P := P) hM t ty (ev_sound he h0) h2
      exact ⟨r, _, w', .inl (by simp [execOp, resolve, invoke, builtin, h3]), .same 2 _ rfl, h4, h5⟩
  | _ => cases h

/-- Any single operation that makes no call of a Go function. -/
def opT (P : Program) (env : Env) (M : Mem) (o : Oper) : Option (Value × Mem) := match opS P env M o with
  | some q => some q
  | none => match opX P env M o with
    | some q => some q
    | none => opZ P env M o
theorem opT_sound {P : Program} {env : Env} {M M' : Mem} {o : Oper} {v : Value} {r : Nat → Option (Nat × Nat)} {a : Act} {w : World} (h : opT P env M o = some (v, M')) (he : ER r env a.tmps) (hM : MR r M w) :
    ∃ r' v' w', Out P (execOp a.eval o) w r M v M' r' v' w' := by
  unfold opT at h
  cases h1 : opS P env M o with
  | some q => rw [h1] at h; cases h; exact opS_sound h1 he hM
  | none =>
    rw [h1] at h
    simp only at h
    cases h2 : opX P env M o with
    | some q => rw [h2] at h; cases h; exact opX_sound h2 he hM
    | none => rw [h2] at h; exact opZ_sound h he hM

/-- A panic of the text's own. -/
def panicA (env : Env) (o : Oper) : Option Value := match o.op with
  | .panic x => match ev env x with
    | some (.iface t v) => bif af 4 (.iface t v) then some (.iface t v) else none
    | _ => none
  | _ => none
theorem panicA_sound {P : Program} {env : Env} {o : Oper} {v : Value} {r : Nat → Option (Nat × Nat)} {a : Act} (w : World) (h : panicA env o = some v) (he : ER r env a.tmps) : (execOp a.eval o).run P w = .halt (.panic v) w ∧ af 4 v = true := by
  obtain ⟨dst, op, ty, pos, after, guard⟩ := o
  unfold panicA at h
  split at h
  case h_2 => cases h
  rename_i x hop
  simp only at hop
  subst hop
  split at h
  case h_2 => cases h
  rename_i t u h0
  cases ha : af 4 (.iface t u) with
  | false => rw [ha] at h; cases h
  | true =>
    rw [ha] at h; cases h
    refine ⟨?_, ha⟩
    have e := (ev_sound he h0).eq ha
    simp [execOp, e, Instr.panic, goPanic]
end Ev
end Go.Proofs.Ytjinpngojdefiaa
/-! ## I -/
namespace Go.Proofs.Ytjinpngojdefiaa
open Go.RowKit
namespace Ev

abbrev Rs := Option (Exit × Env × Mem)
abbrev Self := Code → Env → Mem → Rs

def putA (env : Env) (dst : Option Tmp) (v : Value) : Env := match dst with
  | some d => env.set d v
  | none => env
theorem putA_rel {r : Nat → Option (Nat × Nat)} {env : Env} {a : Act} (he : ER r env a.tmps) (dst : Option Tmp) {v v' : Value} (hv : VR r v v') : ER r (putA env dst v) (a.put dst v').tmps := by
  cases dst with
  | none => exact he
  | some d => exact he.set d hv
theorem put_defers (a : Act) (dst : Option Tmp) (v : Value) : (a.put dst v).defers = a.defers := by cases dst <;> rfl

def yieldedA (ops : Array Oper) (env : Env) (j : Nat) : Option Bool := match (ops[j]?).bind (·.dst) with
  | some d => match env.get d with
    | .bool b => some b
    | _ => none
  | none => none
theorem VR.bool_of {r : Nat → Option (Nat × Nat)} {v : Value} {b : Bool} (h : VR r v (.bool b)) : v = .bool b := by cases h; rfl
theorem yieldedA_eq {r : Nat → Option (Nat × Nat)} {env : Env} {a : Act} (ops : Array Oper) (he : ER r env a.tmps) (j : Nat) : yielded ops a.tmps j = yieldedA ops env j := by
  unfold yielded yieldedA
  cases (ops[j]?).bind (·.dst) with
  | none => rfl
  | some d =>
    simp only [Option.bind_some]
    have h2 := he.2 d
    generalize env.get d = v at h2
    cases hd : a.tmps[d]? with
    | none =>
      have : a.tmps.getD d Go.undef = Go.undef := by simp [Array.getD_eq_getD_getElem?, hd]
      rw [this] at h2
      cases v with
      | bool b => exact absurd h2.bool (by simp [Go.undef])
      | _ => rfl
    | some y =>
      have : a.tmps.getD d Go.undef = y := by simp [Array.getD_eq_getD_getElem?, hd]
      rw [this] at h2
      cases v with
      | bool b => rw [h2.bool]
      | _ => cases y with
        | bool b => exact absurd h2.bool_of (by simp)
        | _ => rfl
def wantedA (ops : Array Oper) (env : Env) (o : Oper) : Bool := Region.wanted o (yieldedA ops env)
theorem wantedA_eq {r : Nat → Option (Nat × Nat)} {env : Env} {a : Act} (ops : Array Oper) (he : ER r env a.tmps) (o : Oper) : Region.wanted o (yielded ops a.tmps) = wantedA ops env o := by
  unfold wantedA
  congr 1
  exact funext (yieldedA_eq ops he)

/-- The same, the environment built whole. -/
def putK {α : Type} (env : Env) (dst : Option Tmp) (v : Value) (k : Env → α) : α := match dst with
  | some d => env.setK d v k
  | none => k env
theorem putK_eq {α : Type} (env : Env) (dst : Option Tmp) (v : Value) (k : Env → α) : putK env dst v k = k (putA env dst v) := by
  cases dst with
  | none => rfl
  | some d => exact Env.setK_eq env d v k
theorem putA_ds (env : Env) (dst : Option Tmp) (v : Value) : (putA env dst v).ds = env.ds := by cases dst with
  | none => rfl
  | some d => exact Env.set_ds env d v
theorem putA_rd (env : Env) (dst : Option Tmp) (v : Value) : (putA env dst v).rd = env.rd := by cases dst with
  | none => rfl
  | some d => exact Env.set_rd env d v
theorem putA_gs (env : Env) (dst : Option Tmp) (v : Value) : (putA env dst v).gs = env.gs := by cases dst with
  | none => rfl
  | some d => simp only [putA, Env.set]; cases Nat.blt d env.n <;> rfl

/-! ### What a call gives back. -/
def resA (P : Program) (env : Env) (M : Mem) : List ResultVar → Option (List Value)
  | [] => some []
  | .tmp t :: r => match env.get t with
    | .chan none => none
    | v => match resA P env M r with
      | some q => some (v :: q)
      | none => none
  | .cell x t :: r => match loadA P M t (env.get x) with
    | some v => match resA P env M r with
      | some q => some (v :: q)
      | none => none
    | none => none
def one (vs : List Value) : Value := match vs with
  | [v] => v
  | vs => .tuple vs.toArray
def resOne (tmps : Array Value) : ResultVar → Sem Value
  | .tmp t => pure (tmps.getD t Go.undef)
  | .cell a t => do loadVar t (← asAddr (tmps.getD a Go.undef))
theorem results_eq (fn : Func) (tmps : Array Value) : results fn tmps = (do let vs ← fn.results.mapM (resOne tmps); pure (if h : vs.size = 1 then vs[0] else .tuple vs)) := by
  unfold results
  congr 1
theorem getD_rel {r : Nat → Option (Nat × Nat)} {env : Env} {tmps : Array Value} (he : EW r env tmps) (t : Nat) (hu : isU (env.get t) = false) : VR r (env.get t) (tmps.getD t Go.undef) := (he.2 t).resolve_left (by rw [hu]; exact fun h => by cases h)
theorem res_sound {P : Program} {r : Nat → Option (Nat × Nat)} {env : Env} {M : Mem} {w : World} {tmps : Array Value} (he : EW r env tmps) (hM : MR r M w) : ∀ {rs : List ResultVar} {vs : List Value}, resA P env M rs = some vs →
    ∃ ys, (rs.mapM (resOne tmps)).run P w = .ok ys w ∧ LR r vs ys
  | [], vs, h => by cases h; exact ⟨[], rfl, .nil r⟩
  | .tmp t :: rs, vs, h => by
    simp only [resA] at h
    have hu : isU (env.get t) = false ∧ (match resA P env M rs with | some q => some (env.get t :: q) | none => none) = some vs := by
      split at h
      · cases h
      · rename_i hne
        refine ⟨?_, h⟩
        cases hv : env.get t with
        | chan q => cases q with
          | none => exact absurd hv hne
          | some _ => rfl
        | _ => rfl
    obtain ⟨hu, h⟩ := hu
    cases h1 : resA P env M rs with
    | none => rw [h1] at h; cases h
    | some q =>
      rw [h1] at h; cases h
      obtain ⟨ys, h2, h3⟩ := res_sound he hM h1
      refine ⟨tmps.getD t Go.undef :: ys, ?_, .cons (getD_rel he t hu) h3⟩
      simp only [List.mapM_cons, resOne, Sem.run_bind, Sem.run_pure, Result.andThen_ok, h2]
  | .cell x t :: rs, vs, h => by
    simp only [resA] at h
    cases h0 : loadA P M t (env.get x) with
    | none => rw [h0] at h; cases h
    | some v =>
      rw [h0] at h
      simp only at h
      cases h1 : resA P env M rs with
      | none => rw [h1] at h; cases h
      | some q =>
        rw [h1] at h; cases h
        obtain ⟨ys, h2, h3⟩ := res_sound he hM h1
        have hu : isU (env.get x) = false := by cases hv : env.get x with
          | chan q => rw [hv] at h0; cases h0
          | _ => rfl
        obtain ⟨ad, v', h4, h5, h6⟩ := loadVar_sound hM t (getD_rel he x hu) h0
        refine ⟨v' :: ys, ?_, .cons h6 h3⟩
        simp only [List.mapM_cons, resOne, Sem.run_bind, h4, asAddr, Sem.run_pure, Result.andThen_ok, h5, h2]
theorem results_sound {P : Program} {r : Nat → Option (Nat × Nat)} {env : Env} {M : Mem} {w : World} {tmps : Array Value} (he : EW r env tmps) (hM : MR r M w) (fn : Func) {vs : List Value} (h : resA P env M fn.results.toList = some vs) :
    ∃ v', (results fn tmps).run P w = .ok v' w ∧ VR r (one vs) v' := by
  obtain ⟨ys, h1, h2⟩ := res_sound he hM h
  refine ⟨one ys, ?_, ?_⟩
  · have h1' : (fn.results.mapM (resOne tmps)).run P w = .ok ys.toArray w := by
      rw [← Array.toArray_toList (xs := fn.results), List.mapM_toArray, Sem.run_map, h1]
      rfl
    rw [results_eq, Sem.run_bind, h1']
    simp only [Result.andThen_ok, Sem.run_pure, Result.ok.injEq, and_true]
    match ys with
    | [] => rfl
    | [y] => rfl
    | y :: z :: l => simp [one]
  · match vs, ys, h2 with
    | [], [], _ => exact .same 2 _ rfl
    | [v], [y], h2 => exact h2.head
    | v :: v2 :: l, y :: y2 :: l2, h2 => exact .tuple' h2
    | [], _ :: _, h2 => exact absurd h2.1 (by simp)
    | [_], [], h2 => exact absurd h2.1 (by simp)
    | [_], _ :: _ :: _, h2 => exact absurd h2.1 (by simp)
    | _ :: _ :: _, [], h2 => exact absurd h2.1 (by simp)
    | _ :: _ :: _, [_], h2 => exact absurd h2.1 (by simp)


/-! ### A call whose arguments have no addresses runs in a memory of its own. -/
def Mem.own (M : Mem) : Mem := { next := M.next, lo := 64 * M.next, bl := M.gl, gl := M.gl, ob := [] }
theorem MR.globlt {r : Nat → Option (Nat × Nat)} {M : Mem} {w : World} (h : MR r M w) {i : Nat} {cs : List Value} (hl : look M.gl i = some cs) : i < 64 * M.next := by
  obtain ⟨_, _, ⟨s, hs⟩, _⟩ := h.glob i cs hl
  exact h.bound _ _ hs
theorem own_rel {r : Nat → Option (Nat × Nat)} {M : Mem} {w : World} (h : MR r M w) : MR r M.own w :=
  ⟨fun i cs hl => h.blk i cs (h.glob i cs hl).2.1, fun i j cs ds g k hl hl' => h.inj i j cs ds g k (h.glob i cs hl).2.1 (h.glob j ds hl').2.1, h.bound, fun i cs hl => ⟨h.globlt hl, hl, (h.glob i cs hl).2.2⟩, fun _ _ hl => (by cases hl), fun _ _ _ _ _ _ hl => (by cases hl)⟩
theorem own_far {r r' : Nat → Option (Nat × Nat)} {M M' : Mem} {w w' : World} (hM : MR r M w) (hs : Stp r M.own w r' M' w') {i : Nat} {cs : List Value} {g : Nat × Nat} (hl : look M'.bl i = some cs) (hi : r' i = some g) : w.heap.size ≤ g.1 ∨ ∃ ds, look M.gl i = some ds := by
  rcases Nat.lt_or_ge i (64 * M.next) with h | h
  · exact .inr (hs.old i cs hl h)
  · refine .inl ?_
    rcases Nat.lt_or_ge g.1 w.heap.size with h' | h'
    · obtain ⟨j, ds, k, h1, h2, h3, _⟩ := hs.anc i cs g (by rw [hs.lo]; exact h) hl hi h'
      have := hM.bound j k h3
      have h1' : 64 * M.next ≤ j := h1
      omega
    · exact h'
theorem own_keep {r r' : Nat → Option (Nat × Nat)} {M M' : Mem} {w w' : World} (hM : MR r M w) (hs : Stp r M.own w r' M' w') (k : Nat) (hk : k < w.heap.size) : w'.heap[k]? = w.heap[k]? :=
  hs.keep k hk (fun i cs g hlo _ hr => by have := hM.bound i g hr; have hlo' : 64 * M.next ≤ i := hlo; omega) (fun i o g hl => by cases hl)
theorem own_farO {r r' : Nat → Option (Nat × Nat)} {M M' : Mem} {w w' : World} (hs : Stp r M.own w r' M' w') {i : Nat} {o : AOb} {g : Nat × Nat} (hl : look M'.ob i = some o) (hi : r' i = some g) : w.heap.size ≤ g.1 := by
  rcases Nat.lt_or_ge g.1 w.heap.size with h | h
  · obtain ⟨j, p, k, h1, _⟩ := hs.ancO i o g hl hi h
    cases h1
  · exact h
def Mem.merge (M M' : Mem) : Mem := { next := M'.next, lo := M.lo, bl := M'.bl ++ M.bl, gl := M.gl, ob := M'.ob ++ M.ob }
theorem merge_sound {r r' : Nat → Option (Nat × Nat)} {M M' : Mem} {w w' : World} (hM : MR r M w) (hM' : MR r' M' w') (hs : Stp r M.own w r' M' w') :
    MR r' (M.merge M') w' ∧ Stp r M w r' (M.merge M') w' := by
  have old : ∀ i cs, look M.bl i = some cs → ∃ g, r i = some g ∧ r' i = some g ∧ g.1 < w.heap.size := fun i cs hl => by
    obtain ⟨g, _, _, h1, _⟩ := hM.blk i cs hl
    exact ⟨g, h1, hs.ext _ _ h1, hM.lt hl h1⟩
  have oldO : ∀ i o, look M.ob i = some o → ∃ g, r i = some g ∧ r' i = some g ∧ g.1 < w.heap.size := fun i o hl => by
    obtain ⟨g, _, h1, _⟩ := hM.obj i o hl
    exact ⟨g, h1, hs.ext _ _ h1, hM.ltO hl h1⟩
  have hgl : M'.gl = M.gl := hs.gl
  have cross : ∀ i j cs ds g h, look M'.bl i = some cs → look M.bl j = some ds → r' i = some g → r' j = some h → g.1 = h.1 → i = j := fun i j cs ds g h h1 h2 hr1 hr2 hh => by
    obtain ⟨g0, q1, q2, q3⟩ := old j ds h2
    rw [hr2] at q2; cases q2
    rcases own_far hM hs h1 hr1 with q | ⟨es, q⟩
    · omega
    · obtain ⟨_, p1, _⟩ := hM.glob i es q
      obtain ⟨g1, p2, p3, _⟩ := old i es p1
      rw [hr1] at p3; cases p3
      exact hM.inj i j es ds _ _ p1 h2 p2 q1 hh
  refine ⟨⟨?_, ?_, hM'.bound, ?_, ?_, ?_⟩, ⟨hs.ext, rfl, hs.next, fun i cs hl hi => ?_, hs.os, hs.tape, hs.output, hs.size, fun k hk _ _ => own_keep hM hs k hk, ?_, rfl, ?_⟩⟩
  · intro i cs hl
    simp only [Mem.merge, look_append] at hl
    cases h1 : look M'.bl i with
    | some ds => rw [h1] at hl; cases hl; exact hM'.blk i _ h1
    | none =>
      rw [h1] at hl
      simp only [Option.none_or] at hl
      obtain ⟨g, t, cc, h2, h3, h4, h5⟩ := hM.blk i cs hl
      refine ⟨g, t, cc, hs.ext _ _ h2, by rw [own_keep hM hs g.1 (hM.lt hl h2)]; exact h3, h4, fun j v hv => ?_⟩
      obtain ⟨v', h6, h7⟩ := h5 j v hv
      exact ⟨v', h6, h7.mono hs.ext⟩
  · intro i j cs ds g h hl1 hl2 hr1 hr2 hh
    simp only [Mem.merge, look_append] at hl1 hl2
    cases h1 : look M'.bl i with
    | some cs' =>
      cases h2 : look M'.bl j with
      | some ds' => exact hM'.inj i j cs' ds' g h h1 h2 hr1 hr2 hh
      | none =>
        rw [h2] at hl2; simp only [Option.none_or] at hl2
        exact cross i j _ _ g h h1 hl2 hr1 hr2 hh
    | none =>
      rw [h1] at hl1; simp only [Option.none_or] at hl1
      cases h2 : look M'.bl j with
      | some ds' => exact (cross j i _ _ h g h2 hl1 hr2 hr1 hh.symm).symm
      | none =>
        rw [h2] at hl2; simp only [Option.none_or] at hl2
        obtain ⟨g1, q1, q2, q3⟩ := old i cs hl1
        rw [hr1] at q2; cases q2
        obtain ⟨g2, p1, p2, p3⟩ := old j ds hl2
        rw [hr2] at p2; cases p2
        exact hM.inj i j cs ds _ _ hl1 hl2 q1 p1 hh
  · intro i cs hl
    obtain ⟨h1, h2, ⟨s, h3⟩, h4⟩ := hM.glob i cs hl
    obtain ⟨_, h5, _⟩ := hM'.glob i cs (by rw [hgl]; exact hl)
    exact ⟨h1, by simp only [Mem.merge, look_append, h5, Option.some_or], ⟨s, hs.ext _ _ h3⟩, h4⟩
  · intro i o hl
    simp only [Mem.merge, look_append] at hl
    cases h1 : look M'.ob i with
    | some p => rw [h1] at hl; cases hl; exact hM'.obj i _ h1
    | none =>
      rw [h1] at hl
      simp only [Option.none_or] at hl
      obtain ⟨g, x, h2, h3, h4⟩ := hM.obj i o hl
      exact ⟨g, x, hs.ext _ _ h2, by rw [own_keep hM hs g.1 (hM.ltO hl h2)]; exact h3, h4.mono hs.ext⟩
  · intro i j o p g h hl1 hl2 hr1 hr2 hh
    simp only [Mem.merge, look_append] at hl1 hl2
    cases h1 : look M'.ob i with
    | some o' =>
      cases h2 : look M'.ob j with
      | some p' => exact hM'.injO i j o' p' g h h1 h2 hr1 hr2 hh
      | none =>
        rw [h2] at hl2; simp only [Option.none_or] at hl2
        obtain ⟨g0, _, h3, h4⟩ := oldO j p hl2
        rw [hr2] at h3; cases h3
        have := own_farO hs h1 hr1
        omega
    | none =>
      rw [h1] at hl1; simp only [Option.none_or] at hl1
      obtain ⟨g1, q1, q2, q3⟩ := oldO i o hl1
      rw [hr1] at q2; cases q2
      cases h2 : look M'.ob j with
      | some p' => have := own_farO hs h2 hr2; omega
      | none =>
        rw [h2] at hl2; simp only [Option.none_or] at hl2
        obtain ⟨g2, p1, p2, p3⟩ := oldO j p hl2
        rw [hr2] at p2; cases p2
        exact hM.injO i j o p _ _ hl1 hl2 q1 p1 hh
  · simp only [Mem.merge, look_append] at hl
    cases h1 : look M'.bl i with
    | some ds =>
      obtain ⟨ds', h2⟩ := hs.old i ds h1 hi
      exact ⟨ds', (hM.glob i ds' h2).2.1⟩
    | none => rw [h1] at hl; exact ⟨cs, by simpa using hl⟩
  · intro i cs g hlo hl hi hg
    simp only [Mem.merge, look_append] at hl
    cases h1 : look M'.bl i with
    | some cs' =>
      rcases own_far hM hs h1 hi with q | ⟨es, q⟩
      · omega
      · have := (hM.glob i es q).1
        have hlo' : M.lo ≤ i := hlo
        omega
    | none =>
      rw [h1] at hl; simp only [Option.none_or] at hl
      obtain ⟨g0, q1, q2, q3⟩ := old i cs hl
      rw [hi] at q2; cases q2
      exact ⟨i, cs, _, hlo, hl, q1, rfl⟩
  · intro i o g hl hi hg
    simp only [Mem.merge, look_append] at hl
    cases h1 : look M'.ob i with
    | some o' => have := own_farO hs h1 hi; omega
    | none =>
      rw [h1] at hl; simp only [Option.none_or] at hl
      obtain ⟨g0, q1, q2, q3⟩ := oldO i o hl
      rw [hi] at q2; cases q2
      exact ⟨i, o, _, hl, q1, rfl⟩
/-- Without the listed tables: these are in the other memory. -/
def unG (gl : List (Nat × List Value)) : List (Nat × List Value) → List (Nat × List Value)
  | [] => []
  | (i, cs) :: l => match look gl i with
    | some _ => unG gl l
    | none => (i, cs) :: unG gl l
theorem look_unG (gl : List (Nat × List Value)) (i : Nat) : ∀ l, look (unG gl l) i = match look gl i with
    | some _ => none
    | none => look l i
  | [] => by unfold unG look; split <;> rfl
  | (j, cs) :: l => by
    have ih := look_unG gl i l
    unfold unG
    by_cases hj : i = j
    · subst hj
      cases h : look gl i with
      | some v => rw [h] at ih; exact ih
      | none => simp [look]
    · have e : look ((j, cs) :: l) i = look l i := by
        simp only [look]
        rw [beq_ne (Ne.symm hj), cond_false]
      rw [e]
      cases h : look gl j with
      | some v => exact ih
      | none =>
        have e2 : look ((j, cs) :: unG gl l) i = look (unG gl l) i := by
          simp only [look]
          rw [beq_ne (Ne.symm hj), cond_false]
        simp only [e2]
        exact ih
def unGK {α : Type} (gl base : List (Nat × List Value)) : List (Nat × List Value) → (List (Nat × List Value) → α) → α
  | [], k => k base
  | (i, cs) :: l, k => match look gl i with
    | some _ => unGK gl base l k
    | none => unGK gl base l fun l' => k ((i, cs) :: l')
theorem unGK_eq {α : Type} (gl base : List (Nat × List Value)) : ∀ l (k : List (Nat × List Value) → α), unGK gl base l k = k (unG gl l ++ base)
  | [], _ => rfl
  | (i, cs) :: l, k => by
    unfold unGK unG
    cases look gl i with
    | some v => exact unGK_eq gl base l k
    | none => exact unGK_eq gl base l _
def Mem.join (M M' : Mem) : Mem := { M.merge M' with bl := unG M.gl M'.bl ++ M.bl }
theorem join_sound {r r' : Nat → Option (Nat × Nat)} {M M' : Mem} {w w' : World} (hM : MR r M w) (hM' : MR r' M' w') (hs : Stp r M.own w r' M' w') :
    MR r' (M.join M') w' ∧ Stp r M w r' (M.join M') w' := by
  obtain ⟨h1, h2⟩ := merge_sound hM hM' hs
  have hgl : M'.gl = M.gl := hs.gl
  have e : ∀ i, look (M.join M').bl i = look (M.merge M').bl i := fun i => by
    simp only [Mem.join, Mem.merge, look_append, look_unG]
    cases h : look M.gl i with
    | none => rfl
    | some cs =>
      obtain ⟨_, h5, _⟩ := hM'.glob i cs (by rw [hgl]; exact h)
      obtain ⟨_, h6, _⟩ := hM.glob i cs h
      rw [h5, h6]; rfl
  refine ⟨⟨?_, ?_, h1.bound, ?_, h1.obj, h1.injO⟩, ⟨h2.ext, h2.lo, h2.next, ?_, h2.os, h2.tape, h2.output, h2.size, h2.keep, ?_, h2.gl, h2.ancO⟩⟩
  · intro i cs h; exact h1.blk i cs (by rw [← e]; exact h)
  · intro i j cs ds g h q1 q2; exact h1.inj i j cs ds g h (by rw [← e]; exact q1) (by rw [← e]; exact q2)
  · intro i cs h
    obtain ⟨a, b, c⟩ := h1.glob i cs h
    exact ⟨a, by rw [e]; exact b, c⟩
  · intro i cs h; exact h2.old i cs (by rw [← e]; exact h)
  · intro i cs g q h; exact h2.anc i cs g q (by rw [← e]; exact h)
def Mem.joinK {α : Type} (M M' : Mem) (k : Mem → α) : α := match M with
  | ⟨_, lo, bl, gl, ob⟩ => (match M' with
    | ⟨next, _, bl', _, ob'⟩ => forceN next fun next => unGK gl bl bl' fun b => k ⟨next, lo, b, gl, ob' ++ ob⟩)
theorem Mem.joinK_eq {α : Type} (M M' : Mem) (k : Mem → α) : M.joinK M' k = k (M.join M') := by
  obtain ⟨next, lo, bl, gl, ob⟩ := M
  obtain ⟨next', lo', bl', gl', ob'⟩ := M'
  simp [Mem.joinK, Mem.join, Mem.merge, forceN_eq, unGK_eq]
theorem drop_sound {r r' : Nat → Option (Nat × Nat)} {M M' : Mem} {w w' : World} (hM : MR r M w) (hM' : MR r' M' w') (hs : Stp r M.own w r' M' w') :
    MR r' { M with next := M'.next } w' ∧ Stp r M w r' { M with next := M'.next } w' := by
  have old : ∀ i cs, look M.bl i = some cs → ∃ g, r i = some g ∧ r' i = some g ∧ g.1 < w.heap.size := fun i cs hl => by
    obtain ⟨g, _, _, h1, _⟩ := hM.blk i cs hl
    exact ⟨g, h1, hs.ext _ _ h1, hM.lt hl h1⟩
  have oldO : ∀ i o, look M.ob i = some o → ∃ g, r i = some g ∧ r' i = some g ∧ g.1 < w.heap.size := fun i o hl => by
    obtain ⟨g, _, h1, _⟩ := hM.obj i o hl
    exact ⟨g, h1, hs.ext _ _ h1, hM.ltO hl h1⟩
  refine ⟨⟨?_, ?_, hM'.bound, fun i cs hl => ?_, ?_, ?_⟩, ⟨hs.ext, rfl, hs.next, fun _ cs hl _ => ⟨cs, hl⟩, hs.os, hs.tape, hs.output, hs.size, fun k hk _ _ => own_keep hM hs k hk, ?_, rfl, ?_⟩⟩
  · intro i cs hl
    obtain ⟨g, t, cc, h2, h3, h4, h5⟩ := hM.blk i cs hl
    refine ⟨g, t, cc, hs.ext _ _ h2, by rw [own_keep hM hs g.1 (hM.lt hl h2)]; exact h3, h4, fun j v hv => ?_⟩
    obtain ⟨v', h6, h7⟩ := h5 j v hv
    exact ⟨v', h6, h7.mono hs.ext⟩
  · intro i j cs ds g h hl1 hl2 hr1 hr2 hh
    obtain ⟨g1, q1, q2, q3⟩ := old i cs hl1
    rw [hr1] at q2; cases q2
    obtain ⟨g2, p1, p2, p3⟩ := old j ds hl2
    rw [hr2] at p2; cases p2
    exact hM.inj i j cs ds _ _ hl1 hl2 q1 p1 hh
  · obtain ⟨h1, h2, ⟨s, h3⟩, h4⟩ := hM.glob i cs hl
    exact ⟨h1, h2, ⟨s, hs.ext _ _ h3⟩, h4⟩
  · intro i o hl
    obtain ⟨g, x, h2, h3, h4⟩ := hM.obj i o hl
    exact ⟨g, x, hs.ext _ _ h2, by rw [own_keep hM hs g.1 (hM.ltO hl h2)]; exact h3, h4.mono hs.ext⟩
  · intro i j o p g h hl1 hl2 hr1 hr2 hh
    obtain ⟨g1, q1, q2, q3⟩ := oldO i o hl1
    rw [hr1] at q2; cases q2
    obtain ⟨g2, p1, p2, p3⟩ := oldO j p hl2
    rw [hr2] at p2; cases p2
    exact hM.injO i j o p _ _ hl1 hl2 q1 p1 hh
  · intro i cs g hlo hl hi hg
    obtain ⟨g0, q1, q2, q3⟩ := old i cs hl
    rw [hi] at q2; cases q2
    exact ⟨i, cs, _, hlo, hl, q1, rfl⟩
  · intro i o g hl hi hg
    obtain ⟨g0, q1, q2, q3⟩ := oldO i o hl
    rw [hi] at q2; cases q2
    exact ⟨i, o, _, hl, q1, rfl⟩

/-! ### Deferred calls and marks. -/
def DR (r : Nat → Option (Nat × Nat)) : List ADf → List Deferred → Prop
  | [], [] => True
  | .mark i :: ds, d :: es => (∃ g, r i = some g ∧ d = { target := .collected g.1, args := #[] }) ∧ DR r ds es
  | .call f xs :: ds, d :: es => (∃ as cap, d = { target := .fn (.func f) cap, args := as } ∧ LR r xs (as.toList ++ cap.toList)) ∧ DR r ds es
  | _, _ => False
theorem DR.mono {r r' : Nat → Option (Nat × Nat)} (hr : ∀ i g, r i = some g → r' i = some g) : ∀ {ds : List ADf} {es : List Deferred}, DR r ds es → DR r' ds es
  | [], [], _ => trivial
  | .mark _ :: _, _ :: _, ⟨⟨g, h1, h2⟩, h3⟩ => ⟨⟨g, hr _ _ h1, h2⟩, DR.mono hr h3⟩
  | .call _ _ :: _, _ :: _, ⟨⟨as, cap, h1, h2⟩, h3⟩ => ⟨⟨as, cap, h1, h2.mono hr⟩, DR.mono hr h3⟩

/-- The wide fence, in a round or not. -/
def FR (ro : Option Nat) : Fence := { Fence.wide with round := ro }
theorem FR_none : FR none = Fence.wide := rfl
theorem FR_round (ro : Option Nat) (l : Nat) : (FR ro).inRound l = FR (some l) := rfl

def SoundAt (P : Program) (G : List (Nat × List Value)) (c : Code) (env : Env) (M : Mem) (e : Exit) (env' : Env) (M' : Mem) : Prop :=
  env'.rd = env.rd ∧ env'.gs = env.gs ∧ ∀ (ro : Option Nat) (r : Nat → Option (Nat × Nat)) (a : Act) (w : World), (ro.isSome = true → env.rd = true) → ER r env a.tmps → DR r env.ds a.defers → MR r M w → M.gl = G →
    c.wpIn (FR ro) 0 P (fun e' a' w' => e' = e ∧ ∃ r', EX e r' env' a'.tmps ∧ DR r' env'.ds a'.defers ∧ MR r' M' w' ∧ Stp r M w r' M' w') a w
def SelfOk (P : Program) (G : List (Nat × List Value)) (self : Self) : Prop := ∀ c env M e env' M', self c env M = some (e, env', M') → SoundAt P G c env M e env' M'

inductive CR where
  | ret (v : Value) (M : Mem)
  | pan (ch : List PanicEntry) (M : Mem)
/-- What a call is to give. -/
def Gives (r : Nat → Option (Nat × Nat)) (M : Mem) (w : World) : CR → Ending → World → Prop
  | .ret v M', e, w' => ∃ v' r', e = .returned v' ∧ VR r' v v' ∧ MR r' M' w' ∧ Stp r M w r' M' w'
  | .pan ch M', e, w' => e = .panicked ch ∧ ∃ r', MR r' M' w' ∧ Stp r M w r' M' w'
theorem Gives.trans {r r2 : Nat → Option (Nat × Nat)} {M M2 : Mem} {w w2 w' : World} {c : CR} {e : Ending} (hs : Stp r M w r2 M2 w2) (h : Gives r2 M2 w2 c e w') : Gives r M w c e w' := by
  cases c with
  | ret v M' => obtain ⟨v', r', h1, h2, h3, h4⟩ := h; exact ⟨v', r', h1, h2, h3, hs.trans h4⟩
  | pan ch M' => obtain ⟨h1, r', h3, h4⟩ := h; exact ⟨h1, r', h3, hs.trans h4⟩

def isRecover (o : Oper) : Bool := match o.op with
  | .call c => match c.callee with
    | .builtin .recover => true
    | _ => false
  | _ => false
/-- A region in a deferred function: recover may be called. -/
def opsS (P : Program) (ops : Array Oper) : List Nat → Env → Mem → FrameMode → Option (Env × Mem × FrameMode)
  | [], env, M, u => some (env, M, u)
  | i :: rest, env, M, u => match ops[i]? with
    | none => opsS P ops rest env M u
    | some o => bif wantedA ops env o then (bif isRecover o then match u with
          | .panicking ({ v, recovered := false, goexit := false } :: older) => bif af 4 v then opsS P ops rest (putA env o.dst v) M (.panicking ({ v, recovered := true } :: older)) else none
          | .returning => opsS P ops rest (putA env o.dst .nilIface) M .returning
          | _ => none
        else match opT P env M o with
          | some (v, M') => opsS P ops rest (putA env o.dst v) M' u
          | none => none)
      else opsS P ops rest (putA env o.dst Go.undef) M u
theorem recover_run {P : Program} {o : Oper} {ρ : Operand → Value} (w : World) (h : isRecover o = true) : (execOp ρ o).run P w = .ok .recover w := by
  obtain ⟨dst, op, ty, pos, after, guard⟩ := o
  unfold isRecover at h
  split at h
  case h_2 => cases h
  rename_i c hop
  simp only at hop
  subst hop
  obtain ⟨callee, args, argTypes⟩ := c
  split at h
  case h_2 => cases h
  rename_i hc
  simp only at hc
  subst hc
  simp [execOp, resolve, invoke, builtin]
theorem opsS_sound {P : Program} {ops : Array Oper} {Q : Exit → Act → List Frame → World → Prop} {c₀ : Frame} {cs : List Frame} : ∀ {l : List Nat} {env env' : Env} {M M' : Mem} {u u' : FrameMode} {r : Nat → Option (Nat × Nat)} {a : Act} {w : World},
    opsS P ops l env M u = some (env', M', u') → ER r env a.tmps → DR r env.ds a.defers → MR r M w →
    (env'.rd = env.rd → env'.gs = env.gs → ∀ r' a' w', ER r' env' a'.tmps → DR r' env'.ds a'.defers → MR r' M' w' → Stp r M w r' M' w' → Q .normal a' ({ c₀ with mode := u' } :: cs) w') → wpOpsSIn (FR none) 0 P ops Q l a ({ c₀ with mode := u } :: cs) w
  | [], env, env', M, M', u, u', r, a, w, h, he, hd, hM, hQ => by cases h; exact hQ rfl rfl r a w he hd hM (.refl _ _ _)
  | i :: l, env, env', M, M', u, u', r, a, w, h, he, hd, hM, hQ => by
    simp only [opsS] at h
    unfold wpOpsSIn
    cases ho : ops[i]? with
    | none => rw [ho] at h; exact opsS_sound h he hd hM hQ
    | some o =>
      rw [ho] at h
      simp only at h ⊢
      refine ⟨fun _ _ => trivial, ?_⟩
      rw [wantedA_eq ops he o]
      cases hw : wantedA ops env o with
      | false =>
        rw [hw] at h
        simp only [cond_false] at h
        rw [if_neg (by simp)]
        exact opsS_sound h (putA_rel he o.dst (.undef r)) (by rw [put_defers, putA_ds]; exact hd) hM fun h1 h2 => hQ (by rw [h1, putA_rd]) (by rw [h2, putA_gs])
      | true =>
        rw [hw] at h
        simp only [cond_true] at h
        rw [if_pos rfl]
        cases hr : isRecover o with
        | true =>
          rw [hr] at h
          simp only [cond_true] at h
          rw [recover_run w hr]
          simp only
          split at h
          · rename_i v older
            cases ha : af 4 v with
            | false => rw [ha] at h; cases h
            | true =>
              rw [ha] at h
              simp only [cond_true] at h
              exact opsS_sound (c₀ := c₀) h (putA_rel he o.dst (.same 4 _ ha)) (by rw [put_defers, putA_ds]; exact hd) hM fun h1 h2 => hQ (by rw [h1, putA_rd]) (by rw [h2, putA_gs])
          · exact opsS_sound (c₀ := c₀) h (putA_rel he o.dst (.same 1 _ rfl)) (by rw [put_defers, putA_ds]; exact hd) hM fun h1 h2 => hQ (by rw [h1, putA_rd]) (by rw [h2, putA_gs])
          · cases h
        | false =>
          rw [hr] at h
          simp only [cond_false] at h
          cases hc : opT P env M o with
          | none => rw [hc] at h; cases h
          | some q =>
            obtain ⟨v, M2⟩ := q
            rw [hc] at h
            simp only at h
            obtain ⟨r', v', w', hout⟩ := opT_sound hc he hM
            have go : wpOpsSIn (FR none) 0 P ops Q l (a.put o.dst v') ({ c₀ with mode := u } :: cs) w' :=
              opsS_sound h (putA_rel (he.mono hout.stp.ext) o.dst hout.val) (by rw [put_defers, putA_ds]; exact hd.mono hout.stp.ext) hout.mem fun h1 h2 r'' a'' w'' k1 k2 k3 k4 => hQ (by rw [h1, putA_rd]) (by rw [h2, putA_gs]) r'' a'' w'' k1 k2 k3 (hout.stp.trans k4)
            rcases hout.run with h1 | ⟨h1, h2⟩
            · rw [h1]; exact go
            · rw [h1]; subst h2; exact go
end Ev
end Go.Proofs.Ytjinpngojdefiaa
/-! ## I2 -/
namespace Go.Proofs.Ytjinpngojdefiaa
open Go.RowKit
namespace Ev

def codeS (P : Program) (self : Self) : Code → Env → Mem → FrameMode → Option (Exit × Env × Mem × FrameMode)
  | .seq x y, env, M, u => match codeS P self x env M u with
    | some (.normal, e, m, v) => codeS P self y e m v
    | q => q
  | .region id ops draw, env, M, u => bif ops.toList.any isRecover then (bif draw then none else match opsS P ops (List.range ops.size) env M u with
      | some (e, m, v) => some (.normal, e, m, v)
      | none => none)
    else match self (.region id ops draw) env M with
      | some (x, e, m) => some (x, e, m, u)
      | none => none
  | c, env, M, u => match self c env M with
    | some (x, e, m) => some (x, e, m, u)
    | none => none
theorem wpSIn_mono {F : Fence} {n : Nat} {P : Program} {c : Code} {Q Q' : Exit → Act → List Frame → World → Prop} {a : Act} {cs : List Frame} {w : World} (h : c.wpSIn F n P Q a cs w) (hq : ∀ e a cs w, Q e a cs w → Q' e a cs w) : c.wpSIn F n P Q' a cs w :=
  fun b k h1 h2 h3 h4 => let ⟨e, a', cs', w', l, q, r⟩ := h b k h1 h2 h3 h4; ⟨e, a', cs', w', l, hq _ _ _ _ q, r⟩
theorem codeS_sound {P : Program} {G : List (Nat × List Value)} {self : Self} (hself : SelfOk P G self) {c₀ : Frame} {cs : List Frame} : ∀ (c : Code) {env env' : Env} {M M' : Mem} {u u' : FrameMode} {e : Exit}, codeS P self c env M u = some (e, env', M', u') →
    env'.rd = env.rd ∧ env'.gs = env.gs ∧ ∀ (r : Nat → Option (Nat × Nat)) (a : Act) (w : World), ER r env a.tmps → DR r env.ds a.defers → MR r M w → M.gl = G →
      c.wpSIn (FR none) 0 P (fun e' a' cs' w' => e' = e ∧ cs' = { c₀ with mode := u' } :: cs ∧ ∃ r', EX e r' env' a'.tmps ∧ DR r' env'.ds a'.defers ∧ MR r' M' w' ∧ Stp r M w r' M' w') a ({ c₀ with mode := u } :: cs) w := by
  have plain : ∀ (c : Code) {env env' : Env} {M M' : Mem} {u u' : FrameMode} {e : Exit}, (match self c env M with | some (x, e, m) => some (x, e, m, u) | none => none) = some (e, env', M', u') →
      env'.rd = env.rd ∧ env'.gs = env.gs ∧ ∀ (r : Nat → Option (Nat × Nat)) (a : Act) (w : World), ER r env a.tmps → DR r env.ds a.defers → MR r M w → M.gl = G →
        c.wpSIn (FR none) 0 P (fun e' a' cs' w' => e' = e ∧ cs' = { c₀ with mode := u' } :: cs ∧ ∃ r', EX e r' env' a'.tmps ∧ DR r' env'.ds a'.defers ∧ MR r' M' w' ∧ Stp r M w r' M' w') a ({ c₀ with mode := u } :: cs) w := by
    intro c env env' M M' u u' e h
    split at h
    case h_2 => cases h
    rename_i x e1 m1 hs
    cases h
    obtain ⟨h1, h2, h3⟩ := hself _ _ _ _ _ _ hs
    refine ⟨h1, h2, fun r a w he hd hM hG => wpSIn_of_wpIn rfl (wpIn_mono (h3 none r a w (fun hn => by cases hn) he hd hM hG) ?_)⟩
    rintro e' a' w' ⟨k1, k2⟩
    exact ⟨k1, rfl, k2⟩
  intro c
  induction c with
  | seq x y ihx ihy =>
    intro env env' M M' u u' e h
    simp only [codeS] at h
    cases hx : codeS P self x env M u with
    | none => rw [hx] at h; cases h
    | some q =>
      obtain ⟨e1, env1, M1, u1⟩ := q
      rw [hx] at h
      obtain ⟨h1, h2, h3⟩ := ihx hx
      cases e1 with
      | normal =>
        simp only at h
        obtain ⟨k1, k2, k3⟩ := ihy h
        refine ⟨k1.trans h1, k2.trans h2, fun r a w he hd hM hG => wpSIn_seq (wpSIn_mono (h3 r a w he hd hM hG) ?_)⟩
        rintro e' a' cs' w' ⟨rfl, rfl, r1, q1, q2, q3, q4⟩
        refine wpSIn_mono (k3 r1 a' w' q1 q2 q3 (q4.gl.trans hG)) ?_
        rintro e'' a'' cs'' w'' ⟨rfl, rfl, r2, p1, p2, p3, p4⟩
        exact ⟨rfl, rfl, r2, p1, p2, p3, q4.trans p4⟩
      | _ =>
        cases h
        refine ⟨h1, h2, fun r a w he hd hM hG => wpSIn_seq (wpSIn_mono (h3 r a w he hd hM hG) ?_)⟩
        rintro e' a' cs' w' ⟨rfl, k⟩
        exact ⟨rfl, k⟩
  | region id ops draw =>
    intro env env' M M' u u' e h
    simp only [codeS] at h
    cases hr : ops.toList.any isRecover with
    | false => rw [hr] at h; exact plain _ h
    | true =>
      rw [hr] at h
      simp only [cond_true] at h
      cases draw with
      | true => cases h
      | false =>
        simp only [cond_false] at h
        cases ho : opsS P ops (List.range ops.size) env M u with
        | none => rw [ho] at h; cases h
        | some q =>
          obtain ⟨e1, m1, v1⟩ := q
          rw [ho] at h; cases h
          -- what the environment keeps
          have keep : ∀ (l : List Nat) {env env' : Env} {M M' : Mem} {u u' : FrameMode}, opsS P ops l env M u = some (env', M', u') → env'.rd = env.rd ∧ env'.gs = env.gs := by
            intro l
            induction l with
            | nil => intro env env' M M' u u' h; cases h; exact ⟨rfl, rfl⟩
            | cons i l ih =>
              intro env env' M M' u u' h
              simp only [opsS] at h
              split at h
              · exact ih h
              · rename_i o _
                generalize wantedA ops env o = b at h
                cases b with
                | false => obtain ⟨k1, k2⟩ := ih h; exact ⟨by rw [k1, putA_rd], by rw [k2, putA_gs]⟩
                | true =>
                  simp only [cond_true] at h
                  generalize isRecover o = b at h
                  cases b with
                  | true =>
                    simp only [cond_true] at h
                    split at h
                    · rename_i v older
                      generalize af 4 v = b at h
                      cases b with
                      | false => cases h
                      | true => obtain ⟨k1, k2⟩ := ih h; exact ⟨by rw [k1, putA_rd], by rw [k2, putA_gs]⟩
                    · obtain ⟨k1, k2⟩ := ih h; exact ⟨by rw [k1, putA_rd], by rw [k2, putA_gs]⟩
                    · cases h
                  | false =>
                    simp only [cond_false] at h
                    split at h
                    · obtain ⟨k1, k2⟩ := ih h; exact ⟨by rw [k1, putA_rd], by rw [k2, putA_gs]⟩
                    · cases h
          obtain ⟨k1, k2⟩ := keep _ ho
          refine ⟨k1, k2, fun r a w he hd hM hG => wpSIn_region (opsS_sound ho he hd hM fun _ _ r' a' w' q1 q2 q3 q4 => ⟨rfl, rfl, r', EX.of q1, q2, q3, q4⟩)⟩
  | _ => intro env env' M M' u u' e h; exact plain _ h

/-- A deferred call. -/
def defE (P : Program) (self : Self) (gs : List Nat) (f : FuncId) (xs : List Value) (u : FrameMode) (M : Mem) : Option (FrameMode × Mem) := match P.funcs[f]? with
  | some fn => match fn.body with
    | some b => match codeS P self b (mkEnv gs fn.ntmps xs) M u with
      | some (.normal, env, M', u') => match env.ds with
        | [] => match resA P env M' fn.results.toList with
          | some _ => some (u', M')
          | none => none
        | _ => none
      | some (.ret, env, M', u') => match env.ds with
        | [] => match resA P env M' fn.results.toList with
          | some _ => some (u', M')
          | none => none
        | _ => none
      | _ => none
    | none => none
  | none => none
theorem def_sound {P : Program} {G : List (Nat × List Value)} {self : Self} (hself : SelfOk P G self) {gs : List Nat} {f : FuncId} {xs : List Value} {u u' : FrameMode} {M M' : Mem} (h : defE P self gs f xs u M = some (u', M')) {r : Nat → Option (Nat × Nat)} {ys : List Value} {w : World}
    (hx : LR r xs ys) (hM : MR r M w) (hG : M.gl = G) (hg : ∀ g ∈ gs, ∃ s, r (64 * g) = some (g, s)) :
    CallsDIn (FR none) 0 P f ys.toArray u w fun e u'' w' => (∃ v, e = .returned v) ∧ u'' = u' ∧ ∃ r', MR r' M' w' ∧ Stp r M w r' M' w' := by
  unfold defE at h
  split at h
  case h_2 => cases h
  rename_i fn hf
  split at h
  case h_2 => cases h
  rename_i b hb
  refine callsDIn_of_wpSIn hf hb trivial fun c₀ cs hu => ?_
  subst hu
  have henv : ER r (mkEnv gs fn.ntmps xs) (ys.toArray ++ Array.replicate (fn.ntmps - ys.toArray.size) Go.undef) := .made hx _ hg
  have key : ∀ (e : Exit) (env : Env) (M2 : Mem) (v : FrameMode), (e = .normal ∨ e = .ret) → codeS P self b (mkEnv gs fn.ntmps xs) M c₀.mode = some (e, env, M2, v) → (match env.ds with | [] => (match resA P env M2 fn.results.toList with | some _ => some (v, M2) | none => none) | _ => none) = some (u', M') →
      b.wpSIn (FR none) 0 P (bodyPostS P fn c₀ cs fun e u'' w' => (∃ v, e = .returned v) ∧ u'' = u' ∧ ∃ r', MR r' M' w' ∧ Stp r M w r' M' w') { tmps := ys.toArray ++ Array.replicate (fn.ntmps - ys.toArray.size) Go.undef, defers := [] } (c₀ :: cs) w := by
    intro e env M2 v he hc hr
    split at hr
    case h_2 => cases hr
    rename_i hds
    split at hr
    case h_2 => cases hr
    rename_i vs hvs
    cases hr
    obtain ⟨_, _, h3⟩ := codeS_sound (c₀ := c₀) (cs := cs) hself b hc
    refine wpSIn_mono (h3 r { tmps := ys.toArray ++ Array.replicate (fn.ntmps - ys.toArray.size) Go.undef, defers := [] } w henv trivial hM hG) ?_
    rintro e' a' cs' w' ⟨rfl, rfl, r', q1, q2, q3, q4⟩
    obtain ⟨v', h4, h5⟩ := results_sound q1.weak q3 fn hvs
    rw [hds] at q2
    have hd0 : a'.defers = [] := by
      cases hda : a'.defers with
      | nil => rfl
      | cons x xs => rw [hda] at q2; exact q2.elim
    rcases he with rfl | rfl
    · exact ⟨hd0, _, rfl, v', h4, ⟨v', rfl⟩, rfl, r', q3, q4⟩
    · exact ⟨hd0, _, rfl, v', h4, ⟨v', rfl⟩, rfl, r', q3, q4⟩
  split at h
  case h_3 => cases h
  · rename_i env M2 v hc
    exact key _ _ _ _ (.inl rfl) hc h
  · rename_i env M2 v hc
    exact key _ _ _ _ (.inr rfl) hc h

/-- How a function leaves: its deferred calls, the last laid first; its results. -/
def leaveE (P : Program) (dfr : FuncId → List Value → FrameMode → Mem → Option (FrameMode × Mem)) (env : Env) (rs : List ResultVar) : List ADf → FrameMode → Mem → Option CR
  | [], u, M => match u with
    | .returning => match resA P env M rs with
      | some vs => some (.ret (one vs) M)
      | none => none
    | .panicking ch => some (.pan ch M)
    | .run => none
  | d :: ds, u, M => match u with
    | .run => none
    | u => match d with
      | .mark i => match look M.ob i with
        | some .defd => leaveE P dfr env rs ds u { M with ob := kill M.ob i }
        | _ => none
      | .call f xs => match P.funcs[f]? with
        | some fn => match fn.body with
          | some _ => match dfr f xs u M with
            | some (u', M') => leaveE P dfr env rs ds (settle u') M'
            | none => none
          | none => none
        | none => none
theorem leave_sound {P : Program} (hN : noRoutines P) {G : List (Nat × List Value)} {dfr : FuncId → List Value → FrameMode → Mem → Option (FrameMode × Mem)} {gs : List Nat}
    (hdef : ∀ f xs u M u' M', dfr f xs u M = some (u', M') → ∀ (r : Nat → Option (Nat × Nat)) (ys : List Value) (w : World), LR r xs ys → MR r M w → M.gl = G → (∀ g ∈ gs, ∃ s, r (64 * g) = some (g, s)) →
      CallsDIn (FR none) 0 P f ys.toArray u w fun e u'' w' => (∃ v, e = .returned v) ∧ u'' = u' ∧ ∃ r', MR r' M' w' ∧ Stp r M w r' M' w')
    {env : Env} (hgs : env.gs = gs) {fn : Func} {tmps : Array Value} {c : CR} : ∀ {ds : List ADf} {es : List Deferred} {u : FrameMode} {M : Mem} {r : Nat → Option (Nat × Nat)} {w : World} {R : Ending → World → Prop},
    leaveE P dfr env fn.results.toList ds u M = some c → EW r env tmps → DR r ds es → MR r M w → M.gl = G → (∀ e w', Gives r M w c e w' → R e w') → LeavesInM (FR none) 0 P fn tmps R es u w
  | [], [], u, M, r, w, R, h, he, hd, hM, hG, hR => by
    unfold LeavesInM
    cases u with
    | run => cases h
    | panicking ch => cases h; exact hR _ _ ⟨rfl, r, hM, .refl _ _ _⟩
    | returning =>
      simp only [leaveE] at h
      cases hr : resA P env M fn.results.toList with
      | none => rw [hr] at h; cases h
      | some vs =>
        rw [hr] at h; cases h
        obtain ⟨v', h1, h2⟩ := results_sound he hM fn hr
        exact ⟨v', h1, hR _ _ ⟨v', r, rfl, h2, hM, .refl _ _ _⟩⟩
  | d :: ds, x :: es, u, M, r, w, R, h, he, hd, hM, hG, hR => by
    have hu : u ≠ .run := by rintro rfl; cases h
    unfold LeavesInM
    refine ⟨hu, ?_⟩
    cases d with
    | mark i =>
      obtain ⟨⟨g, h1, rfl⟩, h3⟩ := hd
      have h' : (match look M.ob i with | some .defd => leaveE P dfr env fn.results.toList ds u { M with ob := kill M.ob i } | _ => none) = some c := by
        cases u <;> first | exact absurd rfl hu | exact h
      split at h'
      case h_2 => cases h'
      rename_i hl
      obtain ⟨g', o, k1, k2, k3⟩ := hM.obj _ _ hl
      rw [h1] at k1; cases k1
      have k3' : o = .deferred (some []) := k3
      subst k3'
      obtain ⟨m1, m2⟩ := killO_sound (w' := w.putObj g.1 (.deferred none)) hM hl h1 (fun k hk => World.putObj_heap_other hk) World.putObj_size rfl rfl rfl
      exact .inl ⟨g.1, _, rfl, run_takeDeferred k2, leave_sound hN hdef hgs h' he h3 m1 hG fun e w' hgv => hR e w' (hgv.trans m2)⟩
    | call f xs =>
      obtain ⟨⟨as, cap, rfl, h1⟩, h3⟩ := hd
      have h' : (match P.funcs[f]? with | some fn' => (match fn'.body with | some _ => (match dfr f xs u M with | some (u', M') => leaveE P dfr env fn.results.toList ds (settle u') M' | none => none) | none => none) | none => none) = some c := by
        cases u <;> first | exact absurd rfl hu | exact h
      split at h'
      case h_2 => cases h'
      rename_i fn' hf
      split at h'
      case h_2 => cases h'
      rename_i b hb
      split at h'
      case h_2 => cases h'
      rename_i u' M' hdf
      refine .inr ⟨(fun hn => (by cases hn)), .func f, cap, f, as ++ cap, rfl, ?_, fun _ _ => trivial, ?_⟩
      · have hname : ¬ fn'.name = "runtime.NumGoroutine" := by simpa using hN f fn' hf
        simp [invoke, callFunc, hf, hname, hb]
      · have hc := hdef f xs u M u' M' hdf r (as.toList ++ cap.toList) w h1 hM hG (by rw [← hgs]; exact he.3)
        have e1 : (as.toList ++ cap.toList).toArray = as ++ cap := by
          apply Array.ext'
          simp
        rw [e1] at hc
        refine hc.mono fun e u'' w' ⟨⟨v, hv⟩, hu', r', m1, m2⟩ => ?_
        subst hv; subst hu'
        exact leave_sound hN hdef hgs h' (he.mono m2.ext) (h3.mono m2.ext) m1 (m2.gl.trans hG) fun e w'' hgv => hR e w'' (hgv.trans m2)
  | [], _ :: _, _, _, _, _, _, _, _, hd, _, _, _ => hd.elim
  | .mark _ :: _, [], _, _, _, _, _, _, _, hd, _, _, _ => hd.elim
  | .call _ _ :: _, [], _, _, _, _, _, _, _, hd, _, _, _ => hd.elim

/-! ### Calls. -/
def bodyE (P : Program) (self : Self) (gs : List Nat) (fn : Func) (b : Code) (xs : List Value) (M : Mem) : Option CR := mkEnvK gs fn.ntmps xs fun env0 => match self b env0 M with
  | some (.normal, env, M') => leaveE P (defE P self gs) env fn.results.toList env.ds .returning M'
  | some (.ret, env, M') => leaveE P (defE P self gs) env fn.results.toList env.ds .returning M'
  | some (.panic ch, env, M') => leaveE P (defE P self gs) env fn.results.toList env.ds (.panicking ch) M'
  | _ => none
theorem body_sound {P : Program} (hN : noRoutines P) {G : List (Nat × List Value)} {self : Self} (hself : SelfOk P G self) {gs : List Nat} {f : FuncId} {fn : Func} {b : Code} (hf : P.funcs[f]? = some fn) (hb : fn.body = some b) {xs ys : List Value} {M : Mem} {c : CR}
    {r : Nat → Option (Nat × Nat)} {w : World} (hx : LR r xs ys) (hM : MR r M w) (hG : M.gl = G) (hg : ∀ g ∈ gs, ∃ s, r (64 * g) = some (g, s)) (h : bodyE P self gs fn b xs M = some c) :
    Calls P f ys.toArray w (Gives r M w c) := by
  refine (callsIn_wide (n := 0)).1 (callsIn_of_wp_marks hf hb trivial ?_)
  have henv : ER r (mkEnv gs fn.ntmps xs) (ys.toArray ++ Array.replicate (fn.ntmps - ys.toArray.size) Go.undef) := .made hx _ hg
  have key : ∀ (e : Exit) (u : FrameMode) (env' : Env) (M2 : Mem), (((e = .normal ∨ e = .ret) ∧ u = .returning) ∨ ∃ ch, e = .panic ch ∧ u = .panicking ch) → self b (mkEnv gs fn.ntmps xs) M = some (e, env', M2) →
      leaveE P (defE P self gs) env' fn.results.toList env'.ds u M2 = some c →
      b.wpIn (FR none) 0 P (bodyPostM (FR none) 0 P fn (Gives r M w c)) { tmps := ys.toArray ++ Array.replicate (fn.ntmps - ys.toArray.size) Go.undef, defers := [] } w := by
    intro e u env' M2 he hs hl
    obtain ⟨_, h2, h3⟩ := hself _ _ _ _ _ _ hs
    refine wpIn_mono (h3 none r { tmps := ys.toArray ++ Array.replicate (fn.ntmps - ys.toArray.size) Go.undef, defers := [] } w (fun hn => by cases hn) henv trivial hM hG) ?_
    rintro e' a' w' ⟨rfl, r', q1, q2, q3, q4⟩
    have hlv : LeavesInM (FR none) 0 P fn a'.tmps (Gives r M w c) a'.defers u w' :=
      leave_sound hN (fun f xs u M u' M' hd r ys w hx hM hG hg => def_sound hself hd hx hM hG hg) h2 hl q1.weak q2 q3 (q4.gl.trans hG) fun e w'' hgv => hgv.trans q4
    rcases he with ⟨he | he, rfl⟩ | ⟨ch, he, rfl⟩
    · rw [he]; exact hlv
    · rw [he]; exact hlv
    · rw [he]; exact hlv
  unfold bodyE at h
  rw [mkEnvK_eq] at h
  split at h
  case h_4 => cases h
  · rename_i env' M2 hs; exact key _ _ _ _ (.inl ⟨.inl rfl, rfl⟩) hs h
  · rename_i env' M2 hs; exact key _ _ _ _ (.inl ⟨.inr rfl, rfl⟩) hs h
  · rename_i ch env' M2 hs; exact key _ _ _ _ (.inr ⟨ch, rfl, rfl⟩) hs h

def Mem.ownK {α : Type} (M : Mem) (k : Mem → α) : α := match M with
  | ⟨next, _, _, gl, _⟩ => forceN (64 * next) fun lo => k ⟨next, lo, gl, gl, []⟩
theorem Mem.ownK_eq {α : Type} (M : Mem) (k : Mem → α) : M.ownK k = k M.own := by
  obtain ⟨next, lo, bl, gl, ob⟩ := M
  simp [Mem.ownK, Mem.own, forceN_eq]
def Mem.dropK {α : Type} (M M' : Mem) (k : Mem → α) : α := match M with
  | ⟨_, lo, bl, gl, ob⟩ => (match M' with
    | ⟨next, _, _, _, _⟩ => forceN next fun next => k ⟨next, lo, bl, gl, ob⟩)
theorem Mem.dropK_eq {α : Type} (M M' : Mem) (k : Mem → α) : M.dropK M' k = k { M with next := M'.next } := by
  obtain ⟨next, lo, bl, gl, ob⟩ := M
  obtain ⟨next', lo', bl', gl', ob'⟩ := M'
  simp [Mem.dropK, forceN_eq]
def callE (P : Program) (self : Self) (gs : List Nat) (fn : Func) (b : Code) (xs : List Value) (M : Mem) : Option CR :=
  forceVs (forceD 4) xs fun xs => bif xs.all (af 4) then M.ownK fun Mo => (match bodyE P self gs fn b xs Mo with
    | some (.ret v M') => forceD 4 v fun v => bif af 4 v then M.dropK M' fun M2 => some (.ret v M2) else M.joinK M' fun M2 => some (.ret v M2)
    | some (.pan ch M') => M.dropK M' fun M2 => some (.pan ch M2)
    | none => none)
  else bodyE P self gs fn b xs M
theorem call_sound {P : Program} (hN : noRoutines P) {G : List (Nat × List Value)} {self : Self} (hself : SelfOk P G self) {gs : List Nat} {f : FuncId} {fn : Func} {b : Code} (hf : P.funcs[f]? = some fn) (hb : fn.body = some b) {xs ys : List Value} {M : Mem} {c : CR}
    {r : Nat → Option (Nat × Nat)} {w : World} (hx : LR r xs ys) (hM : MR r M w) (hG : M.gl = G) (hg : ∀ g ∈ gs, ∃ s, r (64 * g) = some (g, s)) (h : callE P self gs fn b xs M = some c) :
    Calls P f ys.toArray w (Gives r M w c) := by
  unfold callE at h
  simp only [forceVs_eq (forceD_eq 4), Mem.ownK_eq, forceD_eq, Mem.dropK_eq, Mem.joinK_eq] at h
  cases ha : xs.all (af 4) with
  | false => rw [ha] at h; exact body_sound hN hself hf hb hx hM hG hg h
  | true =>
    rw [ha] at h
    simp only [cond_true] at h
    split at h
    case h_3 => cases h
    · rename_i u M2 hq
      have hc := body_sound hN hself hf hb hx (own_rel hM) hG hg hq
      refine hc.mono fun e w' ⟨v', r', he, hv, hM2, hs⟩ => ?_
      cases hu : af 4 u with
      | true =>
        rw [hu] at h; cases h
        obtain ⟨h1, h2⟩ := drop_sound hM hM2 hs
        exact ⟨v', r', he, hv, h1, h2⟩
      | false =>
        rw [hu] at h; cases h
        obtain ⟨h1, h2⟩ := join_sound hM hM2 hs
        exact ⟨v', r', he, hv, h1, h2⟩
    · rename_i ch M2 hq
      cases h
      have hc := body_sound hN hself hf hb hx (own_rel hM) hG hg hq
      refine hc.mono fun e w' ⟨he, r', hM2, hs⟩ => ?_
      obtain ⟨h1, h2⟩ := drop_sound hM hM2 hs
      exact ⟨he, r', h1, h2⟩
end Ev
end Go.Proofs.Ytjinpngojdefiaa
/-! ## I3 -/
namespace Go.Proofs.Ytjinpngojdefiaa
open Go.RowKit
namespace Ev

/-- The tables of the program: what is known of package-level variables. -/
def GL (G : List (Nat × List Value)) (w : World) : Prop := ∀ i cs, look G i = some cs → ∃ t cc, w.heap[i / 64]? = some (.cells cc t (0, 0)) ∧ ∀ (j : Nat) v, cs[j]? = some v → cc[j]? = some v
theorem MR.gl {r : Nat → Option (Nat × Nat)} {M : Mem} {w : World} (h : MR r M w) : GL M.gl w := fun i cs hl => by
  obtain ⟨_, h1, ⟨s, h2⟩, h3⟩ := h.glob i cs hl
  obtain ⟨g, t, cc, h4, h5, _, h6⟩ := h.blk i cs h1
  rw [h2] at h4; cases h4
  refine ⟨t, cc, h5, fun j v hv => ?_⟩
  obtain ⟨v', h7, h8⟩ := h6 j v hv
  have := h8.eq (k := 1) (List.all_eq_true.1 h3 v (List.mem_of_getElem? hv))
  subst this
  exact h7

/-! ### A table of closed calls that are known. -/
abbrev KTab := List (FuncId × List Value × Value)
/-- A call in a state of memory, and what it gives. -/
structure KC where
  f : FuncId
  xs : List Value
  next : Nat
  lo : Nat
  bl : List (Nat × List Value)
  v : Value
  next' : Nat
  bl' : List (Nat × List Value)
  ob : List (Nat × AOb)
  ob' : List (Nat × AOb)
/-- Lists, each under what a number's last binary digits say. -/
inductive HT (α : Type) where
  | e
  | bk (l : List α)
  | nd (l r : HT α)
def HT.get {α : Type} : Nat → Nat → HT α → List α
  | 0, _, t => match t with
    | .bk l => l
    | _ => []
  | d + 1, h, t => match t with
    | .nd l r => bif Nat.beq (h % 2) 0 then forceN (h / 2) fun h => HT.get d h l else forceN (h / 2) fun h => HT.get d h r
    | _ => []
def HT.put {α : Type} (x : α) : Nat → Nat → HT α → HT α
  | 0, _, t => match t with
    | .bk l => .bk (x :: l)
    | _ => .bk [x]
  | d + 1, h, t => match t with
    | .nd l r => bif Nat.beq (h % 2) 0 then .nd (HT.put x d (h / 2) l) r else .nd l (HT.put x d (h / 2) r)
    | _ => bif Nat.beq (h % 2) 0 then .nd (HT.put x d (h / 2) .e) .e else .nd .e (HT.put x d (h / 2) .e)
def HT.Has {α : Type} (x : α) : HT α → Prop
  | .e => False
  | .bk l => x ∈ l
  | .nd l r => l.Has x ∨ r.Has x
theorem HT.get_has {α : Type} {x : α} : ∀ (d h : Nat) (t : HT α), x ∈ HT.get d h t → t.Has x
  | 0, _, t, hx => by
    cases t with
    | bk l => exact hx
    | e => cases hx
    | nd l r => cases hx
  | d + 1, h, t, hx => by
    cases t with
    | nd l r =>
      simp only [HT.get, forceN_eq] at hx
      cases hb : Nat.beq (h % 2) 0 with
      | true => rw [hb] at hx; exact .inl (HT.get_has d _ l hx)
      | false => rw [hb] at hx; exact .inr (HT.get_has d _ r hx)
    | e => cases hx
    | bk l => cases hx
theorem HT.put_has {α : Type} {x y : α} : ∀ (d h : Nat) (t : HT α), (HT.put x d h t).Has y → y = x ∨ t.Has y
  | 0, _, t, hy => by
    cases t with
    | bk l => exact List.mem_cons.1 hy
    | e => exact .inl (List.mem_singleton.1 hy)
    | nd l r => exact .inl (List.mem_singleton.1 hy)
  | d + 1, h, t, hy => by
    have new : (HT.put x d (h / 2) .e).Has y → y = x := fun k => (HT.put_has d _ _ k).resolve_right id
    cases t with
    | nd l r =>
      simp only [HT.put] at hy
      cases hb : Nat.beq (h % 2) 0 with
      | true =>
        rw [hb] at hy
        rcases hy with k | k
        · exact (HT.put_has d _ l k).imp id .inl
        · exact .inr (.inr k)
      | false =>
        rw [hb] at hy
        rcases hy with k | k
        · exact .inr (.inl k)
        · exact (HT.put_has d _ r k).imp id .inr
    | e =>
      simp only [HT.put] at hy
      cases hb : Nat.beq (h % 2) 0 with
      | true => rw [hb] at hy; exact .inl (new (hy.resolve_right id))
      | false => rw [hb] at hy; exact .inl (new (hy.resolve_left id))
    | bk l =>
      simp only [HT.put] at hy
      cases hb : Nat.beq (h % 2) 0 with
      | true => rw [hb] at hy; exact .inl (new (hy.resolve_right id))
      | false => rw [hb] at hy; exact .inl (new (hy.resolve_left id))
def hashL (f : Value → Nat) : List Value → Nat → Nat
  | [], acc => acc
  | x :: xs, acc => forceN ((acc * 31 + f x) % 65521) fun acc => hashL f xs acc
def hashB : Nat → List UInt8 → Nat → Nat
  | 0, _, acc => acc
  | _ + 1, [], acc => acc
  | n + 1, b :: l, acc => forceN ((acc * 31 + b.toNat) % 65521) fun acc => hashB n l acc
def hashV : Nat → Value → Nat
  | 0, _ => 1
  | n + 1, v => match v with
    | .int _ m => (match m with
      | .ofNat k => k % 65521 + 2
      | .negSucc k => k % 65521 + 3)
    | .bool b => bif b then 5 else 7
    | .string s => hashB 24 s.data.toList 9
    | .agg xs => hashL (hashV n) xs.toList 11
    | .tuple xs => hashL (hashV n) xs.toList 12
    | .func (.func f) xs _ => hashL (hashV n) xs.toList f
    | .iface t u => t + hashV n u
    | _ => 13
def hashA (f : FuncId) (xs : List Value) : Nat := hashL (hashV 4) xs (f + 17)
/-- What a row looks like, wherever its addresses lead. -/
def hashX : Nat → Value → Nat
  | 0, _ => 1
  | n + 1, v => match v with
    | .int _ m => (match m with
      | .ofNat k => k % 65521 + 2
      | .negSucc k => k % 65521 + 3)
    | .bool b => bif b then 5 else 7
    | .string s => hashB 24 s.data.toList 9
    | .slice _ l c => l * 5 + c + 3
    | .pointer a => (match a with
      | some a => a.off + 17
      | none => 19)
    | .agg xs => hashL (hashX n) xs.toList 11
    | .tuple xs => hashL (hashX n) xs.toList 12
    | .func (.func f) xs us => hashL (hashX n) us.toList (hashL (hashX n) xs.toList f)
    | .iface t u => t + hashX n u
    | _ => 13
def hashF (f : FuncId) (xs : List Value) : Nat := hashL (hashX 4) xs (f + 17)
/-- .. and the first cell of each block. -/
def hashH : List (Nat × List Value) → Nat → Nat
  | [], acc => acc
  | p :: l, acc => match p.2 with
    | [] => hashH l acc
    | v :: _ => forceN ((acc * 31 + hashX 4 v) % 65521) fun acc => hashH l acc
structure Tab where
  k : HT (FuncId × List Value × Value)
  c : HT KC
def Tab.putK (T : Tab) (q : FuncId × List Value × Value) : Tab := ⟨T.k.put q 8 (hashA q.1 q.2.1), T.c⟩
def Tab.putC (T : Tab) (q : KC) : Tab := ⟨T.k, T.c.put q 10 (hashH q.bl (hashF q.f q.xs))⟩
def beqL (p : Value → Value → Bool) : List Value → List Value → Bool
  | [], [] => true
  | x :: xs, y :: ys => p x y && beqL p xs ys
  | _, _ => false
def beqI : Int → Int → Bool
  | .ofNat a, .ofNat b => Nat.beq a b
  | .negSucc a, .negSucc b => Nat.beq a b
  | _, _ => false
theorem beqI_eq : ∀ {a b : Int}, beqI a b = true → a = b
  | .ofNat a, .ofNat b, h => by rw [Nat.eq_of_beq_eq_true h]
  | .negSucc a, .negSucc b, h => by rw [Nat.eq_of_beq_eq_true h]
  | .ofNat _, .negSucc _, h => by cases h
  | .negSucc _, .ofNat _, h => by cases h
def beqU : List UInt8 → List UInt8 → Bool
  | [], [] => true
  | a :: x, b :: y => bif Nat.beq a.toNat b.toNat then beqU x y else false
  | _, _ => false
theorem beqU_eq : ∀ {x y : List UInt8}, beqU x y = true → x = y
  | [], [], _ => rfl
  | [], _ :: _, h => by cases h
  | _ :: _, [], h => by cases h
  | a :: x, b :: y, h => by
    simp only [beqU] at h
    cases hb : Nat.beq a.toNat b.toNat with
    | false => rw [hb] at h; cases h
    | true =>
      rw [hb] at h
      rw [UInt8.toNat_inj.1 (Nat.eq_of_beq_eq_true hb), beqU_eq h]
def beqV : Nat → Value → Value → Bool
  | 0, _, _ => false
  | n + 1, x, y => match x, y with
    | .bool a, .bool b => Bool.decEq a b |>.decide
    | .int k a, .int l b => beqI a b && decide (k = l)
    | .string a, .string b => beqU a.data.toList b.data.toList
    | .pointer a, .pointer b => decide (a = b)
    | .slice a k c, .slice b m d => decide (a = b) && (Nat.beq k m && Nat.beq c d)
    | .map a, .map b => decide (a = b)
    | .nilFunc, .nilFunc => true
    | .nilIface, .nilIface => true
    | .agg a, .agg b => beqL (beqV n) a.toList b.toList
    | .tuple a, .tuple b => beqL (beqV n) a.toList b.toList
    | .func f a b, .func g c d => decide (f = g) && (beqL (beqV n) a.toList c.toList && beqL (beqV n) b.toList d.toList)
    | .iface t a, .iface u b => Nat.beq t u && beqV n a b
    | _, _ => false
theorem beqL_eq {p : Value → Value → Bool} (hp : ∀ x y, p x y = true → x = y) : ∀ {xs ys : List Value}, beqL p xs ys = true → xs = ys
  | [], [], _ => rfl
  | [], _ :: _, h => by cases h
  | _ :: _, [], h => by cases h
  | x :: xs, y :: ys, h => by
    simp only [beqL, Bool.and_eq_true] at h
    rw [hp x y h.1, beqL_eq hp h.2]
theorem beqV_eq : ∀ (n : Nat) (x y : Value), beqV n x y = true → x = y
  | 0, _, _, h => by cases h
  | n + 1, x, y, h => by
    have hl : ∀ {xs ys : Array Value}, beqL (beqV n) xs.toList ys.toList = true → xs = ys := fun h => Array.ext' (beqL_eq (beqV_eq n) h)
    unfold beqV at h
    split at h
    · rw [of_decide_eq_true h]
    · simp only [Bool.and_eq_true, decide_eq_true_eq] at h; rw [beqI_eq h.1, h.2]
    · rename_i a b
      obtain ⟨⟨a⟩⟩ := a
      obtain ⟨⟨b⟩⟩ := b
      rw [show a = b from beqU_eq h]
    · rw [of_decide_eq_true h]
    · simp only [Bool.and_eq_true, decide_eq_true_eq] at h; rw [h.1, Nat.eq_of_beq_eq_true h.2.1, Nat.eq_of_beq_eq_true h.2.2]
    · rw [of_decide_eq_true h]
    · rfl
    · rfl
    · rw [hl h]
    · rw [hl h]
    · simp only [Bool.and_eq_true, decide_eq_true_eq] at h; rw [h.1, hl h.2.1, hl h.2.2]
    · simp only [Bool.and_eq_true] at h; rw [Nat.eq_of_beq_eq_true h.1, beqV_eq n _ _ h.2]
    · cases h
def beqB : List (Nat × List Value) → List (Nat × List Value) → Bool
  | [], [] => true
  | p :: ps, q :: qs => Nat.beq p.1 q.1 && (beqL (beqV 6) p.2 q.2 && beqB ps qs)
  | _, _ => false
theorem beqB_eq : ∀ {ps qs : List (Nat × List Value)}, beqB ps qs = true → ps = qs
  | [], [], _ => rfl
  | [], _ :: _, h => by cases h
  | _ :: _, [], h => by cases h
  | (i, c) :: ps, (j, d) :: qs, h => by
    simp only [beqB, Bool.and_eq_true] at h
    rw [Nat.eq_of_beq_eq_true h.1, beqL_eq (beqV_eq 6) h.2.1, beqB_eq h.2.2]
def nilL {α : Type} : List α → Bool
  | [] => true
  | _ => false
theorem nilL_eq {α : Type} : ∀ {x : List α}, nilL x = true → x = []
  | [], _ => rfl
  | _ :: _, h => by cases h
def lookT : KTab → FuncId → List Value → Option Value
  | [], _, _ => none
  | q :: T, f, xs => bif Nat.beq q.1 f && beqL (beqV 6) q.2.1 xs then some q.2.2 else lookT T f xs
def Known (P : Program) (G : List (Nat × List Value)) (q : FuncId × List Value × Value) : Prop := q.2.1.all (af 4) = true ∧ af 4 q.2.2 = true ∧ ∀ w, GL G w → Calls P q.1 q.2.1.toArray w fun e w' => e = .returned q.2.2 ∧ Below w.heap.size w w'
def KTOk (P : Program) (G : List (Nat × List Value)) (T : KTab) : Prop := ∀ q ∈ T, Known P G q
def KC.mem (G : List (Nat × List Value)) (q : KC) : Mem := ⟨q.next, q.lo, q.bl ++ G, G, q.ob⟩
def KC.mem' (G : List (Nat × List Value)) (q : KC) : Mem := ⟨q.next', q.lo, q.bl' ++ G, G, q.ob'⟩
def KnownC (P : Program) (G : List (Nat × List Value)) (q : KC) : Prop := ∀ (r : Nat → Option (Nat × Nat)) (ys : List Value) (w : World), LR r q.xs ys → MR r (q.mem G) w → Calls P q.f ys.toArray w (Gives r (q.mem G) w (.ret q.v (q.mem' G)))
def TOk (P : Program) (G : List (Nat × List Value)) (T : Tab) : Prop := (∀ q, T.k.Has q → Known P G q) ∧ ∀ q, T.c.Has q → KnownC P G q
def beqEs : List (Value × Value) → List (Value × Value) → Bool
  | [], [] => true
  | p :: ps, q :: qs => beqV 6 p.1 q.1 && (beqV 6 p.2 q.2 && beqEs ps qs)
  | _, _ => false
theorem beqEs_eq : ∀ {ps qs : List (Value × Value)}, beqEs ps qs = true → ps = qs
  | [], [], _ => rfl
  | [], _ :: _, h => by cases h
  | _ :: _, [], h => by cases h
  | (a, b) :: ps, (c, d) :: qs, h => by
    simp only [beqEs, Bool.and_eq_true] at h
    rw [beqV_eq 6 _ _ h.1, beqV_eq 6 _ _ h.2.1, beqEs_eq h.2.2]
def beqO : List (Nat × AOb) → List (Nat × AOb) → Bool
  | [], [] => true
  | (i, .map es) :: r, (j, .map fs) :: s => Nat.beq i j && (beqEs es fs && beqO r s)
  | _, _ => false
theorem beqO_eq : ∀ {x y : List (Nat × AOb)}, beqO x y = true → x = y
  | [], y, h => by
    cases y with
    | nil => rfl
    | cons q s => cases h
  | (i, o) :: r, y, h => by
    cases o with
    | map es =>
      cases y with
      | nil => cases h
      | cons q s =>
        obtain ⟨j, p⟩ := q
        cases p with
        | map fs =>
          simp only [beqO, Bool.and_eq_true] at h
          rw [Nat.eq_of_beq_eq_true h.1, beqEs_eq h.2.1, beqO_eq h.2.2]
        | _ => cases h
    | _ => cases y <;> cases h
theorem lookT_sound {P : Program} {G : List (Nat × List Value)} : ∀ {T : KTab} {f : FuncId} {xs : List Value} {v : Value}, KTOk P G T → lookT T f xs = some v → Known P G (f, xs, v)
  | [], _, _, _, _, h => by cases h
  | q :: T, f, xs, v, hT, h => by
    simp only [lookT] at h
    generalize hb : (Nat.beq q.1 f && beqL (beqV 6) q.2.1 xs) = b at h
    cases b with
    | false => exact lookT_sound (fun p hp => hT p (List.mem_cons_of_mem _ hp)) h
    | true =>
      cases h
      simp only [Bool.and_eq_true] at hb
      have e1 := Nat.eq_of_beq_eq_true hb.1
      have e2 := beqL_eq (beqV_eq 6) hb.2
      obtain ⟨g, ys, u⟩ := q
      simp only at e1 e2
      subst e1; subst e2
      exact hT _ List.mem_cons_self
theorem same_rel {r : Nat → Option (Nat × Nat)} {M : Mem} {w w' : World} (hM : MR r M w) (h : Below w.heap.size w w') : MR r M w' ∧ Stp r M w r M w' := by
  refine ⟨⟨fun i cs hl => ?_, hM.inj, hM.bound, hM.glob, fun i o hl => ?_, hM.injO⟩, ⟨fun _ _ h => h, rfl, Nat.le_refl _, fun _ cs h _ => ⟨cs, h⟩, h.os, h.tape, h.output, h.size, fun k hk _ _ => h.block k hk, fun i cs g h1 h2 h3 _ => ⟨i, cs, g, h1, h2, h3, rfl⟩, rfl, fun i o g h1 h2 _ => ⟨i, o, g, h1, h2, rfl⟩⟩⟩
  · obtain ⟨g, t, cc, h1, h2, h3⟩ := hM.blk i cs hl
    exact ⟨g, t, cc, h1, by rw [h.block g.1 (hM.lt hl h1)]; exact h2, h3⟩
  · obtain ⟨g, x, h1, h2, h3⟩ := hM.obj i o hl
    exact ⟨g, x, h1, by rw [h.block g.1 (hM.ltO hl h1)]; exact h2, h3⟩

/-! ### Some of the blocks, the maps of the objects: what is out of sight stays as it is. -/
def sel {α : Type} (p : Nat → Bool) : List (Nat × α) → List (Nat × α)
  | [] => []
  | (i, c) :: r => bif p i then (i, c) :: sel p r else sel p r
theorem look_sel {α : Type} (p : Nat → Bool) : ∀ (l : List (Nat × α)) (i : Nat), look (sel p l) i = bif p i then look l i else none
  | [], i => by cases p i <;> rfl
  | (j, c) :: r, i => by
    simp only [sel]
    by_cases e : j = i
    · subst e
      cases h : p j with
      | true => simp [look_cons]
      | false => simp [look_sel p r j, h]
    · cases h : p j with
      | true => simp only [cond_true, look_cons, if_neg e, look_sel p r i]
      | false => simp only [cond_false, look_cons, if_neg e, look_sel p r i]
theorem look_sel_some {α : Type} {p : Nat → Bool} {l : List (Nat × α)} {i : Nat} {c : α} (h : look (sel p l) i = some c) : p i = true ∧ look l i = some c := by
  rw [look_sel] at h
  cases hp : p i with
  | true => rw [hp] at h; exact ⟨rfl, h⟩
  | false => rw [hp] at h; cases h

/-- An operation that sees only some of the blocks leaves the others as they are. -/
theorem hide_sound {r r' : Nat → Option (Nat × Nat)} {M M' : Mem} {w w' : World} {p : Nat → Bool} (hM : MR r M w) (hlo : M.lo ≤ 64 * M.next) (h2 : MR r' M' w') (h3 : Stp r { M with bl := sel p M.bl } w r' M' w') :
    MR r' { M' with bl := M'.bl ++ sel (fun i => !p i) M.bl } w' ∧ Stp r M w r' { M' with bl := M'.bl ++ sel (fun i => !p i) M.bl } w' := by
  -- what is hidden
  have hid : ∀ {i cs}, look (sel (fun i => !p i) M.bl) i = some cs → p i = false ∧ look M.bl i = some cs := fun h => by
    obtain ⟨h1, h2⟩ := look_sel_some h
    exact ⟨by simpa using h1, h2⟩
  have split' : ∀ {i cs}, look (M'.bl ++ sel (fun i => !p i) M.bl) i = some cs → look M'.bl i = some cs ∨ (p i = false ∧ look M.bl i = some cs) := fun {i cs} h => by
    rw [look_append] at h
    cases hl : look M'.bl i with
    | some c => rw [hl] at h; exact .inl h
    | none => rw [hl] at h; exact .inr (hid h)
  -- an old block behind one that is there now
  have back : ∀ {i cs g}, look M'.bl i = some cs → r' i = some g → g.1 < w.heap.size → ∃ j ds h, p j = true ∧ look M.bl j = some ds ∧ r j = some h ∧ h.1 = g.1 := fun {i cs g} hl hi hg => by
    rcases Nat.lt_or_ge i (64 * M.next) with q | q
    · obtain ⟨ds, k1⟩ := h3.old i cs hl q
      obtain ⟨k2, k3⟩ := look_sel_some k1
      obtain ⟨g', _, _, k4, _⟩ := hM.blk i ds k3
      have k5 := h3.ext _ _ k4
      rw [hi] at k5; cases k5
      exact ⟨i, ds, g, k2, k3, k4, rfl⟩
    · obtain ⟨j, ds, h, k1, k2, k3, k4⟩ := h3.anc i cs g (by rw [h3.lo]; exact Nat.le_trans hlo q) hl hi hg
      obtain ⟨k5, k6⟩ := look_sel_some k2
      exact ⟨j, ds, h, k5, k6, k3, k4⟩
  have far : ∀ {i cs j ds g h}, look M'.bl i = some cs → r' i = some g → p j = false → look M.bl j = some ds → r j = some h → g.1 = h.1 → False := fun {i cs j ds g h} h1 h4 h5 h6 h7 e => by
    obtain ⟨k, es, f, k1, k2, k3, k4⟩ := back h1 h4 (by rw [e]; exact hM.lt h6 h7)
    have := hM.inj k j es ds f h k2 h6 k3 h7 (k4.trans e)
    subst this
    rw [k1] at h5; cases h5
  have same : ∀ {i cs g}, p i = false → look M.bl i = some cs → r i = some g → w'.heap[g.1]? = w.heap[g.1]? := fun {i cs g} h1 h4 h5 => by
    refine h3.keep g.1 (hM.lt h4 h5) (fun j ds h _ k1 k2 e => ?_) fun j o h k1 k2 e => ?_
    · obtain ⟨k3, k4⟩ := look_sel_some k1
      have := hM.inj j i ds cs h g k4 h4 k2 h5 e
      subst this
      rw [k3] at h1; cases h1
    · obtain ⟨g', t, cc, q1, q2, _⟩ := hM.blk i cs h4
      rw [h5] at q1; cases q1
      obtain ⟨h', x, q3, q4, q5⟩ := hM.obj j o k1
      rw [k2] at q3; cases q3
      rw [e, q2] at q4; cases q4
      exact q5.not_cells
  refine ⟨⟨fun i cs hl => ?_, fun i j cs ds g h h1 h4 h5 h6 e => ?_, h2.bound, fun i cs hl => ⟨(h2.glob i cs hl).1, ?_, (h2.glob i cs hl).2.2⟩, h2.obj, h2.injO⟩, ⟨h3.ext, h3.lo, h3.next, fun i cs hl hi => ?_, h3.os, h3.tape, h3.output, h3.size, fun k hk h4 h5 => ?_, fun i cs g hl hs hi hg => ?_, h3.gl, h3.ancO⟩⟩
  · rcases split' hl with h | ⟨h, h4⟩
    · exact h2.blk i cs h
    · obtain ⟨g, t, cc, k1, k2, k3, k4⟩ := hM.blk i cs h4
      exact ⟨g, t, cc, h3.ext _ _ k1, by rw [same h h4 k1]; exact k2, k3, fun j v hv => by obtain ⟨v', q1, q2⟩ := k4 j v hv; exact ⟨v', q1, q2.mono h3.ext⟩⟩
  · rcases split' h1 with q | ⟨q, q'⟩ <;> rcases split' h4 with u | ⟨u, u'⟩
    · exact h2.inj i j cs ds g h q u h5 h6 e
    · obtain ⟨g', _, _, k, _⟩ := hM.blk j ds u'
      have k' := h3.ext _ _ k
      rw [h6] at k'; cases k'
      exact (far q h5 u u' k e).elim
    · obtain ⟨g', _, _, k, _⟩ := hM.blk i cs q'
      have k' := h3.ext _ _ k
      rw [h5] at k'; cases k'
      exact (far u h6 q q' k e.symm).elim
    · obtain ⟨g', _, _, k, _⟩ := hM.blk i cs q'
      have k' := h3.ext _ _ k
      rw [h5] at k'; cases k'
      obtain ⟨h', _, _, m, _⟩ := hM.blk j ds u'
      have m' := h3.ext _ _ m
      rw [h6] at m'; cases m'
      exact hM.inj i j cs ds _ _ q' u' k m e
  · simp only [look_append, (h2.glob i cs hl).2.1, Option.some_or]
  · rcases split' hl with h | ⟨_, h⟩
    · obtain ⟨ds, k⟩ := h3.old i cs h hi
      exact ⟨ds, (look_sel_some k).2⟩
    · exact ⟨cs, h⟩
  · exact h3.keep k hk (fun i cs g hlo hl hi => h4 i cs g hlo (look_sel_some hl).2 hi) h5
  · rcases split' hs with h | ⟨_, h⟩
    · obtain ⟨j, ds, g', k1, k2, k3⟩ := h3.anc i cs g hl h hi hg
      exact ⟨j, ds, g', k1, (look_sel_some k2).2, k3⟩
    · obtain ⟨g', _, _, k, _⟩ := hM.blk i cs h
      have k' := h3.ext _ _ k
      rw [hi] at k'; cases k'
      exact ⟨i, cs, g, by rw [← h3.lo]; exact hl, h, k, rfl⟩

def isMapAt (p : Nat → Bool) (ob : List (Nat × AOb)) (i : Nat) : Bool := bif p i then (match look ob i with
  | some (.map _) => true
  | _ => false) else false
def mapsOf (p : Nat → Bool) (ob : List (Nat × AOb)) : List (Nat × AOb) := sel (isMapAt p ob) ob
def restOf (p : Nat → Bool) (ob : List (Nat × AOb)) : List (Nat × AOb) := sel (fun i => !isMapAt p ob i) ob
theorem mapsOf_some {p : Nat → Bool} {ob : List (Nat × AOb)} {i : Nat} {o : AOb} (h : look (mapsOf p ob) i = some o) : isMapAt p ob i = true ∧ look ob i = some o := look_sel_some h
theorem restOf_some {p : Nat → Bool} {ob : List (Nat × AOb)} {i : Nat} {o : AOb} (h : look (restOf p ob) i = some o) : isMapAt p ob i = false ∧ look ob i = some o := by
  obtain ⟨h1, h2⟩ := look_sel_some h
  exact ⟨by simpa using h1, h2⟩
/-- What was hidden is as it was. -/
theorem unhide {q : Nat → Bool} {r r' : Nat → Option (Nat × Nat)} {M M' : Mem} {w w' : World} (hM : MR r M w) (hM' : MR r' M' w') (hs : Stp r { M with ob := mapsOf q M.ob } w r' M' w') : MR r' { M' with ob := M'.ob ++ restOf q M.ob } w' ∧ Stp r M w r' { M' with ob := M'.ob ++ restOf q M.ob } w' := by
  have same : ∀ i o g, look (restOf q M.ob) i = some o → r i = some g → w'.heap[g.1]? = w.heap[g.1]? := fun i o g hl hi =>
    hs.keep g.1 (hM.ltO (restOf_some hl).2 hi) (fun j cs k _ h2 h3 => hM.apart h2 h3 (restOf_some hl).2 hi) fun j p k h2 h3 e => by
      have := hM.injO j i p o k g (mapsOf_some h2).2 (restOf_some hl).2 h3 hi e
      subst this
      have := (mapsOf_some h2).1
      rw [(restOf_some hl).1] at this; cases this
  have split' : ∀ {i o}, look (M'.ob ++ restOf q M.ob) i = some o → look M'.ob i = some o ∨ look (restOf q M.ob) i = some o := fun {i o} h => by
    rw [look_append] at h
    cases hl : look M'.ob i with
    | some c => rw [hl] at h; exact .inl h
    | none => rw [hl] at h; exact .inr h
  -- an object in sight is none of those that were not
  have far : ∀ {i j o p g h}, look M'.ob i = some o → r' i = some g → look (restOf q M.ob) j = some p → r j = some h → g.1 = h.1 → False := fun {i j o p g h} h1 h2 h3 h4 e => by
    have hlt := hM.ltO (restOf_some h3).2 h4
    obtain ⟨k, q', f, k1, k2, k3⟩ := hs.ancO i o g h1 h2 (by rw [e]; exact hlt)
    have := hM.injO k j q' p f h (mapsOf_some k1).2 (restOf_some h3).2 k2 h4 (k3.trans e)
    subst this
    have := (mapsOf_some k1).1
    rw [(restOf_some h3).1] at this; cases this
  refine ⟨⟨hM'.blk, hM'.inj, hM'.bound, hM'.glob, fun i o hl => ?_, fun i j o p g h h1 h2 h3 h4 e => ?_⟩, ⟨hs.ext, hs.lo, hs.next, hs.old, hs.os, hs.tape, hs.output, hs.size, fun k hk hn hn' => hs.keep k hk hn (fun i o g hl => hn' i o g (mapsOf_some hl).2), hs.anc, hs.gl, fun i o g hl hi hg => ?_⟩⟩
  · rcases split' hl with hl | hl
    · exact hM'.obj i o hl
    · obtain ⟨g, x, h1, h2, h3⟩ := hM.obj i o (restOf_some hl).2
      exact ⟨g, x, hs.ext _ _ h1, by rw [same i o g hl h1]; exact h2, h3.mono hs.ext⟩
  · have back : ∀ {i o g}, look (restOf q M.ob) i = some o → r' i = some g → r i = some g := fun {i o g} hl hi => by
      obtain ⟨g', _, q1, _⟩ := hM.obj i o (restOf_some hl).2
      have e1 := hs.ext _ _ q1
      rw [hi] at e1; cases e1
      exact q1
    rcases split' h1 with h1 | h1 <;> rcases split' h2 with h2 | h2
    · exact hM'.injO i j o p g h h1 h2 h3 h4 e
    · exact (far h1 h3 h2 (back h2 h4) e).elim
    · exact (far h2 h4 h1 (back h1 h3) e.symm).elim
    · exact hM.injO i j o p g h (restOf_some h1).2 (restOf_some h2).2 (back h1 h3) (back h2 h4) e
  · rcases split' hl with hl | hl
    · obtain ⟨j, p, h, k1, k2, k3⟩ := hs.ancO i o g hl hi hg
      exact ⟨j, p, h, (mapsOf_some k1).2, k2, k3⟩
    · obtain ⟨g', x, q1, _⟩ := hM.obj i o (restOf_some hl).2
      have e1 := hs.ext _ _ q1
      rw [hi] at e1; cases e1
      exact ⟨i, o, _, (restOf_some hl).2, q1, rfl⟩
/-- Both. -/
theorem part_rel {r : Nat → Option (Nat × Nat)} {M : Mem} {w : World} {p : Nat → Bool} (hM : MR r M w) (hp : ∀ i cs, look M.gl i = some cs → p i = true) : MR r { M with bl := sel p M.bl, ob := mapsOf p M.ob } w :=
  have h1 : MR r { M with bl := sel p M.bl } w := hM.sub (fun i cs hl => (look_sel_some hl).2) fun i cs hl => by
    rw [look_sel, hp i cs hl]
    exact (hM.glob i cs hl).2.1
  ⟨h1.blk, h1.inj, h1.bound, h1.glob, fun i o hl => hM.obj i o (mapsOf_some hl).2, fun i j o o' g h h1 h2 => hM.injO i j o o' g h (mapsOf_some h1).2 (mapsOf_some h2).2⟩
theorem part_back {r r' : Nat → Option (Nat × Nat)} {M M' : Mem} {w w' : World} {p : Nat → Bool} (hM : MR r M w) (hlo : M.lo ≤ 64 * M.next) (h2 : MR r' M' w') (h3 : Stp r { M with bl := sel p M.bl, ob := mapsOf p M.ob } w r' M' w') :
    MR r' { M' with bl := M'.bl ++ sel (fun i => !p i) M.bl, ob := M'.ob ++ restOf p M.ob } w' ∧ Stp r M w r' { M' with bl := M'.bl ++ sel (fun i => !p i) M.bl, ob := M'.ob ++ restOf p M.ob } w' := by
  have hMo : MR r { M with ob := mapsOf p M.ob } w := ⟨hM.blk, hM.inj, hM.bound, hM.glob, fun i o hl => hM.obj i o (mapsOf_some hl).2, fun i j o o' g h h1 h2 => hM.injO i j o o' g h (mapsOf_some h1).2 (mapsOf_some h2).2⟩
  obtain ⟨k1, k2⟩ := hide_sound (M := { M with ob := mapsOf p M.ob }) hMo hlo h2 h3
  exact unhide hM k1 k2
/-- Lists built whole. -/
def selK {α β : Type} (p : Nat → Bool) : List (Nat × α) → (List (Nat × α) → β) → β
  | [], k => k []
  | (i, c) :: r, k => bif p i then selK p r fun r => k ((i, c) :: r) else selK p r k
theorem selK_eq {α β : Type} (p : Nat → Bool) : ∀ (l : List (Nat × α)) (k : List (Nat × α) → β), selK p l k = k (sel p l)
  | [], k => rfl
  | (i, c) :: r, k => by
    simp only [selK, sel, selK_eq p r]
    cases p i <;> rfl
def appK {α β : Type} : List α → List α → (List α → β) → β
  | [], m, k => k m
  | x :: l, m, k => appK l m fun r => k (x :: r)
theorem appK_eq {α β : Type} : ∀ (l m : List α) (k : List α → β), appK l m k = k (l ++ m)
  | [], m, k => rfl
  | x :: l, m, k => by simp only [appK, appK_eq l, List.cons_append]
/-- The memory with some of its blocks, and its maps. -/
def Mem.partK {α : Type} (M : Mem) (p : Nat → Bool) (k : Mem → α) : α := match M with
  | ⟨next, lo, bl, gl, ob⟩ => selK p bl fun bl => (match ob with
    | [] => k ⟨next, lo, bl, gl, []⟩
    | x :: ob => selK (isMapAt p (x :: ob)) (x :: ob) fun ob => k ⟨next, lo, bl, gl, ob⟩)
theorem Mem.partK_eq {α : Type} (M : Mem) (p : Nat → Bool) (k : Mem → α) : M.partK p k = k { M with bl := sel p M.bl, ob := mapsOf p M.ob } := by
  obtain ⟨next, lo, bl, gl, ob⟩ := M
  cases ob with
  | nil => simp only [Mem.partK, selK_eq]; rfl
  | cons x ob => simp only [Mem.partK, selK_eq]; rfl
def Mem.wholeK {α : Type} (M : Mem) (p : Nat → Bool) (m : Mem) (k : Mem → α) : α := match M with
  | ⟨_, _, bl, _, ob⟩ => match m with
    | ⟨next, lo, bl', gl, ob'⟩ => selK (fun i => !p i) bl fun hid => appK bl' hid fun bl => (match ob with
      | [] => k ⟨next, lo, bl, gl, ob' ++ []⟩
      | x :: ob => selK (fun i => !isMapAt p (x :: ob) i) (x :: ob) fun hid => appK ob' hid fun ob => k ⟨next, lo, bl, gl, ob⟩)
theorem Mem.wholeK_eq {α : Type} (M : Mem) (p : Nat → Bool) (m : Mem) (k : Mem → α) : M.wholeK p m k = k { m with bl := m.bl ++ sel (fun i => !p i) M.bl, ob := m.ob ++ restOf p M.ob } := by
  obtain ⟨next, lo, bl, gl, ob⟩ := M
  cases ob with
  | nil => simp only [Mem.wholeK, selK_eq, appK_eq]; rfl
  | cons x ob => simp only [Mem.wholeK, selK_eq, appK_eq]; rfl

/-! ### What a value leads to. -/
def addrL (f : Value → List Nat → List Nat) : List Value → List Nat → List Nat
  | [], acc => acc
  | x :: xs, acc => addrL f xs (f x acc)
def addrV : Nat → Value → List Nat → List Nat
  | 0, _, acc => acc
  | n + 1, v, acc => match v with
    | .pointer (some a) => forceN a.block fun b => b :: acc
    | .slice (some a) _ _ => forceN a.block fun b => b :: acc
    | .map (some i) => forceN i fun i => i :: acc
    | .agg xs => addrL (addrV n) xs.toList acc
    | .tuple xs => addrL (addrV n) xs.toList acc
    | .func (.yield i) _ _ => forceN i fun i => i :: acc
    | .func _ xs ys => addrL (addrV n) ys.toList (addrL (addrV n) xs.toList acc)
    | .iface _ u => addrV n u acc
    | _ => acc
def addrE : List (Value × Value) → List Nat → List Nat
  | [], acc => acc
  | p :: r, acc => addrE r (addrV 4 p.2 acc)
def memR (i : Nat) : List Nat → Bool
  | [] => false
  | j :: r => bif Nat.beq j i then true else memR i r
def firstAddr : Nat → List Value → Bool
  | 0, _ => false
  | _ + 1, [] => false
  | n + 1, v :: r => match v with
    | .pointer (some _) => true
    | .slice (some _) _ _ => true
    | .map (some _) => true
    | .func _ _ _ => true
    | .iface _ _ => true
    | .agg _ => true
    | _ => firstAddr n r
def reachW (bl : List (Nat × List Value)) (ob : List (Nat × AOb)) : Nat → List Nat → List Nat → List Nat
  | 0, _, done => done
  | _ + 1, [], done => done
  | n + 1, b :: todo, done => bif memR b done then reachW bl ob n todo done else match look bl b with
    | some cs => bif firstAddr 16 cs then reachW bl ob n (addrL (addrV 4) cs todo) (b :: done) else reachW bl ob n todo (b :: done)
    | none => match look ob b with
      | some (.map es) => reachW bl ob n (addrE es todo) (b :: done)
      | _ => reachW bl ob n todo (b :: done)
def loopIn (ob : List (Nat × AOb)) : List Nat → Bool
  | [] => false
  | i :: r => match look ob i with
    | some (.loop _ _ _ _ _ _) => true
    | _ => loopIn ob r
def frameP (R : List Nat) (gl : List (Nat × List Value)) (i : Nat) : Bool := bif memR i R then true else match look gl i with
  | some _ => true
  | none => false
theorem frameP_gl {R : List Nat} {gl : List (Nat × List Value)} {i : Nat} {cs : List Value} (h : look gl i = some cs) : frameP R gl i = true := by
  unfold frameP
  rw [h]
  cases memR i R <;> rfl
def namesOf : List (Nat × List Value) → List Nat
  | [] => []
  | p :: r => p.1 :: namesOf r
/-- What a call has made and nothing leads to is let go. -/
def gcP (next0 : Nat) (L : List Nat) (gl : List (Nat × List Value)) (i : Nat) : Bool := bif Nat.blt i next0 then true else frameP L gl i
def gcC (M : Mem) (k : Value → Mem → Option CR) (v : Value) (M' : Mem) : Option CR := match M' with
  | ⟨next, lo, bl, gl, ob⟩ => bif Nat.ble next (M.next + 6) then k v ⟨next, lo, bl, gl, ob⟩
    else forceN (64 * M.next) fun lim => forceL (reachW bl ob 5000 (addrV 4 v (namesOf M.bl)) []) fun L => selK (gcP lim L gl) bl fun bl => k v ⟨next, lo, bl, gl, ob⟩
/-- A call sees what its arguments lead to. -/
def frameE (M : Mem) (xs : List Value) (k : List Nat → Mem → Option CR) : Option CR :=
  bif xs.all (af 4) then k [] M else
  forceL (reachW M.bl M.ob 5000 (addrL (addrV 4) xs []) []) fun R =>
  bif loopIn M.ob R || !(Nat.ble M.lo (64 * M.next)) then k [] M else
  match (M.partK (frameP R M.gl) fun M1 => match k R M1 with
    | some (.ret v M') => forceD 4 v fun v => gcC M1 (fun v M' => M.wholeK (frameP R M.gl) M' fun M' => some (.ret v M')) v M'
    | some (.pan ch M') => M.wholeK (frameP R M.gl) M' fun M' => some (.pan ch M')
    | none => none) with
  | some c => some c
  | none => k [] M
theorem frame_sound {P : Program} {G : List (Nat × List Value)} {f : FuncId} {ys : Array Value} {M : Mem} {xs : List Value} {k : List Nat → Mem → Option CR} {c : CR} {r : Nat → Option (Nat × Nat)} {w : World}
    (hk : ∀ R M1 c1, k R M1 = some c1 → MR r M1 w → M1.gl = G → Calls P f ys w (Gives r M1 w c1)) (hM : MR r M w) (hG : M.gl = G) (h : frameE M xs k = some c) : Calls P f ys w (Gives r M w c) := by
  unfold frameE at h
  cases ha : xs.all (af 4) with
  | true => rw [ha] at h; exact hk [] M c h hM hG
  | false =>
    rw [ha] at h
    simp only [cond_false, forceL_eq, Mem.partK_eq, forceD_eq, Mem.wholeK_eq] at h
    generalize hR : reachW M.bl M.ob 5000 (addrL (addrV 4) xs []) [] = R at h
    generalize hc : (loopIn M.ob R || !(Nat.ble M.lo (64 * M.next))) = d at h
    cases d with
    | true => exact hk [] M c h hM hG
    | false =>
      simp only [cond_false] at h
      simp only [Bool.or_eq_false_iff, Bool.not_eq_false'] at hc
      have hlo := Nat.le_of_ble_eq_true hc.2
      have hp : ∀ i cs, look M.gl i = some cs → frameP R M.gl i = true := fun i cs hl => frameP_gl hl
      have hM1 := part_rel (p := frameP R M.gl) hM hp
      split at h
      case h_2 => exact hk [] M c h hM hG
      rename_i c' h'
      cases h
      split at h'
      case h_3 => cases h'
      · rename_i v M2 hq
        have hcall := hk _ _ _ hq hM1 hG
        -- what is let go
        have hgc : ∃ M3, (M3 = M2 ∨ ∃ q : Nat → Bool, (∀ i cs, look M2.gl i = some cs → q i = true) ∧ M3 = { M2 with bl := sel q M2.bl }) ∧ some (CR.ret v { M3 with bl := M3.bl ++ sel (fun i => !frameP R M.gl i) M.bl, ob := M3.ob ++ restOf (frameP R M.gl) M.ob }) = some c := by
          obtain ⟨next, lo, bl, gl, ob⟩ := M2
          unfold gcC at h'
          simp only [forceN_eq, forceL_eq, selK_eq] at h'
          generalize hb : Nat.ble next (M.next + 6) = b at h'
          cases b with
          | true => exact ⟨_, .inl rfl, h'⟩
          | false =>
            refine ⟨_, .inr ⟨gcP (64 * M.next) (reachW bl ob 5000 (addrV 4 v (namesOf (sel (frameP R M.gl) M.bl))) []) gl, fun i cs hl => ?_, rfl⟩, h'⟩
            unfold gcP
            rw [frameP_gl hl]
            cases Nat.blt i (64 * M.next) <;> rfl
        obtain ⟨M3, h3, h4⟩ := hgc
        cases h4
        refine hcall.mono fun e w' ⟨v', r', he, hv, hm, hs⟩ => ?_
        have h5 : MR r' M3 w' ∧ Stp r { M with bl := sel (frameP R M.gl) M.bl, ob := mapsOf (frameP R M.gl) M.ob } w r' M3 w' := by
          rcases h3 with rfl | ⟨q, hq', rfl⟩
          · exact ⟨hm, hs⟩
          · refine ⟨hm.sub (fun i cs hl => (look_sel_some hl).2) fun i cs hl => ?_, hs.fewer fun i cs hl => (look_sel_some hl).2⟩
            rw [look_sel, hq' i cs hl]
            exact (hm.glob i cs hl).2.1
        obtain ⟨h6, h7⟩ := part_back hM hlo h5.1 h5.2
        exact ⟨v', r', he, hv, h6, h7⟩
      · rename_i ch M2 hq
        cases h'
        have hcall := hk _ _ _ hq hM1 hG
        refine hcall.mono fun e w' ⟨he, r', hm, hs⟩ => ?_
        obtain ⟨h6, h7⟩ := part_back hM hlo hm hs
        exact ⟨he, r', h6, h7⟩
end Ev
end Go.Proofs.Ytjinpngojdefiaa
