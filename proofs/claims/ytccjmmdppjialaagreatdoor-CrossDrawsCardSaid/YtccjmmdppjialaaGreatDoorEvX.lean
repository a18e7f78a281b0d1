/- The evaluator, X: objects that are no rows, maps, and the smaller operations. -/
import Derived.Test.YtccjmmdppjialaaGreatDoorEvH
import Derived.Maps.Keyed
namespace Go.Proofs.YtccjmmdppjialaaGreatDoor
open Go.RowKit
namespace Ev

/-! ### A new object; an object written anew; an object let go. -/
theorem newO_sound {r : Nat → Option (Nat × Nat)} {M : Mem} {w w' : World} (hM : MR r M w) {o : AOb} {h : Obj} (hh : OB r o h) (hw : w'.heap = w.heap.push h) (ho : w'.os = w.os) (ht : w'.tape = w.tape) (hu : w'.output = w.output) :
    MR (more r (64 * M.next) (w.heap.size, 0)) { M with next := M.next + 1, ob := (64 * M.next, o) :: M.ob } w' ∧ Stp r M w (more r (64 * M.next) (w.heap.size, 0)) { M with next := M.next + 1, ob := (64 * M.next, o) :: M.ob } w' := by
  have hext : ∀ i h, r i = some h → more r (64 * M.next) (w.heap.size, 0) i = some h := more_ext (hM.ne 0) (w.heap.size, 0)
  have hself := more_self r (64 * M.next) (w.heap.size, 0)
  have hold : ∀ g, g < w.heap.size → w'.heap[g]? = w.heap[g]? := fun g hg => by
    rw [hw, Array.getElem?_push, if_neg (by omega)]
  have hne : ∀ i p, look M.ob i = some p → 64 * M.next ≠ i := fun i p hl => by
    obtain ⟨g, _, h1, _⟩ := hM.obj i p hl
    exact (hM.ne 0 i g h1).symm
  refine ⟨⟨?_, ?_, ?_, fun i cs hl => (by obtain ⟨h1, h2, ⟨s, h4⟩, h5⟩ := hM.glob i cs hl; exact ⟨h1, h2, ⟨s, hext _ _ h4⟩, h5⟩), ?_, ?_⟩, ⟨hext, rfl, Nat.le_succ _, fun i cs hl _ => ⟨cs, hl⟩, ho, ht, hu, by rw [hw]; simp, fun g hg _ _ => hold g hg, ?_, rfl, ?_⟩⟩
  · intro i cs hl
    obtain ⟨g, t, cc, h1, h2, h2', h3⟩ := hM.blk i cs hl
    refine ⟨g, t, cc, hext _ _ h1, by rw [hold g.1 (hM.lt hl h1)]; exact h2, h2', fun j v hv => ?_⟩
    obtain ⟨v', h4, h5⟩ := h3 j v hv
    exact ⟨v', h4, h5.mono hext⟩
  · intro i j cs ds g g' hl hl' hi hj e
    obtain ⟨g1, _, _, h1, _⟩ := hM.blk i cs hl
    obtain ⟨g2, _, _, h2, _⟩ := hM.blk j ds hl'
    have e1 := hext _ _ h1
    have e2 := hext _ _ h2
    rw [hi] at e1; rw [hj] at e2; cases e1; cases e2
    exact hM.inj i j cs ds _ _ hl hl' h1 h2 e
  · intro i g hi
    simp only [more] at hi
    split at hi
    · simp only; omega
    · have := hM.bound i g hi; simp only; omega
  · intro i p hl
    simp only [look_cons] at hl
    by_cases hi : 64 * M.next = i
    · subst hi
      rw [if_pos rfl] at hl; cases hl
      exact ⟨(w.heap.size, 0), h, hself, by rw [hw]; simp, hh.mono hext⟩
    · rw [if_neg hi] at hl
      obtain ⟨g, x, h1, h2, h3⟩ := hM.obj i p hl
      exact ⟨g, x, hext _ _ h1, by rw [hold g.1 (hM.ltO hl h1)]; exact h2, h3.mono hext⟩
  · intro i j p q g g' hl hl' hi hj e
    simp only [look_cons] at hl hl'
    have key : ∀ k s x, look M.ob k = some s → more r (64 * M.next) (w.heap.size, 0) k = some x → x.1 = w.heap.size → False := fun k s x hk hx ex => by
      obtain ⟨g1, _, h1, _⟩ := hM.obj k s hk
      have e1 := hext _ _ h1
      have := hM.ltO hk h1
      rw [hx] at e1; cases e1; omega
    by_cases hin : 64 * M.next = i
    · subst hin
      rw [hself] at hi; cases hi
      by_cases hjn : 64 * M.next = j
      · exact hjn
      · rw [if_neg hjn] at hl'; exact (key _ _ _ hl' hj e.symm).elim
    · rw [if_neg hin] at hl
      by_cases hjn : 64 * M.next = j
      · subst hjn
        rw [hself] at hj; cases hj
        exact (key _ _ _ hl hi e).elim
      · rw [if_neg hjn] at hl'
        obtain ⟨g1, _, h1, _⟩ := hM.obj i p hl
        obtain ⟨g2, _, h2, _⟩ := hM.obj j q hl'
        have e1 := hext _ _ h1
        have e2 := hext _ _ h2
        rw [hi] at e1; rw [hj] at e2; cases e1; cases e2
        exact hM.injO i j p q _ _ hl hl' h1 h2 e
  · intro i cs g hlo hl hi _
    obtain ⟨g1, _, _, h1, _⟩ := hM.blk i cs hl
    have e1 := hext _ _ h1
    rw [hi] at e1; cases e1
    exact ⟨i, cs, _, hlo, hl, h1, rfl⟩
  · intro i p g hl hi hg
    simp only [look_cons] at hl
    by_cases hin : 64 * M.next = i
    · subst hin; rw [hself] at hi; cases hi; simp at hg
    · rw [if_neg hin] at hl
      obtain ⟨g1, _, h1, _⟩ := hM.obj i p hl
      have e1 := hext _ _ h1
      rw [hi] at e1; cases e1
      exact ⟨i, p, _, hl, h1, rfl⟩

theorem chgO {r : Nat → Option (Nat × Nat)} {M : Mem} {w w' : World} (hM : MR r M w) {i : Nat} {o : AOb} {g : Nat × Nat} (hl : look M.ob i = some o) (hi : r i = some g) (ob' : List (Nat × AOb))
    (h1 : ∀ j p, look ob' j = some p → ∃ q, look M.ob j = some q) (h2 : ∀ j p, look ob' j = some p → ∃ k h, r j = some k ∧ w'.heap[k.1]? = some h ∧ OB r p h)
    (hk : ∀ k, k ≠ g.1 → w'.heap[k]? = w.heap[k]?) (hs : w'.heap.size = w.heap.size) (ho : w'.os = w.os) (ht : w'.tape = w.tape) (hu : w'.output = w.output) :
    MR r { M with ob := ob' } w' ∧ Stp r M w r { M with ob := ob' } w' := by
  refine ⟨⟨?_, hM.inj, hM.bound, hM.glob, h2, ?_⟩, ⟨fun _ _ h => h, rfl, Nat.le_refl _, fun j cs hj _ => ⟨cs, hj⟩, ho, ht, hu, by omega, fun k hk' _ hn => hk k fun e => hn i o g hl hi e.symm, fun j cs k h3 h4 h5 _ => ⟨j, cs, k, h3, h4, h5, rfl⟩, rfl, ?_⟩⟩
  · intro j cs hj
    obtain ⟨k, t, cc, h3, h4, h5⟩ := hM.blk j cs hj
    exact ⟨k, t, cc, h3, by rw [hk k.1 (hM.apart hj h3 hl hi)]; exact h4, h5⟩
  · intro j k p q a b hj hk' ha hb e
    obtain ⟨p', hp⟩ := h1 j p hj
    obtain ⟨q', hq⟩ := h1 k q hk'
    exact hM.injO j k p' q' a b hp hq ha hb e
  · intro j p k hj hr _
    obtain ⟨p', hp⟩ := h1 j p hj
    exact ⟨j, p', k, hp, hr, rfl⟩
theorem setO_sound {r : Nat → Option (Nat × Nat)} {M : Mem} {w w' : World} (hM : MR r M w) {i : Nat} {o p : AOb} {g : Nat × Nat} {h : Obj} (hl : look M.ob i = some o) (hi : r i = some g) (hp : OB r p h) (hg : w'.heap[g.1]? = some h)
    (hk : ∀ k, k ≠ g.1 → w'.heap[k]? = w.heap[k]?) (hs : w'.heap.size = w.heap.size) (ho : w'.os = w.os) (ht : w'.tape = w.tape) (hu : w'.output = w.output) :
    MR r { M with ob := upd M.ob i p } w' ∧ Stp r M w r { M with ob := upd M.ob i p } w' := by
  refine chgO hM hl hi _ (fun j q hj => ?_) (fun j q hj => ?_) hk hs ho ht hu
  · rw [look_upd] at hj
    split at hj
    · rename_i e; subst e; exact ⟨o, hl⟩
    · exact ⟨q, hj⟩
  · rw [look_upd] at hj
    split at hj
    · rename_i e; subst e
      rw [hl] at hj; simp at hj; subst hj
      exact ⟨g, h, hi, hg, hp⟩
    · rename_i hne
      obtain ⟨k, x, h1, h2, h3⟩ := hM.obj j q hj
      exact ⟨k, x, h1, by rw [hk k.1 (fun e => hne (hM.injO i j o q g k hl hj hi h1 e.symm))]; exact h2, h3⟩
theorem killO_sound {r : Nat → Option (Nat × Nat)} {M : Mem} {w w' : World} (hM : MR r M w) {i : Nat} {o : AOb} {g : Nat × Nat} (hl : look M.ob i = some o) (hi : r i = some g)
    (hk : ∀ k, k ≠ g.1 → w'.heap[k]? = w.heap[k]?) (hs : w'.heap.size = w.heap.size) (ho : w'.os = w.os) (ht : w'.tape = w.tape) (hu : w'.output = w.output) :
    MR r { M with ob := kill M.ob i } w' ∧ Stp r M w r { M with ob := kill M.ob i } w' := by
  refine chgO hM hl hi _ (fun j q hj => ?_) (fun j q hj => ?_) hk hs ho ht hu
  · rw [look_kill] at hj
    split at hj
    · cases hj
    · exact ⟨q, hj⟩
  · rw [look_kill] at hj
    split at hj
    · cases hj
    · rename_i hne
      obtain ⟨k, x, h1, h2, h3⟩ := hM.obj j q hj
      exact ⟨k, x, h1, by rw [hk k.1 (fun e => hne (hM.injO i j o q g k hl hj hi h1 e.symm))]; exact h2, h3⟩

/-! ### Against nil. -/
def nilEq (P : Program) (t : TypeId) (x y : Value) : Option Bool := match P.underlying t with
  | some (.slice _) => match x, y with
    | .slice a _ _, .slice none _ _ => some a.isNone
    | .slice none _ _, .slice b _ _ => some b.isNone
    | _, _ => none
  | some (.pointer _) => match x, y with
    | .pointer a, .pointer none => some a.isNone
    | .pointer none, .pointer b => some b.isNone
    | _, _ => none
  | some (.map _ _) => match x, y with
    | .map a, .map none => some a.isNone
    | .map none, .map b => some b.isNone
    | _, _ => none
  | some (.interface _) => match x, y with
    | .nilIface, .iface _ _ => some false
    | .iface _ _, .nilIface => some false
    | _, _ => none
  | some (.func _ _ _) => match x, y with
    | .nilFunc, .func (.func _) _ _ => some false
    | .func (.func _) _ _, .nilFunc => some false
    | _, _ => none
  | _ => none
theorem VR.of_iface {r : Nat → Option (Nat × Nat)} {t : TypeId} {u v : Value} (h : VR r (.iface t u) v) : ∃ u', v = .iface t u' ∧ VR r u u' := by
  cases h with
  | same k _ h =>
    cases k with
    | zero => simp [af] at h
    | succ k => exact ⟨u, rfl, .same k _ h⟩
  | iface _ _ u' h => exact ⟨u', rfl, h⟩
theorem VR.slice_shape {r : Nat → Option (Nat × Nat)} {a : Option Addr} {n c : Nat} {v : Value} (h : VR r (.slice a n c) v) : ∃ a' n' c', v = .slice a' n' c' ∧ a'.isNone = a.isNone := by
  cases a with
  | none =>
    have := h.eq (k := 1)
    cases h with
    | same => exact ⟨none, n, c, rfl, rfl⟩
  | some a => obtain ⟨_, g, c', _, _, _, rfl⟩ := h.of_slice; exact ⟨_, _, _, rfl, rfl⟩
theorem VR.pointer_shape {r : Nat → Option (Nat × Nat)} {a : Option Addr} {v : Value} (h : VR r (.pointer a) v) : ∃ a', v = .pointer a' ∧ a'.isNone = a.isNone := by
  cases a with
  | none => cases h with
    | same => exact ⟨none, rfl, rfl⟩
  | some a => obtain ⟨_, g, _, rfl⟩ := h.of_ptr; exact ⟨_, rfl, rfl⟩
theorem VR.map_shape {r : Nat → Option (Nat × Nat)} {a : Option Nat} {v : Value} (h : VR r (.map a) v) : ∃ a', v = .map a' ∧ a'.isNone = a.isNone := by
  cases a with
  | none => cases h with
    | same => exact ⟨none, rfl, rfl⟩
  | some a => obtain ⟨g, _, rfl⟩ := h.of_map; exact ⟨_, rfl, rfl⟩
theorem equal_run {P : Program} {t : TypeId} {x y : Value} {q : Bool} {w : World} (h : ∀ d, (Op.equalIn (d + 1) t x y).run P w = .ok q w) (xo yo : Operand)
    (h1 : (do eqGuard .eql t xo yo x y; binOp .eql t x y : Sem Value) = (do pure (.bool (← Op.equal t x y)))) (h2 : (do eqGuard .neq t xo yo x y; binOp .neq t x y : Sem Value) = (do pure (.bool (!(← Op.equal t x y))))) :
    (do eqGuard .eql t xo yo x y; binOp .eql t x y : Sem Value).run P w = .ok (.bool q) w ∧ (do eqGuard .neq t xo yo x y; binOp .neq t x y : Sem Value).run P w = .ok (.bool !q) w := by
  have h0 : (Op.equal t x y).run P w = .ok q w := h 9999
  rw [h1, h2]
  simp [h0]
theorem nilEq_sound {P : Program} {t : TypeId} {x y x' y' : Value} {q : Bool} {r : Nat → Option (Nat × Nat)} (h : nilEq P t x y = some q) (hx : VR r x x') (hy : VR r y y') (xo yo : Operand) (w : World) :
    (do eqGuard .eql t xo yo x' y'; binOp .eql t x' y' : Sem Value).run P w = .ok (.bool q) w ∧ (do eqGuard .neq t xo yo x' y'; binOp .neq t x' y' : Sem Value).run P w = .ok (.bool !q) w := by
  unfold nilEq at h
  split at h
  · rename_i e hu
    split at h
    · rename_i a n c m d
      cases h
      obtain ⟨a', n', c', rfl, ha⟩ := hx.slice_shape
      obtain ⟨b', m', d', rfl, hb⟩ := hy.slice_shape
      cases b' with
      | some _ => cases hb
      | none =>
        refine equal_run (fun dd => ?_) xo yo rfl rfl
        rw [← ha]
        cases a' <;> simp [Op.equalIn, underlying, hu]
    · rename_i n c b m d hne
      cases h
      obtain ⟨a', n', c', rfl, ha⟩ := hx.slice_shape
      obtain ⟨b', m', d', rfl, hb⟩ := hy.slice_shape
      cases a' with
      | some _ => cases ha
      | none =>
        refine equal_run (fun dd => ?_) xo yo rfl rfl
        rw [← hb]
        cases b' <;> simp [Op.equalIn, underlying, hu]
    · cases h
  · rename_i e hu
    split at h
    · rename_i a
      cases h
      obtain ⟨a', rfl, ha⟩ := hx.pointer_shape
      obtain ⟨b', rfl, hb⟩ := hy.pointer_shape
      cases b' with
      | some _ => cases hb
      | none =>
        refine equal_run (fun dd => ?_) xo yo rfl rfl
        rw [← ha]
        cases a' <;> simp [Op.equalIn, underlying, hu]
    · rename_i b hne
      cases h
      obtain ⟨a', rfl, ha⟩ := hx.pointer_shape
      obtain ⟨b', rfl, hb⟩ := hy.pointer_shape
      cases a' with
      | some _ => cases ha
      | none =>
        refine equal_run (fun dd => ?_) xo yo rfl rfl
        rw [← hb]
        cases b' <;> simp [Op.equalIn, underlying, hu]
    · cases h
  · rename_i e1 e2 hu
    split at h
    · rename_i a
      cases h
      obtain ⟨a', rfl, ha⟩ := hx.map_shape
      obtain ⟨b', rfl, hb⟩ := hy.map_shape
      cases b' with
      | some _ => cases hb
      | none =>
        refine equal_run (fun dd => ?_) xo yo rfl rfl
        rw [← ha]
        cases a' <;> simp [Op.equalIn, underlying, hu]
    · rename_i b hne
      cases h
      obtain ⟨a', rfl, ha⟩ := hx.map_shape
      obtain ⟨b', rfl, hb⟩ := hy.map_shape
      cases a' with
      | some _ => cases ha
      | none =>
        refine equal_run (fun dd => ?_) xo yo rfl rfl
        rw [← hb]
        cases b' <;> simp [Op.equalIn, underlying, hu]
    · cases h
  · rename_i ms hu
    split at h
    · cases h
      have e1 := hx.eq (k := 1) rfl
      obtain ⟨u', rfl, _⟩ := hy.of_iface
      subst e1
      exact equal_run (fun dd => by simp [Op.equalIn, underlying, hu]) xo yo rfl rfl
    · cases h
      obtain ⟨u', rfl, _⟩ := hx.of_iface
      have e1 := hy.eq (k := 1) rfl
      subst e1
      exact equal_run (fun dd => by simp [Op.equalIn, underlying, hu]) xo yo rfl rfl
    · cases h
  · rename_i e1 e2 e3 hu
    split at h
    · cases h
      have e1 := hx.eq (k := 1) rfl
      obtain ⟨u', v', rfl, _⟩ := hy.of_func rfl
      subst e1
      exact equal_run (fun dd => by simp [Op.equalIn, underlying, hu]) xo yo rfl rfl
    · cases h
      obtain ⟨u', v', rfl, _⟩ := hx.of_func rfl
      have e1 := hy.eq (k := 1) rfl
      subst e1
      exact equal_run (fun dd => by simp [Op.equalIn, underlying, hu]) xo yo rfl rfl
    · cases h
  · cases h

/-! ### An element of an array; a slice as an array. -/
def indexA (P : Program) (t : TypeId) (x ix : Value) : Option Value := match ix with
  | .int _ i => match x with
    | .agg cs => match P.underlying t with
      | some (.array n e) => match sizeA P e with
        | some s => bif decide (0 ≤ i) && decide (i < n) then partA P e cs.toList (i.toNat * s) else none
        | none => none
      | _ => none
    | _ => none
  | _ => none
theorem index_sound {P : Program} {r : Nat → Option (Nat × Nat)} {v x x' ix ix' : Value} (t : TypeId) (hx : VR r x x') (hi : VR r ix ix') (h : indexA P t x ix = some v) :
    ∃ v', (∀ w, (Instr.index t x' ix').run P w = .ok v' w) ∧ VR r v v' := by
  unfold indexA at h
  split at h
  case h_2 => cases h
  rename_i k i
  have e := hi.int
  subst e
  split at h
  case h_2 => cases h
  rename_i cs
  obtain ⟨ys, rfl, hl⟩ := hx.of_agg
  split at h
  case h_2 => cases h
  rename_i n e hu
  cases hs : sizeA P e with
  | none => rw [hs] at h; cases h
  | some s =>
    rw [hs] at h
    simp only at h
    generalize hc : (decide (0 ≤ i) && decide (i < (n : Int))) = c at h
    cases c with
    | false => cases h
    | true =>
      simp only [cond_true] at h
      simp only [Bool.and_eq_true, decide_eq_true_eq] at hc
      obtain ⟨v', h1, h2⟩ := part_sound e (i.toNat * s) hl h
      exact ⟨v', fun w => by simp [Instr.index, asIntOf, underlying, hu, hc.1, hc.2, sizeA_run hs, h1], h2⟩
def arrayAtA (P : Program) (t : TypeId) (x : Value) : Option Value := match P.underlying t with
  | some (.array n _) => match x with
    | .slice (some a) len _ => bif Nat.ble n len then some (.pointer (some a)) else none
    | _ => none
  | _ => none
theorem arrayAt_sound {P : Program} {r : Nat → Option (Nat × Nat)} {v x x' : Value} (t : TypeId) (hx : VR r x x') (h : arrayAtA P t x = some v) :
    ∃ v', (∀ w, (Instr.arrayAt t x').run P w = .ok v' w) ∧ VR r v v' := by
  unfold arrayAtA at h
  split at h
  case h_2 => cases h
  rename_i n e hu
  split at h
  case h_2 => cases h
  rename_i a len c
  obtain ⟨hs, g, c', hg, hcap, ht, rfl⟩ := hx.of_slice
  cases hb : Nat.ble n len with
  | false => rw [hb] at h; cases h
  | true =>
    rw [hb] at h; cases h
    have hle := Nat.le_of_ble_eq_true hb
    obtain ⟨b, o, sp⟩ := a
    simp only at hs
    subst hs
    exact ⟨_, fun w => by simp [Instr.arrayAt, underlying, hu, Nat.not_lt.2 hle], .ptr _ _ _ hg⟩

/-! ### Copies. -/
def copyA (P : Program) (M : Mem) (t : TypeId) (d s : Value) : Option (Value × Mem) := match P.underlying t with
  | some (.slice e) => match sizeA P e with
    | some sz => match d with
      | .slice (some a) dn _ => match s with
        | .slice (some b) sn _ => match look M.bl b.block with
          | some cs => match look M.bl a.block with
            | some ds =>
              bif Nat.ble (b.off + Nat.min sn dn * sz) cs.length && (((cs.drop b.off).take (Nat.min sn dn * sz)).all (·.oneCell') && (Nat.ble M.lo a.block && Nat.ble (a.off + Nat.min sn dn * sz) ds.length)) then
                some (.int .i64 (Nat.min sn dn), { M with bl := upd M.bl a.block (putRow ds a.off ((cs.drop b.off).take (Nat.min sn dn * sz))) }) else none
            | none => none
          | none => none
        | .string str => match look M.bl a.block with
          | some ds => bif Nat.beq sz 1 && (Nat.ble M.lo a.block && Nat.ble (a.off + ((str.extract 0 (Nat.min str.size dn)).data.map fun b => Value.int .u8 b.toNat).toList.length) ds.length) then
              some (.int .i64 (Nat.min str.size dn), { M with bl := upd M.bl a.block (putRow ds a.off ((str.extract 0 (Nat.min str.size dn)).data.map fun b => Value.int .u8 b.toNat).toList) }) else none
          | none => none
        | _ => none
      | _ => none
    | none => none
  | _ => none
theorem copy_sound {P : Program} {r : Nat → Option (Nat × Nat)} {M M' : Mem} {w : World} {v d d' s s' : Value} (hM : MR r M w) (t u ty : TypeId) (hd : VR r d d') (hs : VR r s s') (h : copyA P M t d s = some (v, M')) :
    ∃ w', (Builtin.copy_ #[t, u] ty #[d', s']).run P w = .ok v w' ∧ (∃ n : Nat, v = .int .i64 n) ∧ MR r M' w' ∧ Stp r M w r M' w' := by
  unfold copyA at h
  split at h
  case h_2 => cases h
  rename_i e hu
  cases hz : sizeA P e with
  | none => rw [hz] at h; cases h
  | some sz =>
    rw [hz] at h
    simp only at h
    split at h
    case h_2 => cases h
    rename_i a dn dc
    obtain ⟨hsp, g, c', hg, hcap, htt, rfl⟩ := hd.of_slice
    split at h
    case h_3 => cases h
    · rename_i b sn sc
      obtain ⟨hsp2, g2, c2, hg2, hcap2, htt2, rfl⟩ := hs.of_slice
      cases hl2 : look M.bl b.block with
      | none => rw [hl2] at h; cases h
      | some cs =>
        rw [hl2] at h
        simp only at h
        cases hl : look M.bl a.block with
        | none => rw [hl] at h; cases h
        | some ds =>
          rw [hl] at h
          simp only at h
          generalize hb : (Nat.ble (b.off + Nat.min sn dn * sz) cs.length && (((cs.drop b.off).take (Nat.min sn dn * sz)).all (·.oneCell') && (Nat.ble M.lo a.block && Nat.ble (a.off + Nat.min sn dn * sz) ds.length))) = c at h
          cases c with
          | false => cases h
          | true =>
            cases h
            simp only [Bool.and_eq_true] at hb
            obtain ⟨ys, h1, h2, h3⟩ := cells_sound hM hl2 hg2 (Nat.le_of_ble_eq_true hb.1)
            have hxl : ((cs.drop b.off).take (Nat.min sn dn * sz)).length = Nat.min sn dn * sz := by rw [h3.1, h1]
            obtain ⟨w', h4, h5, h6, _⟩ := store_sound hM (Nat.le_of_ble_eq_true hb.2.2.1) hl hg (o := a.off) (by rw [hxl]; exact Nat.le_of_ble_eq_true hb.2.2.2) hb.2.1 h3
            refine ⟨w', ?_, ⟨_, rfl⟩, h5, h6⟩
            have h2' := h2 P
            have h4' := h4 P
            simp [Builtin.copy_, run_underlying hu, Builtin.lenOf, Builtin.firstCells, sizeA_run hz, h2', h4', goInt]
    · rename_i str
      have e1 := hs.eq (k := 1) rfl
      subst e1
      cases hl : look M.bl a.block with
      | none => rw [hl] at h; cases h
      | some ds =>
        rw [hl] at h
        simp only at h
        generalize hb : (Nat.beq sz 1 && (Nat.ble M.lo a.block && Nat.ble (a.off + ((str.extract 0 (Nat.min str.size dn)).data.map fun b => Value.int .u8 b.toNat).toList.length) ds.length)) = c at h
        cases c with
        | false => cases h
        | true =>
          cases h
          simp only [Bool.and_eq_true] at hb
          have hall : (((str.extract 0 (Nat.min str.size dn)).data.map fun b => Value.int .u8 b.toNat).toList).all (·.oneCell') = true := by
            rw [List.all_eq_true]
            intro x hx
            rw [Array.toList_map, List.mem_map] at hx
            obtain ⟨_, _, rfl⟩ := hx
            rfl
          have haf : (((str.extract 0 (Nat.min str.size dn)).data.map fun b => Value.int .u8 b.toNat).toList).all (af 1) = true := by
            rw [List.all_eq_true]
            intro x hx
            rw [Array.toList_map, List.mem_map] at hx
            obtain ⟨_, _, rfl⟩ := hx
            rfl
          obtain ⟨w', h4, h5, h6, _⟩ := store_sound hM (Nat.le_of_ble_eq_true hb.2.1) hl hg (o := a.off) (Nat.le_of_ble_eq_true hb.2.2) hall (LR.of_af (r := r) haf)
          refine ⟨w', ?_, ⟨_, rfl⟩, h5, h6⟩
          have h4' := h4 P
          simp at h4'
          simp [Builtin.copy_, run_underlying hu, Builtin.lenOf, Builtin.firstCells, sizeA_run hz, h4', goInt]

/-! ### A slice of no cells; nothing appended. -/
def build0A (P : Program) (M : Mem) (t : TypeId) (len : Nat) (parts : List (Nat × Value)) : Option (Value × Mem) := match P.underlying t with
  | some (.slice e) => match sizeA P e with
    | some n => bif Nat.beq (len * n) 0 then match parts with
        | [] => some (.slice (some ⟨64 * M.next, 0, none⟩) len len, M.new [])
        | _ => none
      else none
    | none => none
  | _ => none
theorem build0_sound {P : Program} {r : Nat → Option (Nat × Nat)} {M M' : Mem} {w : World} {v : Value} (hM : MR r M w) (t : TypeId) (len : Nat) {ps : List (Nat × Value)} {ps' : Array (Nat × Value)} (hp : PR r ps ps'.toList) (h : build0A P M t len ps = some (v, M')) :
    ∃ r' v' w', (Instr.buildSlice t len ps').run P w = .ok v' w' ∧ VR r' v v' ∧ MR r' M' w' ∧ Stp r M w r' M' w' := by
  unfold build0A at h
  split at h
  case h_2 => cases h
  rename_i e hu
  cases hn : sizeA P e with
  | none => rw [hn] at h; cases h
  | some n =>
    rw [hn] at h
    simp only at h
    cases hb : Nat.beq (len * n) 0 with
    | false => rw [hb] at h; cases h
    | true =>
      rw [hb] at h
      simp only [cond_true] at h
      have h0 : len * n = 0 := Nat.eq_of_beq_eq_true hb
      split at h
      case h_2 => cases h
      cases h
      have hps : ps' = #[] := by
        cases hq : ps'.toList with
        | nil => simpa using hq
        | cons x xs => rw [hq] at hp; exact hp.elim
      subst hps
      obtain ⟨r', w', h5, h6, h7, h8⟩ := new_var_sound (P := P) hM (cs := []) (cc := #[]) e (.nil r)
      exact ⟨r', .slice (some ⟨w.heap.size, 0, none⟩) len len, w', by simp [Instr.buildSlice, underlying, hu, sizeA_run hn, h0, Instr.fill, show ∀ f : Nat → Value, (Array.range 0).map f = #[] from fun f => by apply Array.ext' ; simp, h5], .slice _ _ _ _ _ _ h6 (Nat.le_refl _) (.inl rfl), h7, h8⟩
def append0A (P : Program) (t u : TypeId) (s x : Value) : Option Value := match P.underlying t with
  | some (.slice e) => match sizeA P e with
    | some _ => match P.underlying u with
      | some (.slice _) => match x with
        | .slice _ 0 _ => match s with
          | .slice a k c => bif Nat.ble k c then some (.slice a k c) else none
          | _ => none
        | _ => none
      | _ => none
    | none => none
  | _ => none
theorem VR.slice_len {r : Nat → Option (Nat × Nat)} {a : Option Addr} {n c : Nat} {v : Value} (h : VR r (.slice a n c) v) : ∃ a' c', v = .slice a' n c' ∧ c ≤ c' := by
  cases a with
  | none => cases h with
    | same => exact ⟨none, c, rfl, Nat.le_refl _⟩
  | some a => obtain ⟨_, g, c', _, hc, _, rfl⟩ := h.of_slice; exact ⟨_, c', rfl, hc⟩
theorem append0_sound {P : Program} {r : Nat → Option (Nat × Nat)} {w : World} {v s s' x x' : Value} (t u ty : TypeId) (hs : VR r s s') (hx : VR r x x') (h : append0A P t u s x = some v) :
    (Builtin.append_ #[t, u] ty #[s', x']).run P w = .ok s' w ∧ VR r v s' := by
  unfold append0A at h
  split at h
  case h_2 => cases h
  rename_i e hu
  cases hn : sizeA P e with
  | none => rw [hn] at h; cases h
  | some n =>
    rw [hn] at h
    simp only at h
    split at h
    case h_2 => cases h
    rename_i e2 hu2
    split at h
    case h_2 => cases h
    rename_i xa xc
    split at h
    case h_2 => cases h
    rename_i a k c
    cases hb : Nat.ble k c with
    | false => rw [hb] at h; cases h
    | true =>
      rw [hb] at h; cases h
      have hle := Nat.le_of_ble_eq_true hb
      obtain ⟨a', c', rfl, hc⟩ := hs.slice_len
      obtain ⟨xa', xc', rfl, _⟩ := hx.slice_len
      have hle' : k ≤ c' := Nat.le_trans hle hc
      refine ⟨?_, hs⟩
      cases a' <;> cases xa' <;> simp [Builtin.append_, run_underlying hu, run_underlying hu2, Builtin.lenOf, Builtin.firstCells, sizeA_run hn, hle', storeCells, loadCells, loadCellsFrom]
end Ev
end Go.Proofs.YtccjmmdppjialaaGreatDoor
