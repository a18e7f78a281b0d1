/- The evaluator, Y: maps; the smaller operations together. -/
import Derived.Test.YtccjmmdppjialaaGreatDoorEvX
namespace Go.Proofs.YtccjmmdppjialaaGreatDoor
open Go.RowKit
namespace Ev

def keyed (kd : TypeDesc) (k : Value) : Bool := match kd, k with
  | .int _, .int _ _ => true
  | .string, .string _ => true
  | .bool, .bool _ => true
  | _, _ => false
theorem keyed_check {P : Program} {kt : TypeId} {kd : TypeDesc} {k : Value} (hu : P.underlying kt = some kd) (hk : keyed kd k = true) (e : Bool) (w : World) : (Instr.checkKey e 10000 kt k).run P w = .ok () w := by
  have : ∀ d, (Instr.checkKey e (d + 1) kt k).run P w = .ok () w := fun d => by
    unfold keyed at hk
    split at hk
    · simp [Instr.checkKey, underlying, hu]
    · simp [Instr.checkKey, underlying, hu]
    · simp [Instr.checkKey, underlying, hu]
    · cases hk
  exact this 9999
theorem bytes_eq {a b : ByteArray} (h : (a == b) = true) : a = b := by
  obtain ⟨a⟩ := a
  obtain ⟨b⟩ := b
  have h' : (a == b) = true := h
  rw [eq_of_beq h']
theorem bytes_self (a : ByteArray) : (a == a) = true := by
  obtain ⟨a⟩ := a
  show (a == a) = true
  exact beq_self_eq_true a
theorem sameNow_eq {kd : TypeDesc} {k k' : Value} (h : Instr.sameNow kd k k' = some true) : k' = k := by
  unfold Instr.sameNow at h
  split at h
  · split at h
    · rename_i e; subst e
      simp only [Option.some.injEq, beq_iff_eq] at h
      rw [h]
    · cases h
  · simp only [Option.some.injEq] at h
    rw [bytes_eq h]
  · simp only [Option.some.injEq, beq_iff_eq] at h
    rw [h]
  · cases h
theorem same_bits {kd : TypeDesc} {k : Value} (hk : keyed kd k = true) (n : Nat) : Instr.sameBits n k k = true := by
  unfold keyed at hk
  split at hk
  · cases n <;> simp [Instr.sameBits]
  · cases n <;> simp [Instr.sameBits, bytes_self]
  · cases n <;> simp [Instr.sameBits]
  · cases hk
def mapFind (kd : TypeDesc) (k : Value) : List (Value × Value) → Nat → Option (Option (Nat × Value))
  | [], _ => some none
  | p :: es, i => match Instr.sameNow kd k p.1 with
    | some true => some (some (i, p.2))
    | some false => mapFind kd k es (i + 1)
    | none => none
theorem mapFind_none {r : Nat → Option (Nat × Nat)} {kd : TypeDesc} {k : Value} : ∀ {es : List (Value × Value)} {l : List MapEntry} {i : Nat}, EntsR r es l → mapFind kd k es i = some none → Instr.findNow kd k l i = some none
  | [], [], _, _, _ => rfl
  | p :: es, e :: l, i, h, hm => by
    simp only [mapFind] at hm
    simp only [Instr.findNow, h.1.1]
    split at hm
    · cases hm
    · rename_i hs; rw [hs]; exact mapFind_none h.2 hm
    · cases hm
theorem mapFind_some {r : Nat → Option (Nat × Nat)} {kd : TypeDesc} {k v : Value} {n : Nat} : ∀ {es : List (Value × Value)} {l : List MapEntry} {i : Nat}, EntsR r es l → mapFind kd k es i = some (some (n, v)) →
    ∃ e, Instr.findNow kd k l i = some (some (n, e.val)) ∧ VR r v e.val ∧ i ≤ n ∧ l[n - i]? = some e ∧ e.key = k
  | [], [], _, _, hm => by cases hm
  | p :: es, e :: l, i, h, hm => by
    simp only [mapFind] at hm
    simp only [Instr.findNow, h.1.1]
    split at hm
    · rename_i hs
      cases hm
      refine ⟨e, by rw [hs], h.1.2, Nat.le_refl _, by simp, h.1.1.trans (sameNow_eq hs)⟩
    · rename_i hs
      rw [hs]
      obtain ⟨e', h1, h2, h3, h4, h5⟩ := mapFind_some h.2 hm
      refine ⟨e', h1, h2, by omega, ?_, h5⟩
      have : n - i = (n - (i + 1)) + 1 := by omega
      rw [this]
      simpa using h4
    · cases hm
theorem EntsR.modify {r : Nat → Option (Nat × Nat)} {k v v' : Value} (hv : VR r v v') : ∀ {es : List (Value × Value)} {l : List MapEntry} (n : Nat), EntsR r es l → EntsR r (es.set n (k, v)) (l.modify n fun e => { e with key := k, val := v' })
  | [], [], _, _ => by simp [EntsR]
  | _ :: _, _ :: _, 0, h => by simp only [List.set_cons_zero, List.modify_zero_cons]; exact ⟨⟨rfl, hv⟩, h.2⟩
  | _ :: _, _ :: _, n + 1, h => by simp only [List.set_cons_succ, List.modify_succ_cons]; exact ⟨h.1, EntsR.modify hv n h.2⟩
theorem EntsR.push {r : Nat → Option (Nat × Nat)} {k v : Value} {e : MapEntry} (hk : e.key = k) (hv : VR r v e.val) : ∀ {es : List (Value × Value)} {l : List MapEntry}, EntsR r es l → EntsR r (es ++ [(k, v)]) (l ++ [e])
  | [], [], _ => ⟨⟨hk, hv⟩, trivial⟩
  | _ :: _, _ :: _, h => ⟨h.1, EntsR.push hk hv h.2⟩

def okA (ok : Bool) (v : Value) (b : Bool) : Value := bif ok then .tuple #[v, .bool b] else v
def lookupA (P : Program) (M : Mem) (t : TypeId) (x k : Value) (ok : Bool) : Option Value := match P.underlying t with
  | some (.map kt et) => match P.underlying kt with
    | some kd => bif keyed kd k then match x with
      | .map (some i) => match look M.ob i with
        | some (.map es) => match mapFind kd k es 0 with
          | some (some (_, v)) => some (okA ok v true)
          | some none => match zeroOf P et with
            | some z => some (okA ok z false)
            | none => none
          | none => none
        | _ => none
      | _ => none
      else none
    | none => none
  | _ => none
theorem okA_rel {r : Nat → Option (Nat × Nat)} {v v' : Value} (ok b : Bool) (h : VR r v v') : VR r (okA ok v b) (if ok then .tuple #[v', .bool b] else v') := by
  cases ok with
  | false => exact h
  | true => exact VR.tuple' (xs := [v, .bool b]) (ys := [v', .bool b]) (.cons h (.cons (.of_bool r b) (.nil r)))
theorem run_getObj_map' {P : Program} {w : World} {b : Nat} {es : Array MapEntry} {c : Nat} (h : w.heap[b]? = some (.map es c)) : (getObj b).run P w = .ok (.map es c) w := by simp [getObj, Sem.run, h]
theorem run_setObj_map' {P : Program} {w : World} {b : Nat} {es : Array MapEntry} {c : Nat} (o : Obj) (h : w.heap[b]? = some (.map es c)) : (setObj b o).run P w = .ok () { w with heap := w.heap.setIfInBounds b o } := by simp [setObj, Sem.run, h]
theorem lookup_sound {P : Program} {r : Nat → Option (Nat × Nat)} {M : Mem} {w : World} {v x x' k k' : Value} (hM : MR r M w) (t : TypeId) (ok : Bool) (hx : VR r x x') (hk : VR r k k') (h : lookupA P M t x k ok = some v) :
    ∃ v', (Instr.lookup t x' k' ok).run P w = .ok v' w ∧ VR r v v' := by
  unfold lookupA at h
  split at h
  case h_2 => cases h
  rename_i kt et hu
  cases hku : P.underlying kt with
  | none => rw [hku] at h; cases h
  | some kd =>
    rw [hku] at h
    simp only at h
    cases hkd : keyed kd k with
    | false => rw [hkd] at h; cases h
    | true =>
      rw [hkd] at h
      simp only [cond_true] at h
      have ek : k' = k := hk.eq (k := 1) (by unfold keyed at hkd; split at hkd <;> first | rfl | cases hkd)
      subst ek
      split at h
      case h_2 => cases h
      rename_i i
      obtain ⟨g, hg, rfl⟩ := hx.of_map
      split at h
      case h_2 => cases h
      rename_i es hl
      obtain ⟨g', o, h1, h2, h3⟩ := hM.obj _ _ hl
      rw [hg] at h1; cases h1
      obtain ⟨ents, clock, rfl, hr⟩ := h3
      split at h
      · rename_i n u hf
        cases h
        obtain ⟨e, f1, f2, _, _, _⟩ := mapFind_some hr hf
        exact ⟨_, by simp [Instr.lookup, underlying, hu, run_getObj_map' h2, keyed_check hku hkd, Instr.findKey, hku, f1], okA_rel ok true f2⟩
      · rename_i hf
        have f1 := mapFind_none hr hf
        cases hz : zeroOf P et with
        | none => rw [hz] at h; cases h
        | some z =>
          rw [hz] at h; cases h
          obtain ⟨ha, hzr⟩ := zeroOf_run hz
          exact ⟨_, by simp [Instr.lookup, underlying, hu, run_getObj_map' h2, keyed_check hku hkd, Instr.findKey, hku, f1, hzr], okA_rel ok false (.same 4 _ ha)⟩
      · cases h
def updateA (P : Program) (M : Mem) (t : TypeId) (x k v : Value) : Option Mem := match P.underlying t with
  | some (.map kt _) => match P.underlying kt with
    | some kd => bif keyed kd k then match x with
      | .map (some i) => match look M.ob i with
        | some (.map es) => match mapFind kd k es 0 with
          | some (some (n, _)) => some { M with ob := upd M.ob i (.map (es.set n (k, v))) }
          | some none => some { M with ob := upd M.ob i (.map (es ++ [(k, v)])) }
          | none => none
        | _ => none
      | _ => none
      else none
    | none => none
  | _ => none
theorem update_sound {P : Program} {r : Nat → Option (Nat × Nat)} {M M' : Mem} {w : World} {v v' x x' k k' : Value} (hM : MR r M w) (t : TypeId) (hx : VR r x x') (hk : VR r k k') (hv : VR r v v') (h : updateA P M t x k v = some M') :
    ∃ w', (Instr.mapUpdate t x' k' v').run P w = .ok () w' ∧ MR r M' w' ∧ Stp r M w r M' w' := by
  unfold updateA at h
  split at h
  case h_2 => cases h
  rename_i kt et hu
  cases hku : P.underlying kt with
  | none => rw [hku] at h; cases h
  | some kd =>
    rw [hku] at h
    simp only at h
    cases hkd : keyed kd k with
    | false => rw [hkd] at h; cases h
    | true =>
      rw [hkd] at h
      simp only [cond_true] at h
      have ek : k' = k := hk.eq (k := 1) (by unfold keyed at hkd; split at hkd <;> first | rfl | cases hkd)
      subst ek
      split at h
      case h_2 => cases h
      rename_i i
      obtain ⟨g, hg, rfl⟩ := hx.of_map
      split at h
      case h_2 => cases h
      rename_i es hl
      obtain ⟨g', o, h1, h2, h3⟩ := hM.obj _ _ hl
      rw [hg] at h1; cases h1
      obtain ⟨ents, clock, rfl, hr⟩ := h3
      have hlt := hM.ltO hl hg
      have keep : ∀ (ob : Obj) k, k ≠ g.1 → ({ w with heap := w.heap.setIfInBounds g.1 ob } : World).heap[k]? = w.heap[k]? := fun ob k hne => by
        simp [Array.getElem?_setIfInBounds_ne (Ne.symm hne)]
      have self : ∀ (ob : Obj), ({ w with heap := w.heap.setIfInBounds g.1 ob } : World).heap[g.1]? = some ob := fun ob => by simp [hlt]
      split at h
      · rename_i n u hf
        cases h
        obtain ⟨e, f1, f2, _, f4, f5⟩ := mapFind_some hr hf
        have f4' : ents[n]? = some e := by simpa using f4
        refine ⟨_, by simp [Instr.mapUpdate, underlying, hu, run_getObj_map' h2, keyed_check hku hkd, Instr.findKey, hku, f1, f4', f5, Instr.keyThatStays, same_bits hkd, run_setObj_map' _ h2]; rfl, ?_⟩
        exact setO_sound hM hl hg (p := .map (es.set n (k', v))) ⟨_, _, rfl, by simpa using hr.modify hv n⟩ (self _) (keep _) (by simp) rfl rfl rfl
      · rename_i hf
        cases h
        have f1 := mapFind_none hr hf
        refine ⟨_, by simp [Instr.mapUpdate, underlying, hu, run_getObj_map' h2, keyed_check hku hkd, Instr.findKey, hku, f1, run_setObj_map' _ h2]; rfl, ?_⟩
        exact setO_sound hM hl hg (p := .map (es ++ [(k', v)])) ⟨_, _, rfl, by simpa using hr.push (e := { key := k', val := v', born := clock }) rfl hv⟩ (self _) (keep _) (by simp) rfl rfl rfl
      · cases h
def makeMapA (P : Program) (M : Mem) (t : TypeId) (hint : Option Value) : Option (Value × Mem) := match hint with
  | none => some (.map (some (64 * M.next)), { M with next := M.next + 1, ob := (64 * M.next, .map []) :: M.ob })
  | some (.int _ _) => match P.underlying t with
    | some (.map _ _) => some (.map (some (64 * M.next)), { M with next := M.next + 1, ob := (64 * M.next, .map []) :: M.ob })
    | _ => none
  | _ => none
theorem makeMap_sound {P : Program} {r : Nat → Option (Nat × Nat)} {M M' : Mem} {w : World} {v : Value} {hint hint' : Option Value} (hM : MR r M w) (t : TypeId) (hh : OR r hint hint') (h : makeMapA P M t hint = some (v, M')) :
    ∃ r' v' w', (Instr.makeMap t hint').run P w = .ok v' w' ∧ VR r' v v' ∧ MR r' M' w' ∧ Stp r M w r' M' w' := by
  have key := newO_sound (w' := w.alloc (.map #[] 0)) hM (o := .map []) (h := .map #[] 0) ⟨#[], 0, rfl, trivial⟩ rfl rfl rfl rfl
  unfold makeMapA at h
  split at h
  · cases h
    cases hint' with
    | some _ => cases hh
    | none => exact ⟨_, _, _, by simp [Instr.makeMap], .map _ _ (more_self r _ _), key.1, key.2⟩
  · rename_i k n
    split at h
    case h_2 => cases h
    rename_i kt et hu
    cases h
    cases hint' with
    | none => cases hh
    | some u =>
      have e := VR.int hh
      subst e
      exact ⟨_, _, _, by simp [Instr.makeMap, underlying, hu, asInt, asIntOf], .map _ _ (more_self r _ _), key.1, key.2⟩
  · cases h
def lenMapA (P : Program) (M : Mem) (t : TypeId) (x : Value) : Option Value := match P.underlying t with
  | some (.map _ _) => match x with
    | .map (some i) => match look M.ob i with
      | some (.map es) => some (.int .i64 es.length)
      | _ => none
    | _ => none
  | _ => none
theorem EntsR.length {r : Nat → Option (Nat × Nat)} : ∀ {es : List (Value × Value)} {l : List MapEntry}, EntsR r es l → l.length = es.length
  | [], [], _ => rfl
  | _ :: _, _ :: _, h => by simp [EntsR.length h.2]
theorem lenMap_sound {P : Program} {r : Nat → Option (Nat × Nat)} {M : Mem} {w : World} {v x x' : Value} (hM : MR r M w) (t ty : TypeId) (hx : VR r x x') (h : lenMapA P M t x = some v) :
    (Builtin.len_ #[t] ty #[x']).run P w = .ok v w ∧ ∃ n : Nat, v = .int .i64 n := by
  unfold lenMapA at h
  split at h
  case h_2 => cases h
  rename_i kt et hu
  split at h
  case h_2 => cases h
  rename_i i
  obtain ⟨g, hg, rfl⟩ := hx.of_map
  split at h
  case h_2 => cases h
  rename_i es hl
  cases h
  obtain ⟨g', o, h1, h2, h3⟩ := hM.obj _ _ hl
  rw [hg] at h1; cases h1
  obtain ⟨ents, clock, rfl, hr⟩ := h3
  have := hr.length
  refine ⟨?_, _, rfl⟩
  have hs : ents.size = es.length := by simpa using this
  simp [Builtin.len_, underlying, hu, run_getObj_map' h2, goInt, hs]

def ifaceT (P : Program) (t : TypeId) : Bool := match P.underlying t with
  | some (.interface _) => true
  | some _ => false
  | none => true
/-- The smaller operations. -/
def opX (P : Program) (env : Env) (M : Mem) (o : Oper) : Option (Value × Mem) := match o.op with
  | .binOp op t x y _ => match ev env x with
    | some a => match ev env y with
      | some b => match nilEq P t a b with
        | some q => match op with
          | .eql => some (.bool q, M)
          | .neq => some (.bool !q, M)
          | _ => none
        | none => none
      | none => none
    | none => none
  | .index t x ix => match ev env x with
    | some a => match ev env ix with
      | some b => match indexA P t a b with
        | some v => some (v, M)
        | none => none
      | none => none
    | none => none
  | .sliceToArrayPointer t x => match ev env x with
    | some a => match arrayAtA P t a with
      | some v => some (v, M)
      | none => none
    | none => none
  | .nilCheck x => match ev env x with
    | some (.func (.func f) a b) => some (.func (.func f) a b, M)
    | some (.map (some i)) => some (.map (some i), M)
    | _ => none
  | .makeInterface t x => match ev env x with
    | some v => bif ifaceT P t then none else some (.iface t v, M)
    | none => none
  | .buildSlice t len parts => match evp env parts.toList with
    | some q => build0A P M t len q
    | none => none
  | .makeMap t hint => match evo env hint with
    | some h => makeMapA P M t h
    | none => none
  | .mapUpdate t m k x => match ev env m with
    | some a => match ev env k with
      | some b => match ev env x with
        | some c => match updateA P M t a b c with
          | some M' => some (Go.undef, M')
          | none => none
        | none => none
      | none => none
    | none => none
  | .insert t m k x => match ev env m with
    | some a => match ev env k with
      | some b => match ev env x with
        | some c => match updateA P M t a b c with
          | some M' => some (Go.undef, M')
          | none => none
        | none => none
      | none => none
    | none => none
  | .lookup t x k ok => match ev env x with
    | some a => match ev env k with
      | some b => match lookupA P M t a b ok with
        | some v => some (v, M)
        | none => none
      | none => none
    | none => none
  | .call c => match c.callee with
    | .builtin .copy => match c.args.toList with
      | [d, s] => match c.argTypes.toList with
        | [t, _] => match ev env d with
          | some a => match ev env s with
            | some b => copyA P M t a b
            | none => none
          | none => none
        | _ => none
      | _ => none
    | .builtin .append => match c.args.toList with
      | [d, s] => match c.argTypes.toList with
        | [t, u] => match ev env d with
          | some a => match ev env s with
            | some b => match append0A P t u a b with
              | some v => some (v, M)
              | none => none
            | none => none
          | none => none
        | _ => none
      | _ => none
    | .builtin .len => match c.args.toList with
      | [x] => match c.argTypes.toList with
        | [t] => match ev env x with
          | some a => match lenMapA P M t a with
            | some v => some (v, M)
            | none => none
          | none => none
        | _ => none
      | _ => none
    | _ => none
  | _ => none

theorem opX_sound {P : Program} {env : Env} {M M' : Mem} {o : Oper} {v : Value} {r : Nat → Option (Nat × Nat)} {a : Act} {w : World} (h : opX P env M o = some (v, M')) (he : ER r env a.tmps) (hM : MR r M w) :
    ∃ r' v' w', Out P (execOp a.eval o) w r M v M' r' v' w' := by
  obtain ⟨dst, op, ty, pos, after, guard⟩ := o
  cases op with
  | binOp op t x y yt =>
    simp only [opX] at h
    cases h0 : ev env x with
    | none => rw [h0] at h; cases h
    | some u =>
      rw [h0] at h
      simp only at h
      cases h1 : ev env y with
      | none => rw [h1] at h; cases h
      | some z =>
        rw [h1] at h
        simp only at h
        cases h2 : nilEq P t u z with
        | none => rw [h2] at h; cases h
        | some q =>
          rw [h2] at h
          simp only at h
          obtain ⟨k1, k2⟩ := nilEq_sound h2 (ev_sound he h0) (ev_sound he h1) x y w
          split at h
          · cases h; exact ⟨r, _, w, .still hM (run_value k1) (.of_bool r _)⟩
          · cases h; exact ⟨r, _, w, .still hM (run_value k2) (.of_bool r _)⟩
          · cases h
  | index t x ix =>
    simp only [opX] at h
    cases h0 : ev env x with
    | none => rw [h0] at h; cases h
    | some u =>
      rw [h0] at h
      simp only at h
      cases h1 : ev env ix with
      | none => rw [h1] at h; cases h
      | some i =>
        rw [h1] at h
        simp only at h
        cases h2 : indexA P t u i with
        | none => rw [h2] at h; cases h
        | some q =>
          rw [h2] at h; cases h
          obtain ⟨v', h3, h4⟩ := index_sound t (ev_sound he h0) (ev_sound he h1) h2
          exact ⟨r, v', w, .still hM (run_value (h3 w)) h4⟩
  | sliceToArrayPointer t x =>
    simp only [opX] at h
    cases h0 : ev env x with
    | none => rw [h0] at h; cases h
    | some u =>
      rw [h0] at h
      simp only at h
      cases h2 : arrayAtA P t u with
      | none => rw [h2] at h; cases h
      | some q =>
        rw [h2] at h; cases h
        obtain ⟨v', h3, h4⟩ := arrayAt_sound t (ev_sound he h0) h2
        exact ⟨r, v', w, .still hM (run_value (h3 w)) h4⟩
  | nilCheck x =>
    simp only [opX] at h
    split at h
    case h_3 => cases h
    · rename_i f xs us h0
      cases h
      have hh := ev_sound he h0
      obtain ⟨ys, vs, hv, _, _⟩ := hh.of_func rfl
      exact ⟨r, a.eval x, w, .still hM (by simp [execOp, hv]) hh⟩
    · rename_i i h0
      cases h
      have hh := ev_sound he h0
      obtain ⟨g, hg, hv⟩ := hh.of_map
      exact ⟨r, a.eval x, w, .still hM (by simp [execOp, hv]) hh⟩
  | makeInterface t x =>
    simp only [opX] at h
    cases h0 : ev env x with
    | none => rw [h0] at h; cases h
    | some u =>
      rw [h0] at h
      simp only at h
      cases h1 : ifaceT P t with
      | true => rw [h1] at h; cases h
      | false =>
        rw [h1] at h; cases h
        refine ⟨r, .iface t (a.eval x), w, .still hM (run_value ?_) (.iface _ _ _ (ev_sound he h0))⟩
        unfold ifaceT at h1
        split at h1
        · cases h1
        · rename_i d hne hu
          cases d <;> first | exact (hne _ rfl).elim | simp [Instr.makeInterface, underlying, hu]
        · cases h1
  | buildSlice t len parts =>
    simp only [opX] at h
    cases h0 : evp env parts.toList with
    | none => rw [h0] at h; cases h
    | some q =>
      rw [h0] at h
      obtain ⟨r', v', w', h2, h3, h4, h5⟩ := build0_sound (P := P) (ps' := parts.map fun p => (p.1, a.eval p.2)) hM t len (by simpa using evp_sound he h0) h
      exact ⟨r', v', w', .inl (run_value h2), h3, h4, h5⟩
  | makeMap t hint =>
    simp only [opX] at h
    cases h0 : evo env hint with
    | none => rw [h0] at h; cases h
    | some u =>
      rw [h0] at h
      obtain ⟨r', v', w', h2, h3, h4, h5⟩ := makeMap_sound (P := P) hM t (evo_sound he h0) h
      exact ⟨r', v', w', .inl (run_value h2), h3, h4, h5⟩
  | mapUpdate t m k x =>
    simp only [opX] at h
    cases h0 : ev env m with
    | none => rw [h0] at h; cases h
    | some u =>
      rw [h0] at h
      simp only at h
      cases h1 : ev env k with
      | none => rw [h1] at h; cases h
      | some i =>
        rw [h1] at h
        simp only at h
        cases h2 : ev env x with
        | none => rw [h2] at h; cases h
        | some c =>
          rw [h2] at h
          simp only at h
          cases h3 : updateA P M t u i c with
          | none => rw [h3] at h; cases h
          | some M2 =>
            rw [h3] at h; cases h
            obtain ⟨w', h4, h5, h6⟩ := update_sound hM t (ev_sound he h0) (ev_sound he h1) (ev_sound he h2) h3
            exact ⟨r, Go.undef, w', .inr ⟨run_unit h4, rfl⟩, .undef r, h5, h6⟩
  | insert t m k x =>
    simp only [opX] at h
    cases h0 : ev env m with
    | none => rw [h0] at h; cases h
    | some u =>
      rw [h0] at h
      simp only at h
      cases h1 : ev env k with
      | none => rw [h1] at h; cases h
      | some i =>
        rw [h1] at h
        simp only at h
        cases h2 : ev env x with
        | none => rw [h2] at h; cases h
        | some c =>
          rw [h2] at h
          simp only at h
          cases h3 : updateA P M t u i c with
          | none => rw [h3] at h; cases h
          | some M2 =>
            rw [h3] at h; cases h
            obtain ⟨w', h4, h5, h6⟩ := update_sound hM t (ev_sound he h0) (ev_sound he h1) (ev_sound he h2) h3
            exact ⟨r, Go.undef, w', .inr ⟨run_unit h4, rfl⟩, .undef r, h5, h6⟩
  | lookup t x k ok =>
    simp only [opX] at h
    cases h0 : ev env x with
    | none => rw [h0] at h; cases h
    | some u =>
      rw [h0] at h
      simp only at h
      cases h1 : ev env k with
      | none => rw [h1] at h; cases h
      | some i =>
        rw [h1] at h
        simp only at h
        cases h2 : lookupA P M t u i ok with
        | none => rw [h2] at h; cases h
        | some q =>
          rw [h2] at h; cases h
          obtain ⟨v', h3, h4⟩ := lookup_sound hM t ok (ev_sound he h0) (ev_sound he h1) h2
          exact ⟨r, v', w, .still hM (run_value h3) h4⟩
  | call c =>
    obtain ⟨callee, args, argTypes⟩ := c
    simp only [opX] at h
    split at h
    case h_4 => cases h
    · split at h
      case h_2 => cases h
      rename_i d s hargs
      split at h
      case h_2 => cases h
      rename_i t u hty
      cases h0 : ev env d with
      | none => rw [h0] at h; cases h
      | some dv =>
        rw [h0] at h
        simp only at h
        cases h1 : ev env s with
        | none => rw [h1] at h; cases h
        | some sv =>
          rw [h1] at h
          obtain ⟨w', h2, ⟨n, rfl⟩, h3, h4⟩ := copy_sound (P := P) hM t u ty (ev_sound he h0) (ev_sound he h1) h
          have e1 := toArray_of hargs
          have e2 := toArray_of hty
          subst e1; subst e2
          refine ⟨r, _, w', .inl ?_, .of_int r _ _, h3, h4⟩
          simp [execOp, resolve, invoke, builtin, h2]
    · split at h
      case h_2 => cases h
      rename_i d s hargs
      split at h
      case h_2 => cases h
      rename_i t u hty
      cases h0 : ev env d with
      | none => rw [h0] at h; cases h
      | some dv =>
        rw [h0] at h
        simp only at h
        cases h1 : ev env s with
        | none => rw [h1] at h; cases h
        | some sv =>
          rw [h1] at h
          simp only at h
          cases h2 : append0A P t u dv sv with
          | none => rw [h2] at h; cases h
          | some q =>
            rw [h2] at h; cases h
            obtain ⟨h3, h4⟩ := append0_sound (P := P) (w := w) t u ty (ev_sound he h0) (ev_sound he h1) h2
            have e1 := toArray_of hargs
            have e2 := toArray_of hty
            subst e1; subst e2
            exact ⟨r, _, w, .still hM (by simp [execOp, resolve, invoke, builtin, h3]) h4⟩
    · split at h
      case h_2 => cases h
      rename_i x hargs
      split at h
      case h_2 => cases h
      rename_i t hty
      cases h0 : ev env x with
      | none => rw [h0] at h; cases h
      | some u =>
        rw [h0] at h
        simp only at h
        cases h1 : lenMapA P M t u with
        | none => rw [h1] at h; cases h
        | some q =>
          rw [h1] at h; cases h
          obtain ⟨h2, n, rfl⟩ := lenMap_sound (P := P) hM t ty (ev_sound he h0) h1
          have e1 := toArray_of hargs
          have e2 := toArray_of hty
          subst e1; subst e2
          exact ⟨r, _, w, .still hM (by simp [execOp, resolve, invoke, builtin, h2]) (.of_int r _ _)⟩
  | _ => simp only [opX] at h; cases h

end Ev
end Go.Proofs.YtccjmmdppjialaaGreatDoor
