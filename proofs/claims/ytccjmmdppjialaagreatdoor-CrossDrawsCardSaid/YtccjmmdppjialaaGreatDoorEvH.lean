/- The evaluator, H: any single operation that makes no call of a Go function, and which function a call comes to. -/
import Derived.Test.YtccjmmdppjialaaGreatDoorEvG
namespace Go.Proofs.YtccjmmdppjialaaGreatDoor
open Go.RowKit
namespace Ev

def evo (env : Env) : Option Operand → Option (Option Value)
  | none => some none
  | some x => match ev env x with
    | some v => some (some v)
    | none => none
theorem evo_sound {r : Nat → Option (Nat × Nat)} {env : Env} {a : Act} (h : ER r env a.tmps) {x : Option Operand} {v : Option Value} (hv : evo env x = some v) : OR r v (x.map a.eval) := by
  cases x with
  | none => cases hv; trivial
  | some x =>
    simp only [evo] at hv
    cases h1 : ev env x with
    | none => rw [h1] at hv; cases hv
    | some u => rw [h1] at hv; cases hv; exact ev_sound h h1
def evp (env : Env) : List (Nat × Operand) → Option (List (Nat × Value))
  | [] => some []
  | p :: ps => match ev env p.2 with
    | some v => match evp env ps with
      | some q => some ((p.1, v) :: q)
      | none => none
    | none => none
theorem evp_sound {r : Nat → Option (Nat × Nat)} {env : Env} {a : Act} (h : ER r env a.tmps) : ∀ {ps : List (Nat × Operand)} {q : List (Nat × Value)}, evp env ps = some q → PR r q (ps.map fun p => (p.1, a.eval p.2))
  | [], q, hq => by cases hq; trivial
  | p :: ps, q, hq => by
    simp only [evp] at hq
    cases h1 : ev env p.2 with
    | none => rw [h1] at hq; cases hq
    | some v =>
      rw [h1] at hq
      cases h2 : evp env ps with
      | none => rw [h2] at hq; cases hq
      | some q' => rw [h2] at hq; cases hq; exact ⟨rfl, ev_sound h h1, evp_sound h h2⟩

def lenA (P : Program) (t : TypeId) (x : Value) : Option Value := match x with
  | .slice (some _) n _ => match P.underlying t with
    | some (.slice _) => some (.int .i64 n)
    | _ => none
  | _ => none

/-- An operation whose values have addresses in them, or that meets memory. -/
def opC (P : Program) (env : Env) (M : Mem) (o : Oper) : Option (Value × Mem) := match o.op with
  | .move x => match ev env x with
    | some v => some (v, M)
    | none => none
  | .assign x => match ev env x with
    | some v => some (v, M)
    | none => none
  | .pick c x y => match ev env c with
    | some (.bool t) => match ev env (bif t then x else y) with
      | some v => some (v, M)
      | none => none
    | _ => none
  | .alloc t => allocA P M t
  | .box _ x => match ev env x with
    | some v => some (boxA M v)
    | none => none
  | .load t x => match ev env x with
    | some v => match loadA P M t v with
      | some u => some (u, M)
      | none => none
    | none => none
  | .store t x y => match ev env x with
    | some v => match ev env y with
      | some u => match storeA P M t v u with
        | some M' => some (Go.undef, M')
        | none => none
      | none => none
    | none => none
  | .fieldAddr s x f => match ev env x with
    | some v => match fieldAddrA P s v f with
      | some u => some (u, M)
      | none => none
    | none => none
  | .indexAddr t x ix => match ev env x with
    | some v => match ev env ix with
      | some i => match indexAddrA P t v i with
        | some u => some (u, M)
        | none => none
      | none => none
    | none => none
  | .field t x f => match ev env x with
    | some v => match fieldA P t v f with
      | some u => some (u, M)
      | none => none
    | none => none
  | .extract x i => match ev env x with
    | some v => match extractA v i with
      | some u => some (u, M)
      | none => none
    | none => none
  | .makeFunc fn first captured => bif isYield fn then none else match evs env first.toList with
    | some xs => match evs env captured.toList with
      | some us => some (.func fn xs.toArray us.toArray, M)
      | none => none
    | none => none
  | .slice t x lo hi mx => match ev env x with
    | some v => match evo env lo with
      | some l => match evo env hi with
        | some h => match evo env mx with
          | some m => match sliceA P t v l h m with
            | some u => some (u, M)
            | none => none
          | none => none
        | none => none
      | none => none
    | none => none
  | .makeSlice t l c => match ev env l with
    | some u => match ev env c with
      | some v => makeSliceA P M t u v
      | none => none
    | none => none
  | .buildSlice t len parts => match evp env parts.toList with
    | some q => buildSliceA P M t len q
    | none => none
  | .build t parts => match evp env parts.toList with
    | some q => match buildA P t q with
      | some u => some (u, M)
      | none => none
    | none => none
  | .convert s d x => match ev env x with
    | some v => match convertA P M s d v with
      | some u => some (u, M)
      | none => none
    | none => none
  | .nilCheck x => match ev env x with
    | some (.pointer (some a)) => some (.pointer (some a), M)
    | _ => none
  | .call c => match c.callee with
    | .builtin .append => match c.args.toList with
      | [s, x] => match c.argTypes.toList with
        | [t, u] => bif Nat.beq t u then match ev env s with
            | some sv => match ev env x with
              | some xv => appendA P M t sv xv
              | none => none
            | none => none
          else none
        | _ => none
      | _ => none
    | .builtin .len => match c.args.toList with
      | [x] => match c.argTypes.toList with
        | [t] => match ev env x with
          | some v => match lenA P t v with
            | some u => some (u, M)
            | none => none
          | none => none
        | _ => none
      | _ => none
    | _ => none
  | _ => none

theorem toArray_of {α : Type} {xs : Array α} {l : List α} (h : xs.toList = l) : xs = l.toArray := by rw [← h]

theorem opC_sound {P : Program} {env : Env} {M M' : Mem} {o : Oper} {v : Value} {r : Nat → Option (Nat × Nat)} {a : Act} {w : World} (h : opC P env M o = some (v, M')) (he : ER r env a.tmps) (hM : MR r M w) :
    ∃ r' v' w', Out P (execOp a.eval o) w r M v M' r' v' w' := by
  obtain ⟨dst, op, ty, pos, after, guard⟩ := o
  cases op with
  | move x =>
    simp only [opC] at h
    cases h1 : ev env x with
    | none => rw [h1] at h; cases h
    | some u => rw [h1] at h; cases h; exact ⟨r, _, w, .still hM rfl (ev_sound he h1)⟩
  | assign x =>
    simp only [opC] at h
    cases h1 : ev env x with
    | none => rw [h1] at h; cases h
    | some u => rw [h1] at h; cases h; exact ⟨r, _, w, .still hM rfl (ev_sound he h1)⟩
  | pick c x y =>
    simp only [opC] at h
    split at h
    case h_2 => cases h
    rename_i t h1
    have hb := (ev_sound he h1).bool
    split at h
    case h_2 => cases h
    rename_i u h2
    cases h
    refine ⟨r, _, w, .still hM (v' := a.eval (bif t then x else y)) ?_ (ev_sound he h2)⟩
    cases t <;> simp [execOp, hb, asBool]
  | alloc t =>
    obtain ⟨r', v', w', h1, h2, h3, h4⟩ := alloc_sound (P := P) hM t h
    exact ⟨r', v', w', .inl (run_value h1), h2, h3, h4⟩
  | box t x =>
    simp only [opC] at h
    cases h0 : ev env x with
    | none => rw [h0] at h; cases h
    | some u =>
      rw [h0] at h
      obtain ⟨r', v', w', h1, h2, h3, h4⟩ := box_sound (P := P) hM t (ev_sound he h0)
      cases h
      exact ⟨r', v', w', .inl (run_value h1), h2, h3, h4⟩
  | load t x =>
    simp only [opC] at h
    cases h0 : ev env x with
    | none => rw [h0] at h; cases h
    | some u =>
      rw [h0] at h
      simp only at h
      cases h1 : loadA P M t u with
      | none => rw [h1] at h; cases h
      | some q =>
        rw [h1] at h; cases h
        obtain ⟨v', h2, h3⟩ := load_sound hM t (ev_sound he h0) h1
        exact ⟨r, v', w, .still hM (run_value h2) h3⟩
  | store t x y =>
    simp only [opC] at h
    cases h0 : ev env x with
    | none => rw [h0] at h; cases h
    | some u =>
      rw [h0] at h
      simp only at h
      cases h1 : ev env y with
      | none => rw [h1] at h; cases h
      | some q =>
        rw [h1] at h
        simp only at h
        cases h2 : storeA P M t u q with
        | none => rw [h2] at h; cases h
        | some M2 =>
          rw [h2] at h; cases h
          obtain ⟨w', h3, h4, h5, _⟩ := storeAt_sound hM t (ev_sound he h0) (ev_sound he h1) h2
          exact ⟨r, Go.undef, w', .inr ⟨run_unit h3, rfl⟩, .undef r, h4, h5⟩
  | fieldAddr s x f =>
    simp only [opC] at h
    cases h0 : ev env x with
    | none => rw [h0] at h; cases h
    | some u =>
      rw [h0] at h
      simp only at h
      cases h1 : fieldAddrA P s u f with
      | none => rw [h1] at h; cases h
      | some q =>
        rw [h1] at h; cases h
        obtain ⟨v', h2, h3⟩ := fieldAddr_sound s f (ev_sound he h0) h1
        exact ⟨r, v', w, .still hM (run_value (h2 w)) h3⟩
  | indexAddr t x ix =>
    simp only [opC] at h
    cases h0 : ev env x with
    | none => rw [h0] at h; cases h
    | some u =>
      rw [h0] at h
      simp only at h
      cases h1 : ev env ix with
      | none => rw [h1] at h; cases h
      | some i =>
        rw [h1] at h
        simp only at h
        cases h2 : indexAddrA P t u i with
        | none => rw [h2] at h; cases h
        | some q =>
          rw [h2] at h; cases h
          obtain ⟨v', h3, h4⟩ := indexAddr_sound t (ev_sound he h0) (ev_sound he h1) h2
          exact ⟨r, v', w, .still hM (run_value (h3 w)) h4⟩
  | field t x f =>
    simp only [opC] at h
    cases h0 : ev env x with
    | none => rw [h0] at h; cases h
    | some u =>
      rw [h0] at h
      simp only at h
      cases h1 : fieldA P t u f with
      | none => rw [h1] at h; cases h
      | some q =>
        rw [h1] at h; cases h
        obtain ⟨v', h2, h3⟩ := field_sound t f (ev_sound he h0) h1
        exact ⟨r, v', w, .still hM (run_value (h2 w)) h3⟩
  | extract x i =>
    simp only [opC] at h
    cases h0 : ev env x with
    | none => rw [h0] at h; cases h
    | some u =>
      rw [h0] at h
      simp only at h
      cases h1 : extractA u i with
      | none => rw [h1] at h; cases h
      | some q =>
        rw [h1] at h; cases h
        obtain ⟨v', h2, h3⟩ := extract_sound (P := P) i (ev_sound he h0) h1
        exact ⟨r, v', w, .still hM (run_value (h2 w)) h3⟩
  | makeFunc fn first captured =>
    simp only [opC] at h
    cases hy : isYield fn with
    | true => rw [hy] at h; cases h
    | false =>
    rw [hy] at h
    simp only [cond_false] at h
    cases h0 : evs env first.toList with
    | none => rw [h0] at h; cases h
    | some xs =>
      rw [h0] at h
      simp only at h
      cases h1 : evs env captured.toList with
      | none => rw [h1] at h; cases h
      | some us =>
        rw [h1] at h; cases h
        have e1 := evs_sound he h0
        have e2 := evs_sound he h1
        refine ⟨r, .func fn (first.map a.eval) (captured.map a.eval), w, .still hM (by simp [execOp, Instr.makeFunc]) ?_⟩
        have := VR.func' fn hy e1 e2
        have q1 : first.map a.eval = (first.toList.map a.eval).toArray := by rw [← Array.toList_map]
        have q2 : captured.map a.eval = (captured.toList.map a.eval).toArray := by rw [← Array.toList_map]
        rw [q1, q2]
        exact this
  | slice t x lo hi mx =>
    simp only [opC] at h
    cases h0 : ev env x with
    | none => rw [h0] at h; cases h
    | some u =>
      rw [h0] at h
      simp only at h
      cases h1 : evo env lo with
      | none => rw [h1] at h; cases h
      | some l =>
        rw [h1] at h
        simp only at h
        cases h2 : evo env hi with
        | none => rw [h2] at h; cases h
        | some hh =>
          rw [h2] at h
          simp only at h
          cases h3 : evo env mx with
          | none => rw [h3] at h; cases h
          | some m =>
            rw [h3] at h
            simp only at h
            cases h4 : sliceA P t u l hh m with
            | none => rw [h4] at h; cases h
            | some q =>
              rw [h4] at h; cases h
              obtain ⟨v', h5, h6⟩ := slice_sound t (ev_sound he h0) (evo_sound he h1) (evo_sound he h2) (evo_sound he h3) h4
              exact ⟨r, v', w, .still hM (run_value (h5 w)) h6⟩
  | makeSlice t l c =>
    simp only [opC] at h
    cases h0 : ev env l with
    | none => rw [h0] at h; cases h
    | some u =>
      rw [h0] at h
      simp only at h
      cases h1 : ev env c with
      | none => rw [h1] at h; cases h
      | some q =>
        rw [h1] at h
        obtain ⟨r', v', w', h2, h3, h4, h5⟩ := makeSlice_sound (P := P) hM t (ev_sound he h0) (ev_sound he h1) h
        exact ⟨r', v', w', .inl (run_value h2), h3, h4, h5⟩
  | buildSlice t len parts =>
    simp only [opC] at h
    cases h0 : evp env parts.toList with
    | none => rw [h0] at h; cases h
    | some q =>
      rw [h0] at h
      obtain ⟨r', v', w', h2, h3, h4, h5⟩ := buildSlice_sound (P := P) (ps' := parts.map fun p => (p.1, a.eval p.2)) hM t len (by simpa using evp_sound he h0) h
      exact ⟨r', v', w', .inl (run_value h2), h3, h4, h5⟩
  | build t parts =>
    simp only [opC] at h
    cases h0 : evp env parts.toList with
    | none => rw [h0] at h; cases h
    | some q =>
      rw [h0] at h
      simp only at h
      cases h1 : buildA P t q with
      | none => rw [h1] at h; cases h
      | some u =>
        rw [h1] at h; cases h
        obtain ⟨v', h2, h3⟩ := build_sound (ps' := parts.map fun p => (p.1, a.eval p.2)) t (by simpa using evp_sound he h0) h1
        exact ⟨r, v', w, .still hM (run_value (h2 w)) h3⟩
  | convert s d x =>
    simp only [opC] at h
    cases h0 : ev env x with
    | none => rw [h0] at h; cases h
    | some u =>
      rw [h0] at h
      simp only at h
      cases h1 : convertA P M s d u with
      | none => rw [h1] at h; cases h
      | some q =>
        rw [h1] at h; cases h
        obtain ⟨h2, h3⟩ := convert_sound hM s d (ev_sound he h0) h1
        exact ⟨r, _, w, .still hM (run_value h2) h3⟩
  | nilCheck x =>
    simp only [opC] at h
    split at h
    case h_2 => cases h
    rename_i ad h0
    cases h
    obtain ⟨hs, g, hg, hv⟩ := (ev_sound he h0).of_ptr
    have hh := ev_sound he h0
    exact ⟨r, a.eval x, w, .still hM (by simp [execOp, hv]) hh⟩
  | call c =>
    obtain ⟨callee, args, argTypes⟩ := c
    simp only [opC] at h
    split at h
    case h_3 => cases h
    · split at h
      case h_2 => cases h
      rename_i s x hargs
      split at h
      case h_2 => cases h
      rename_i t u hty
      cases hb : Nat.beq t u with
      | false => rw [hb] at h; cases h
      | true =>
        rw [hb] at h
        simp only [cond_true] at h
        have := Nat.eq_of_beq_eq_true hb
        subst this
        cases h0 : ev env s with
        | none => rw [h0] at h; cases h
        | some sv =>
          rw [h0] at h
          simp only at h
          cases h1 : ev env x with
          | none => rw [h1] at h; cases h
          | some xv =>
            rw [h1] at h
            obtain ⟨r', v', w', h2, h3, h4, h5⟩ := append_sound (P := P) hM t ty (ev_sound he h0) (ev_sound he h1) h
            refine ⟨r', v', w', .inl ?_, h3, h4, h5⟩
            have e1 := toArray_of hargs
            have e2 := toArray_of hty
            subst e1; subst e2
            simp [execOp, resolve, invoke, builtin, h2]
    · split at h
      case h_2 => cases h
      rename_i x hargs
      split at h
      case h_2 => cases h
      rename_i t hty
      cases h0 : ev env x with
      | none => rw [h0] at h; cases h
      | some u =>
        rw [h0] at h
        simp only at h
        cases h1 : lenA P t u with
        | none => rw [h1] at h; cases h
        | some q =>
          rw [h1] at h; cases h
          unfold lenA at h1
          split at h1
          case h_2 => cases h1
          rename_i ad n cap
          split at h1
          case h_2 => cases h1
          rename_i e hu
          cases h1
          obtain ⟨hs, g, c', hg, hcap, ht, hv⟩ := (ev_sound he h0).of_slice
          have e1 := toArray_of hargs
          have e2 := toArray_of hty
          subst e1; subst e2
          exact ⟨r, .int .i64 n, w, .still hM (by simp [execOp, resolve, invoke, builtin, Builtin.len_, underlying, hu, hv, goInt]) (.of_int r _ _)⟩
  | _ => simp only [opC] at h; cases h

/-! ### What only reckons. -/
def eva (env : Env) (x : Operand) : Value := match ev env x with
  | some v => v
  | none => Go.undef
def afAll (env : Env) (xs : List Operand) : Bool := xs.all fun x => match ev env x with
  | some v => af 4 v
  | none => false
def isSelect : Op → Bool
  | .select _ _ => true
  | _ => false
theorem eva_eq {r : Nat → Option (Nat × Nat)} {env : Env} {a : Act} (he : ER r env a.tmps) {xs : List Operand} (h : afAll env xs = true) : ∀ x ∈ xs, a.eval x = eva env x := fun x hx => by
  have := List.all_eq_true.1 h x hx
  cases h1 : ev env x with
  | none => rw [h1] at this; cases this
  | some v =>
    rw [h1] at this
    rw [eva, h1]
    exact (ev_sound he h1).eq this
def nextP (P : Program) (env : Env) (o : Oper) : Option Next := bif isSelect o.op then none else bif afAll env o.op.operands.toList then pureRun P (execOp (eva env) o) else none
theorem nextP_sound {P : Program} {env : Env} {o : Oper} {n : Next} {r : Nat → Option (Nat × Nat)} {a : Act} (w : World) (h : nextP P env o = some n) (he : ER r env a.tmps) : (execOp a.eval o).run P w = .ok n w := by
  unfold nextP at h
  cases hs : isSelect o.op with
  | true => rw [hs] at h; cases h
  | false =>
    rw [hs] at h
    simp only [cond_false] at h
    cases ha : afAll env o.op.operands.toList with
    | false => rw [ha] at h; cases h
    | true =>
      rw [ha] at h
      simp only [cond_true] at h
      have hc : execOp a.eval o = execOp (eva env) o := execOp_congr o (fun cs b e => by rw [e] at hs; cases hs) fun x hx => eva_eq he ha x (by simpa using hx)
      rw [hc]
      exact pureRun_sound h w

/-- Any single operation that makes no call of a Go function. -/
def opS (P : Program) (env : Env) (M : Mem) (o : Oper) : Option (Value × Mem) := match opC P env M o with
  | some q => some q
  | none => match nextP P env o with
    | some (.value v) => bif af 4 v then some (v, M) else none
    | _ => none
theorem opS_sound {P : Program} {env : Env} {M M' : Mem} {o : Oper} {v : Value} {r : Nat → Option (Nat × Nat)} {a : Act} {w : World} (h : opS P env M o = some (v, M')) (he : ER r env a.tmps) (hM : MR r M w) :
    ∃ r' v' w', Out P (execOp a.eval o) w r M v M' r' v' w' := by
  unfold opS at h
  cases h1 : opC P env M o with
  | some q => rw [h1] at h; cases h; exact opC_sound h1 he hM
  | none =>
    rw [h1] at h
    simp only at h
    split at h
    case h_2 => cases h
    rename_i u h2
    cases hf : af 4 u with
    | false => rw [hf] at h; cases h
    | true =>
      rw [hf] at h; cases h
      exact ⟨r, _, w, .still hM (nextP_sound w h2 he) (.same 4 _ hf)⟩

/-- Which function a call comes to, with which arguments. -/
def calleeA (P : Program) (env : Env) (o : Oper) : Option (FuncId × Func × Code × List Value) := match o.op with
  | .call c => match c.callee with
    | .value fo => match ev env fo with
      | some (.func (.func f) first captured) => match evs env c.args.toList with
        | some xs => match P.funcs[f]? with
          | some fn => match fn.body with
            | some b => some (f, fn, b, first.toList ++ xs ++ captured.toList)
            | none => none
          | none => none
        | none => none
      | _ => none
    | _ => none
  | _ => none
def noRoutines (P : Program) : Prop := ∀ (f : FuncId) fn, P.funcs[f]? = some fn → (fn.name == "runtime.NumGoroutine") = false
theorem callee_sound {P : Program} (hN : noRoutines P) {env : Env} {o : Oper} {f : FuncId} {fn : Func} {b : Code} {xs : List Value} {r : Nat → Option (Nat × Nat)} {a : Act} (w : World) (h : calleeA P env o = some (f, fn, b, xs)) (he : ER r env a.tmps) :
    ∃ ys : List Value, (execOp a.eval o).run P w = .ok (.enter f ys.toArray) w ∧ LR r xs ys ∧ P.funcs[f]? = some fn ∧ fn.body = some b := by
  obtain ⟨dst, op, ty, pos, after, guard⟩ := o
  unfold calleeA at h
  split at h
  case h_2 => cases h
  rename_i c hop
  simp only at hop
  subst hop
  obtain ⟨callee, args, argTypes⟩ := c
  simp only at h
  split at h
  case h_2 => cases h
  rename_i fo
  split at h
  case h_2 => cases h
  rename_i f' first captured h0
  split at h
  case h_2 => cases h
  rename_i as h1
  split at h
  case h_2 => cases h
  rename_i fn' h2
  split at h
  case h_2 => cases h
  rename_i b' h3
  cases h
  obtain ⟨ys, vs, hv, e1, e2⟩ := (ev_sound he h0).of_func rfl
  have e3 := evs_sound he h1
  refine ⟨ys.toList ++ args.toList.map a.eval ++ vs.toList, ?_, (e1.append e3).append e2, h2, h3⟩
  have hname : ¬ fn.name = "runtime.NumGoroutine" := by simpa using hN f fn h2
  simp [execOp, resolve, Deferred.ofValue, hv, invoke, callFunc, h2, hname, h3]
end Ev
end Go.Proofs.YtccjmmdppjialaaGreatDoor
