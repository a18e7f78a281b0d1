/- The evaluator, I: calls, with deferred calls, panics and marks. -/
import Derived.Test.YtccjmmdppjialaaGreatDoorEvZ
import Derived.RangeFuncRecord
import Derived.RangeFuncCalls
import Derived.RecoverIn
import Derived.TacticsIn
import Derived.LoopNIn
namespace Go.Proofs.YtccjmmdppjialaaGreatDoor
open Go.RowKit
namespace Ev

abbrev Rs := Option (Exit × Env × Mem)
abbrev Self := Code → Env → Mem → Rs

def putA (env : Env) (dst : Option Tmp) (v : Value) : Env := match dst with
  | some d => env.set d v
  | none => env
theorem putA_rel {r : Nat → Option (Nat × Nat)} {env : Env} {a : Act} (he : ER r env a.tmps) (dst : Option Tmp) {v v' : Value} (hv : VR r v v') : ER r (putA env dst v) (a.put dst v').tmps := by
  cases dst with
  | none => exact he
  | some d => exact he.set d hv
theorem put_defers (a : Act) (dst : Option Tmp) (v : Value) : (a.put dst v).defers = a.defers := by cases dst <;> rfl

def yieldedA (ops : Array Oper) (env : Env) (j : Nat) : Option Bool := match (ops[j]?).bind (·.dst) with
  | some d => match env.get d with
    | .bool b => some b
    | _ => none
  | none => none
theorem VR.bool_of {r : Nat → Option (Nat × Nat)} {v : Value} {b : Bool} (h : VR r v (.bool b)) : v = .bool b := by cases h; rfl
theorem yieldedA_eq {r : Nat → Option (Nat × Nat)} {env : Env} {a : Act} (ops : Array Oper) (he : ER r env a.tmps) (j : Nat) : yielded ops a.tmps j = yieldedA ops env j := by
  unfold yielded yieldedA
  cases (ops[j]?).bind (·.dst) with
  | none => rfl
  | some d =>
    simp only [Option.bind_some]
    have h2 := he.2 d
    generalize env.get d = v at h2
    cases hd : a.tmps[d]? with
    | none =>
      have : a.tmps.getD d Go.undef = Go.undef := by simp [Array.getD_eq_getD_getElem?, hd]
      rw [this] at h2
      cases v with
      | bool b => exact absurd h2.bool (by simp [Go.undef])
      | _ => rfl
    | some y =>
      have : a.tmps.getD d Go.undef = y := by simp [Array.getD_eq_getD_getElem?, hd]
      rw [this] at h2
      cases v with
      | bool b => rw [h2.bool]
      | _ => cases y with
        | bool b => exact absurd h2.bool_of (by simp)
        | _ => rfl
def wantedA (ops : Array Oper) (env : Env) (o : Oper) : Bool := Region.wanted o (yieldedA ops env)
theorem wantedA_eq {r : Nat → Option (Nat × Nat)} {env : Env} {a : Act} (ops : Array Oper) (he : ER r env a.tmps) (o : Oper) : Region.wanted o (yielded ops a.tmps) = wantedA ops env o := by
  unfold wantedA
  congr 1
  exact funext (yieldedA_eq ops he)

/-- The same, the environment built whole. -/
def putK {α : Type} (env : Env) (dst : Option Tmp) (v : Value) (k : Env → α) : α := match dst with
  | some d => env.setK d v k
  | none => k env
theorem putK_eq {α : Type} (env : Env) (dst : Option Tmp) (v : Value) (k : Env → α) : putK env dst v k = k (putA env dst v) := by
  cases dst with
  | none => rfl
  | some d => exact Env.setK_eq env d v k
theorem putA_ds (env : Env) (dst : Option Tmp) (v : Value) : (putA env dst v).ds = env.ds := by cases dst with
  | none => rfl
  | some d => exact Env.set_ds env d v
theorem putA_rd (env : Env) (dst : Option Tmp) (v : Value) : (putA env dst v).rd = env.rd := by cases dst with
  | none => rfl
  | some d => exact Env.set_rd env d v
theorem putA_gs (env : Env) (dst : Option Tmp) (v : Value) : (putA env dst v).gs = env.gs := by cases dst with
  | none => rfl
  | some d => simp only [putA, Env.set]; cases Nat.blt d env.n <;> rfl

/-! ### What a call gives back. -/
def resA (P : Program) (env : Env) (M : Mem) : List ResultVar → Option (List Value)
  | [] => some []
  | .tmp t :: r => match env.get t with
    | .chan none => none
    | v => match resA P env M r with
      | some q => some (v :: q)
      | none => none
  | .cell x t :: r => match loadA P M t (env.get x) with
    | some v => match resA P env M r with
      | some q => some (v :: q)
      | none => none
    | none => none
def one (vs : List Value) : Value := match vs with
  | [v] => v
  | vs => .tuple vs.toArray
def resOne (tmps : Array Value) : ResultVar → Sem Value
  | .tmp t => pure (tmps.getD t Go.undef)
  | .cell a t => do loadVar t (← asAddr (tmps.getD a Go.undef))
theorem results_eq (fn : Func) (tmps : Array Value) : results fn tmps = (do let vs ← fn.results.mapM (resOne tmps); pure (if h : vs.size = 1 then vs[0] else .tuple vs)) := by
  unfold results
  congr 1
theorem getD_rel {r : Nat → Option (Nat × Nat)} {env : Env} {tmps : Array Value} (he : EW r env tmps) (t : Nat) (hu : isU (env.get t) = false) : VR r (env.get t) (tmps.getD t Go.undef) := (he.2 t).resolve_left (by rw [hu]; exact fun h => by cases h)
theorem res_sound {P : Program} {r : Nat → Option (Nat × Nat)} {env : Env} {M : Mem} {w : World} {tmps : Array Value} (he : EW r env tmps) (hM : MR r M w) : ∀ {rs : List ResultVar} {vs : List Value}, resA P env M rs = some vs →
    ∃ ys, (rs.mapM (resOne tmps)).run P w = .ok ys w ∧ LR r vs ys
  | [], vs, h => by cases h; exact ⟨[], rfl, .nil r⟩
  | .tmp t :: rs, vs, h => by
    simp only [resA] at h
    have hu : isU (env.get t) = false ∧ (match resA P env M rs with | some q => some (env.get t :: q) | none => none) = some vs := by
      split at h
      · cases h
      · rename_i hne
        refine ⟨?_, h⟩
        cases hv : env.get t with
        | chan q => cases q with
          | none => exact absurd hv hne
          | some _ => rfl
        | _ => rfl
    obtain ⟨hu, h⟩ := hu
    cases h1 : resA P env M rs with
    | none => rw [h1] at h; cases h
    | some q =>
      rw [h1] at h; cases h
      obtain ⟨ys, h2, h3⟩ := res_sound he hM h1
      refine ⟨tmps.getD t Go.undef :: ys, ?_, .cons (getD_rel he t hu) h3⟩
      simp only [List.mapM_cons, resOne, Sem.run_bind, Sem.run_pure, Result.andThen_ok, h2]
  | .cell x t :: rs, vs, h => by
    simp only [resA] at h
    cases h0 : loadA P M t (env.get x) with
    | none => rw [h0] at h; cases h
    | some v =>
      rw [h0] at h
      simp only at h
      cases h1 : resA P env M rs with
      | none => rw [h1] at h; cases h
      | some q =>
        rw [h1] at h; cases h
        obtain ⟨ys, h2, h3⟩ := res_sound he hM h1
        have hu : isU (env.get x) = false := by cases hv : env.get x with
          | chan q => rw [hv] at h0; cases h0
          | _ => rfl
        obtain ⟨ad, v', h4, h5, h6⟩ := loadVar_sound hM t (getD_rel he x hu) h0
        refine ⟨v' :: ys, ?_, .cons h6 h3⟩
        simp only [List.mapM_cons, resOne, Sem.run_bind, h4, asAddr, Sem.run_pure, Result.andThen_ok, h5, h2]
theorem results_sound {P : Program} {r : Nat → Option (Nat × Nat)} {env : Env} {M : Mem} {w : World} {tmps : Array Value} (he : EW r env tmps) (hM : MR r M w) (fn : Func) {vs : List Value} (h : resA P env M fn.results.toList = some vs) :
    ∃ v', (results fn tmps).run P w = .ok v' w ∧ VR r (one vs) v' := by
  obtain ⟨ys, h1, h2⟩ := res_sound he hM h
  refine ⟨one ys, ?_, ?_⟩
  · have h1' : (fn.results.mapM (resOne tmps)).run P w = .ok ys.toArray w := by
      rw [← Array.toArray_toList (xs := fn.results), List.mapM_toArray, Sem.run_map, h1]
      rfl
    rw [results_eq, Sem.run_bind, h1']
    simp only [Result.andThen_ok, Sem.run_pure, Result.ok.injEq, and_true]
    match ys with
    | [] => rfl
    | [y] => rfl
    | y :: z :: l => simp [one]
  · match vs, ys, h2 with
    | [], [], _ => exact .same 2 _ rfl
    | [v], [y], h2 => exact h2.head
    | v :: v2 :: l, y :: y2 :: l2, h2 => exact .tuple' h2
    | [], _ :: _, h2 => exact absurd h2.1 (by simp)
    | [_], [], h2 => exact absurd h2.1 (by simp)
    | [_], _ :: _ :: _, h2 => exact absurd h2.1 (by simp)
    | _ :: _ :: _, [], h2 => exact absurd h2.1 (by simp)
    | _ :: _ :: _, [_], h2 => exact absurd h2.1 (by simp)


/-! ### A call whose arguments have no addresses runs in a memory of its own. -/
def Mem.own (M : Mem) : Mem := { next := M.next, lo := 64 * M.next, bl := M.gl, gl := M.gl, ob := [] }
theorem MR.globlt {r : Nat → Option (Nat × Nat)} {M : Mem} {w : World} (h : MR r M w) {i : Nat} {cs : List Value} (hl : look M.gl i = some cs) : i < 64 * M.next := by
  obtain ⟨_, _, ⟨s, hs⟩, _⟩ := h.glob i cs hl
  exact h.bound _ _ hs
theorem own_rel {r : Nat → Option (Nat × Nat)} {M : Mem} {w : World} (h : MR r M w) : MR r M.own w :=
  ⟨fun i cs hl => h.blk i cs (h.glob i cs hl).2.1, fun i j cs ds g k hl hl' => h.inj i j cs ds g k (h.glob i cs hl).2.1 (h.glob j ds hl').2.1, h.bound, fun i cs hl => ⟨h.globlt hl, hl, (h.glob i cs hl).2.2⟩, fun _ _ hl => (by cases hl), fun _ _ _ _ _ _ hl => (by cases hl)⟩
theorem own_far {r r' : Nat → Option (Nat × Nat)} {M M' : Mem} {w w' : World} (hM : MR r M w) (hs : Stp r M.own w r' M' w') {i : Nat} {cs : List Value} {g : Nat × Nat} (hl : look M'.bl i = some cs) (hi : r' i = some g) : w.heap.size ≤ g.1 ∨ ∃ ds, look M.gl i = some ds := by
  rcases Nat.lt_or_ge i (64 * M.next) with h | h
  · exact .inr (hs.old i cs hl h)
  · refine .inl ?_
    rcases Nat.lt_or_ge g.1 w.heap.size with h' | h'
    · obtain ⟨j, ds, k, h1, h2, h3, _⟩ := hs.anc i cs g (by rw [hs.lo]; exact h) hl hi h'
      have := hM.bound j k h3
      have h1' : 64 * M.next ≤ j := h1
      omega
    · exact h'
theorem own_keep {r r' : Nat → Option (Nat × Nat)} {M M' : Mem} {w w' : World} (hM : MR r M w) (hs : Stp r M.own w r' M' w') (k : Nat) (hk : k < w.heap.size) : w'.heap[k]? = w.heap[k]? :=
  hs.keep k hk (fun i cs g hlo _ hr => by have := hM.bound i g hr; have hlo' : 64 * M.next ≤ i := hlo; omega) (fun i o g hl => by cases hl)
theorem own_farO {r r' : Nat → Option (Nat × Nat)} {M M' : Mem} {w w' : World} (hs : Stp r M.own w r' M' w') {i : Nat} {o : AOb} {g : Nat × Nat} (hl : look M'.ob i = some o) (hi : r' i = some g) : w.heap.size ≤ g.1 := by
  rcases Nat.lt_or_ge g.1 w.heap.size with h | h
  · obtain ⟨j, p, k, h1, _⟩ := hs.ancO i o g hl hi h
    cases h1
  · exact h
def Mem.merge (M M' : Mem) : Mem := { next := M'.next, lo := M.lo, bl := M'.bl ++ M.bl, gl := M.gl, ob := M'.ob ++ M.ob }
theorem merge_sound {r r' : Nat → Option (Nat × Nat)} {M M' : Mem} {w w' : World} (hM : MR r M w) (hM' : MR r' M' w') (hs : Stp r M.own w r' M' w') :
    MR r' (M.merge M') w' ∧ Stp r M w r' (M.merge M') w' := by
  have old : ∀ i cs, look M.bl i = some cs → ∃ g, r i = some g ∧ r' i = some g ∧ g.1 < w.heap.size := fun i cs hl => by
    obtain ⟨g, _, _, h1, _⟩ := hM.blk i cs hl
    exact ⟨g, h1, hs.ext _ _ h1, hM.lt hl h1⟩
  have oldO : ∀ i o, look M.ob i = some o → ∃ g, r i = some g ∧ r' i = some g ∧ g.1 < w.heap.size := fun i o hl => by
    obtain ⟨g, _, h1, _⟩ := hM.obj i o hl
    exact ⟨g, h1, hs.ext _ _ h1, hM.ltO hl h1⟩
  have hgl : M'.gl = M.gl := hs.gl
  have cross : ∀ i j cs ds g h, look M'.bl i = some cs → look M.bl j = some ds → r' i = some g → r' j = some h → g.1 = h.1 → i = j := fun i j cs ds g h h1 h2 hr1 hr2 hh => by
    obtain ⟨g0, q1, q2, q3⟩ := old j ds h2
    rw [hr2] at q2; cases q2
    rcases own_far hM hs h1 hr1 with q | ⟨es, q⟩
    · omega
    · obtain ⟨_, p1, _⟩ := hM.glob i es q
      obtain ⟨g1, p2, p3, _⟩ := old i es p1
      rw [hr1] at p3; cases p3
      exact hM.inj i j es ds _ _ p1 h2 p2 q1 hh
  refine ⟨⟨?_, ?_, hM'.bound, ?_, ?_, ?_⟩, ⟨hs.ext, rfl, hs.next, fun i cs hl hi => ?_, hs.os, hs.tape, hs.output, hs.size, fun k hk _ _ => own_keep hM hs k hk, ?_, rfl, ?_⟩⟩
  · intro i cs hl
    simp only [Mem.merge, look_append] at hl
    cases h1 : look M'.bl i with
    | some ds => rw [h1] at hl; cases hl; exact hM'.blk i _ h1
    | none =>
      rw [h1] at hl
      simp only [Option.none_or] at hl
      obtain ⟨g, t, cc, h2, h3, h4, h5⟩ := hM.blk i cs hl
      refine ⟨g, t, cc, hs.ext _ _ h2, by rw [own_keep hM hs g.1 (hM.lt hl h2)]; exact h3, h4, fun j v hv => ?_⟩
      obtain ⟨v', h6, h7⟩ := h5 j v hv
      exact ⟨v', h6, h7.mono hs.ext⟩
  · intro i j cs ds g h hl1 hl2 hr1 hr2 hh
    simp only [Mem.merge, look_append] at hl1 hl2
    cases h1 : look M'.bl i with
    | some cs' =>
      cases h2 : look M'.bl j with
      | some ds' => exact hM'.inj i j cs' ds' g h h1 h2 hr1 hr2 hh
      | none =>
        rw [h2] at hl2; simp only [Option.none_or] at hl2
        exact cross i j _ _ g h h1 hl2 hr1 hr2 hh
    | none =>
      rw [h1] at hl1; simp only [Option.none_or] at hl1
      cases h2 : look M'.bl j with
      | some ds' => exact (cross j i _ _ h g h2 hl1 hr2 hr1 hh.symm).symm
      | none =>
        rw [h2] at hl2; simp only [Option.none_or] at hl2
        obtain ⟨g1, q1, q2, q3⟩ := old i cs hl1
        rw [hr1] at q2; cases q2
        obtain ⟨g2, p1, p2, p3⟩ := old j ds hl2
        rw [hr2] at p2; cases p2
        exact hM.inj i j cs ds _ _ hl1 hl2 q1 p1 hh
  · intro i cs hl
    obtain ⟨h1, h2, ⟨s, h3⟩, h4⟩ := hM.glob i cs hl
    obtain ⟨_, h5, _⟩ := hM'.glob i cs (by rw [hgl]; exact hl)
    exact ⟨h1, by simp only [Mem.merge, look_append, h5, Option.some_or], ⟨s, hs.ext _ _ h3⟩, h4⟩
  · intro i o hl
    simp only [Mem.merge, look_append] at hl
    cases h1 : look M'.ob i with
    | some p => rw [h1] at hl; cases hl; exact hM'.obj i _ h1
    | none =>
      rw [h1] at hl
      simp only [Option.none_or] at hl
      obtain ⟨g, x, h2, h3, h4⟩ := hM.obj i o hl
      exact ⟨g, x, hs.ext _ _ h2, by rw [own_keep hM hs g.1 (hM.ltO hl h2)]; exact h3, h4.mono hs.ext⟩
  · intro i j o p g h hl1 hl2 hr1 hr2 hh
    simp only [Mem.merge, look_append] at hl1 hl2
    cases h1 : look M'.ob i with
    | some o' =>
      cases h2 : look M'.ob j with
      | some p' => exact hM'.injO i j o' p' g h h1 h2 hr1 hr2 hh
      | none =>
        rw [h2] at hl2; simp only [Option.none_or] at hl2
        obtain ⟨g0, _, h3, h4⟩ := oldO j p hl2
        rw [hr2] at h3; cases h3
        have := own_farO hs h1 hr1
        omega
    | none =>
      rw [h1] at hl1; simp only [Option.none_or] at hl1
      obtain ⟨g1, q1, q2, q3⟩ := oldO i o hl1
      rw [hr1] at q2; cases q2
      cases h2 : look M'.ob j with
      | some p' => have := own_farO hs h2 hr2; omega
      | none =>
        rw [h2] at hl2; simp only [Option.none_or] at hl2
        obtain ⟨g2, p1, p2, p3⟩ := oldO j p hl2
        rw [hr2] at p2; cases p2
        exact hM.injO i j o p _ _ hl1 hl2 q1 p1 hh
  · simp only [Mem.merge, look_append] at hl
    cases h1 : look M'.bl i with
    | some ds =>
      obtain ⟨ds', h2⟩ := hs.old i ds h1 hi
      exact ⟨ds', (hM.glob i ds' h2).2.1⟩
    | none => rw [h1] at hl; exact ⟨cs, by simpa using hl⟩
  · intro i cs g hlo hl hi hg
    simp only [Mem.merge, look_append] at hl
    cases h1 : look M'.bl i with
    | some cs' =>
      rcases own_far hM hs h1 hi with q | ⟨es, q⟩
      · omega
      · have := (hM.glob i es q).1
        have hlo' : M.lo ≤ i := hlo
        omega
    | none =>
      rw [h1] at hl; simp only [Option.none_or] at hl
      obtain ⟨g0, q1, q2, q3⟩ := old i cs hl
      rw [hi] at q2; cases q2
      exact ⟨i, cs, _, hlo, hl, q1, rfl⟩
  · intro i o g hl hi hg
    simp only [Mem.merge, look_append] at hl
    cases h1 : look M'.ob i with
    | some o' => have := own_farO hs h1 hi; omega
    | none =>
      rw [h1] at hl; simp only [Option.none_or] at hl
      obtain ⟨g0, q1, q2, q3⟩ := oldO i o hl
      rw [hi] at q2; cases q2
      exact ⟨i, o, _, hl, q1, rfl⟩
/-- Without the listed tables: these are in the other memory. -/
def unG (gl : List (Nat × List Value)) : List (Nat × List Value) → List (Nat × List Value)
  | [] => []
  | (i, cs) :: l => match look gl i with
    | some _ => unG gl l
    | none => (i, cs) :: unG gl l
theorem look_unG (gl : List (Nat × List Value)) (i : Nat) : ∀ l, look (unG gl l) i = match look gl i with
    | some _ => none
    | none => look l i
  | [] => by unfold unG look; split <;> rfl
  | (j, cs) :: l => by
    have ih := look_unG gl i l
    unfold unG
    by_cases hj : i = j
    · subst hj
      cases h : look gl i with
      | some v => rw [h] at ih; exact ih
      | none => simp [look]
    · have e : look ((j, cs) :: l) i = look l i := by
        simp only [look]
        rw [beq_ne (Ne.symm hj), cond_false]
      rw [e]
      cases h : look gl j with
      | some v => exact ih
      | none =>
        have e2 : look ((j, cs) :: unG gl l) i = look (unG gl l) i := by
          simp only [look]
          rw [beq_ne (Ne.symm hj), cond_false]
        simp only [e2]
        exact ih
def unGK {α : Type} (gl base : List (Nat × List Value)) : List (Nat × List Value) → (List (Nat × List Value) → α) → α
  | [], k => k base
  | (i, cs) :: l, k => match look gl i with
    | some _ => unGK gl base l k
    | none => unGK gl base l fun l' => k ((i, cs) :: l')
theorem unGK_eq {α : Type} (gl base : List (Nat × List Value)) : ∀ l (k : List (Nat × List Value) → α), unGK gl base l k = k (unG gl l ++ base)
  | [], _ => rfl
  | (i, cs) :: l, k => by
    unfold unGK unG
    cases look gl i with
    | some v => exact unGK_eq gl base l k
    | none => exact unGK_eq gl base l _
def Mem.join (M M' : Mem) : Mem := { M.merge M' with bl := unG M.gl M'.bl ++ M.bl }
theorem join_sound {r r' : Nat → Option (Nat × Nat)} {M M' : Mem} {w w' : World} (hM : MR r M w) (hM' : MR r' M' w') (hs : Stp r M.own w r' M' w') :
    MR r' (M.join M') w' ∧ Stp r M w r' (M.join M') w' := by
  obtain ⟨h1, h2⟩ := merge_sound hM hM' hs
  have hgl : M'.gl = M.gl := hs.gl
  have e : ∀ i, look (M.join M').bl i = look (M.merge M').bl i := fun i => by
    simp only [Mem.join, Mem.merge, look_append, look_unG]
    cases h : look M.gl i with
    | none => rfl
    | some cs =>
      obtain ⟨_, h5, _⟩ := hM'.glob i cs (by rw [hgl]; exact h)
      obtain ⟨_, h6, _⟩ := hM.glob i cs h
      rw [h5, h6]; rfl
  refine ⟨⟨?_, ?_, h1.bound, ?_, h1.obj, h1.injO⟩, ⟨h2.ext, h2.lo, h2.next, ?_, h2.os, h2.tape, h2.output, h2.size, h2.keep, ?_, h2.gl, h2.ancO⟩⟩
  · intro i cs h; exact h1.blk i cs (by rw [← e]; exact h)
  · intro i j cs ds g h q1 q2; exact h1.inj i j cs ds g h (by rw [← e]; exact q1) (by rw [← e]; exact q2)
  · intro i cs h
    obtain ⟨a, b, c⟩ := h1.glob i cs h
    exact ⟨a, by rw [e]; exact b, c⟩
  · intro i cs h; exact h2.old i cs (by rw [← e]; exact h)
  · intro i cs g q h; exact h2.anc i cs g q (by rw [← e]; exact h)
def Mem.joinK {α : Type} (M M' : Mem) (k : Mem → α) : α := match M with
  | ⟨_, lo, bl, gl, ob⟩ => (match M' with
    | ⟨next, _, bl', _, ob'⟩ => forceN next fun next => unGK gl bl bl' fun b => k ⟨next, lo, b, gl, ob' ++ ob⟩)
theorem Mem.joinK_eq {α : Type} (M M' : Mem) (k : Mem → α) : M.joinK M' k = k (M.join M') := by
  obtain ⟨next, lo, bl, gl, ob⟩ := M
  obtain ⟨next', lo', bl', gl', ob'⟩ := M'
  simp [Mem.joinK, Mem.join, Mem.merge, forceN_eq, unGK_eq]
theorem drop_sound {r r' : Nat → Option (Nat × Nat)} {M M' : Mem} {w w' : World} (hM : MR r M w) (hM' : MR r' M' w') (hs : Stp r M.own w r' M' w') :
    MR r' { M with next := M'.next } w' ∧ Stp r M w r' { M with next := M'.next } w' := by
  have old : ∀ i cs, look M.bl i = some cs → ∃ g, r i = some g ∧ r' i = some g ∧ g.1 < w.heap.size := fun i cs hl => by
    obtain ⟨g, _, _, h1, _⟩ := hM.blk i cs hl
    exact ⟨g, h1, hs.ext _ _ h1, hM.lt hl h1⟩
  have oldO : ∀ i o, look M.ob i = some o → ∃ g, r i = some g ∧ r' i = some g ∧ g.1 < w.heap.size := fun i o hl => by
    obtain ⟨g, _, h1, _⟩ := hM.obj i o hl
    exact ⟨g, h1, hs.ext _ _ h1, hM.ltO hl h1⟩
  refine ⟨⟨?_, ?_, hM'.bound, fun i cs hl => ?_, ?_, ?_⟩, ⟨hs.ext, rfl, hs.next, fun _ cs hl _ => ⟨cs, hl⟩, hs.os, hs.tape, hs.output, hs.size, fun k hk _ _ => own_keep hM hs k hk, ?_, rfl, ?_⟩⟩
  · intro i cs hl
    obtain ⟨g, t, cc, h2, h3, h4, h5⟩ := hM.blk i cs hl
    refine ⟨g, t, cc, hs.ext _ _ h2, by rw [own_keep hM hs g.1 (hM.lt hl h2)]; exact h3, h4, fun j v hv => ?_⟩
    obtain ⟨v', h6, h7⟩ := h5 j v hv
    exact ⟨v', h6, h7.mono hs.ext⟩
  · intro i j cs ds g h hl1 hl2 hr1 hr2 hh
    obtain ⟨g1, q1, q2, q3⟩ := old i cs hl1
    rw [hr1] at q2; cases q2
    obtain ⟨g2, p1, p2, p3⟩ := old j ds hl2
    rw [hr2] at p2; cases p2
    exact hM.inj i j cs ds _ _ hl1 hl2 q1 p1 hh
  · obtain ⟨h1, h2, ⟨s, h3⟩, h4⟩ := hM.glob i cs hl
    exact ⟨h1, h2, ⟨s, hs.ext _ _ h3⟩, h4⟩
  · intro i o hl
    obtain ⟨g, x, h2, h3, h4⟩ := hM.obj i o hl
    exact ⟨g, x, hs.ext _ _ h2, by rw [own_keep hM hs g.1 (hM.ltO hl h2)]; exact h3, h4.mono hs.ext⟩
  · intro i j o p g h hl1 hl2 hr1 hr2 hh
    obtain ⟨g1, q1, q2, q3⟩ := oldO i o hl1
    rw [hr1] at q2; cases q2
    obtain ⟨g2, p1, p2, p3⟩ := oldO j p hl2
    rw [hr2] at p2; cases p2
    exact hM.injO i j o p _ _ hl1 hl2 q1 p1 hh
  · intro i cs g hlo hl hi hg
    obtain ⟨g0, q1, q2, q3⟩ := old i cs hl
    rw [hi] at q2; cases q2
    exact ⟨i, cs, _, hlo, hl, q1, rfl⟩
  · intro i o g hl hi hg
    obtain ⟨g0, q1, q2, q3⟩ := oldO i o hl
    rw [hi] at q2; cases q2
    exact ⟨i, o, _, hl, q1, rfl⟩

/-! ### Deferred calls and marks. -/
def DR (r : Nat → Option (Nat × Nat)) : List ADf → List Deferred → Prop
  | [], [] => True
  | .mark i :: ds, d :: es => (∃ g, r i = some g ∧ d = { target := .collected g.1, args := #[] }) ∧ DR r ds es
  | .call f xs :: ds, d :: es => (∃ as cap, d = { target := .fn (.func f) cap, args := as } ∧ LR r xs (as.toList ++ cap.toList)) ∧ DR r ds es
  | _, _ => False
theorem DR.mono {r r' : Nat → Option (Nat × Nat)} (hr : ∀ i g, r i = some g → r' i = some g) : ∀ {ds : List ADf} {es : List Deferred}, DR r ds es → DR r' ds es
  | [], [], _ => trivial
  | .mark _ :: _, _ :: _, ⟨⟨g, h1, h2⟩, h3⟩ => ⟨⟨g, hr _ _ h1, h2⟩, DR.mono hr h3⟩
  | .call _ _ :: _, _ :: _, ⟨⟨as, cap, h1, h2⟩, h3⟩ => ⟨⟨as, cap, h1, h2.mono hr⟩, DR.mono hr h3⟩

/-- The wide fence, in a round or not. -/
def FR (ro : Option Nat) : Fence := { Fence.wide with round := ro }
theorem FR_none : FR none = Fence.wide := rfl
theorem FR_round (ro : Option Nat) (l : Nat) : (FR ro).inRound l = FR (some l) := rfl

def SoundAt (P : Program) (G : List (Nat × List Value)) (c : Code) (env : Env) (M : Mem) (e : Exit) (env' : Env) (M' : Mem) : Prop :=
  env'.rd = env.rd ∧ env'.gs = env.gs ∧ ∀ (ro : Option Nat) (r : Nat → Option (Nat × Nat)) (a : Act) (w : World), (ro.isSome = true → env.rd = true) → ER r env a.tmps → DR r env.ds a.defers → MR r M w → M.gl = G →
    c.wpIn (FR ro) 0 P (fun e' a' w' => e' = e ∧ ∃ r', EX e r' env' a'.tmps ∧ DR r' env'.ds a'.defers ∧ MR r' M' w' ∧ Stp r M w r' M' w') a w
def SelfOk (P : Program) (G : List (Nat × List Value)) (self : Self) : Prop := ∀ c env M e env' M', self c env M = some (e, env', M') → SoundAt P G c env M e env' M'

inductive CR where
  | ret (v : Value) (M : Mem)
  | pan (ch : List PanicEntry) (M : Mem)
/-- What a call is to give. -/
def Gives (r : Nat → Option (Nat × Nat)) (M : Mem) (w : World) : CR → Ending → World → Prop
  | .ret v M', e, w' => ∃ v' r', e = .returned v' ∧ VR r' v v' ∧ MR r' M' w' ∧ Stp r M w r' M' w'
  | .pan ch M', e, w' => e = .panicked ch ∧ ∃ r', MR r' M' w' ∧ Stp r M w r' M' w'
theorem Gives.trans {r r2 : Nat → Option (Nat × Nat)} {M M2 : Mem} {w w2 w' : World} {c : CR} {e : Ending} (hs : Stp r M w r2 M2 w2) (h : Gives r2 M2 w2 c e w') : Gives r M w c e w' := by
  cases c with
  | ret v M' => obtain ⟨v', r', h1, h2, h3, h4⟩ := h; exact ⟨v', r', h1, h2, h3, hs.trans h4⟩
  | pan ch M' => obtain ⟨h1, r', h3, h4⟩ := h; exact ⟨h1, r', h3, hs.trans h4⟩

def isRecover (o : Oper) : Bool := match o.op with
  | .call c => match c.callee with
    | .builtin .recover => true
    | _ => false
  | _ => false
/-- A region in a deferred function: recover may be called. -/
def opsS (P : Program) (ops : Array Oper) : List Nat → Env → Mem → FrameMode → Option (Env × Mem × FrameMode)
  | [], env, M, u => some (env, M, u)
  | i :: rest, env, M, u => match ops[i]? with
    | none => opsS P ops rest env M u
    | some o => bif wantedA ops env o then (bif isRecover o then match u with
          | .panicking ({ v, recovered := false, goexit := false } :: older) => bif af 4 v then opsS P ops rest (putA env o.dst v) M (.panicking ({ v, recovered := true } :: older)) else none
          | .returning => opsS P ops rest (putA env o.dst .nilIface) M .returning
          | _ => none
        else match opT P env M o with
          | some (v, M') => opsS P ops rest (putA env o.dst v) M' u
          | none => none)
      else opsS P ops rest (putA env o.dst Go.undef) M u
theorem recover_run {P : Program} {o : Oper} {ρ : Operand → Value} (w : World) (h : isRecover o = true) : (execOp ρ o).run P w = .ok .recover w := by
  obtain ⟨dst, op, ty, pos, after, guard⟩ := o
  unfold isRecover at h
  split at h
  case h_2 => cases h
  rename_i c hop
  simp only at hop
  subst hop
  obtain ⟨callee, args, argTypes⟩ := c
  split at h
  case h_2 => cases h
  rename_i hc
  simp only at hc
  subst hc
  simp [execOp, resolve, invoke, builtin]
theorem opsS_sound {P : Program} {ops : Array Oper} {Q : Exit → Act → List Frame → World → Prop} {c₀ : Frame} {cs : List Frame} : ∀ {l : List Nat} {env env' : Env} {M M' : Mem} {u u' : FrameMode} {r : Nat → Option (Nat × Nat)} {a : Act} {w : World},
    opsS P ops l env M u = some (env', M', u') → ER r env a.tmps → DR r env.ds a.defers → MR r M w →
    (env'.rd = env.rd → env'.gs = env.gs → ∀ r' a' w', ER r' env' a'.tmps → DR r' env'.ds a'.defers → MR r' M' w' → Stp r M w r' M' w' → Q .normal a' ({ c₀ with mode := u' } :: cs) w') → wpOpsSIn (FR none) 0 P ops Q l a ({ c₀ with mode := u } :: cs) w
  | [], env, env', M, M', u, u', r, a, w, h, he, hd, hM, hQ => by cases h; exact hQ rfl rfl r a w he hd hM (.refl _ _ _)
  | i :: l, env, env', M, M', u, u', r, a, w, h, he, hd, hM, hQ => by
    simp only [opsS] at h
    unfold wpOpsSIn
    cases ho : ops[i]? with
    | none => rw [ho] at h; exact opsS_sound h he hd hM hQ
    | some o =>
      rw [ho] at h
      simp only at h ⊢
      refine ⟨fun _ _ => trivial, ?_⟩
      rw [wantedA_eq ops he o]
      cases hw : wantedA ops env o with
      | false =>
        rw [hw] at h
        simp only [cond_false] at h
        rw [if_neg (by simp)]
        exact opsS_sound h (putA_rel he o.dst (.undef r)) (by rw [put_defers, putA_ds]; exact hd) hM fun h1 h2 => hQ (by rw [h1, putA_rd]) (by rw [h2, putA_gs])
      | true =>
        rw [hw] at h
        simp only [cond_true] at h
        rw [if_pos rfl]
        cases hr : isRecover o with
        | true =>
          rw [hr] at h
          simp only [cond_true] at h
          rw [recover_run w hr]
          simp only
          split at h
          · rename_i v older
            cases ha : af 4 v with
            | false => rw [ha] at h; cases h
            | true =>
              rw [ha] at h
              simp only [cond_true] at h
              exact opsS_sound (c₀ := c₀) h (putA_rel he o.dst (.same 4 _ ha)) (by rw [put_defers, putA_ds]; exact hd) hM fun h1 h2 => hQ (by rw [h1, putA_rd]) (by rw [h2, putA_gs])
          · exact opsS_sound (c₀ := c₀) h (putA_rel he o.dst (.same 1 _ rfl)) (by rw [put_defers, putA_ds]; exact hd) hM fun h1 h2 => hQ (by rw [h1, putA_rd]) (by rw [h2, putA_gs])
          · cases h
        | false =>
          rw [hr] at h
          simp only [cond_false] at h
          cases hc : opT P env M o with
          | none => rw [hc] at h; cases h
          | some q =>
            obtain ⟨v, M2⟩ := q
            rw [hc] at h
            simp only at h
            obtain ⟨r', v', w', hout⟩ := opT_sound hc he hM
            have go : wpOpsSIn (FR none) 0 P ops Q l (a.put o.dst v') ({ c₀ with mode := u } :: cs) w' :=
              opsS_sound h (putA_rel (he.mono hout.stp.ext) o.dst hout.val) (by rw [put_defers, putA_ds]; exact hd.mono hout.stp.ext) hout.mem fun h1 h2 r'' a'' w'' k1 k2 k3 k4 => hQ (by rw [h1, putA_rd]) (by rw [h2, putA_gs]) r'' a'' w'' k1 k2 k3 (hout.stp.trans k4)
            rcases hout.run with h1 | ⟨h1, h2⟩
            · rw [h1]; exact go
            · rw [h1]; subst h2; exact go
end Ev
end Go.Proofs.YtccjmmdppjialaaGreatDoor
