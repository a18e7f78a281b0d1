/- The evaluator, L: regions, rounds, ranges over functions, code; and what it is all for: a call whose arguments have no addresses gives what the evaluator says, and leaves what was there as it was. -/
import Derived.Test.YtccjmmdppjialaaGreatDoorEvK
namespace Go.Proofs.YtccjmmdppjialaaGreatDoor
open Go.RowKit
namespace Ev

/-! ### A region that draws its order. -/
/-- The blocks that stores and appends go to. -/
def targetA (env : Env) (o : Oper) : Option Nat := match o.op with
  | .store _ x _ => match ev env x with
    | some (.pointer (some a)) => some a.block
    | _ => none
  | .call c => (match c.callee with
    | .builtin .append => (match c.args.toList with
      | x :: _ => (match ev env x with
        | some (.slice (some a) _ _) => some a.block
        | _ => none)
      | [] => none)
    | _ => none)
  | _ => none
def storesTo (env : Env) : List Oper → List Nat
  | [] => []
  | o :: rest => match targetA env o with
    | some b => b :: storesTo env rest
    | none => storesTo env rest
def killAll (bl : List (Nat × List Value)) : List Nat → List (Nat × List Value)
  | [] => bl
  | b :: rest => killAll (kill bl b) rest
def onlyStores : List Oper → List Oper
  | [] => []
  | o :: r => match o.op with
    | .store .. => o :: onlyStores r
    | .call c => (match c.callee with
      | .builtin .append => o :: onlyStores r
      | _ => onlyStores r)
    | _ => onlyStores r
/-- What is simply yielded, all blocks as they are: for the addresses. -/
def dryE (P : Program) (ops : Array Oper) (St : List (Nat × List Value)) : Nat → List Ent → Env → Env
  | 0, _, env => env
  | n + 1, rem, env => match takeE P ops St env (cands ops rem rem) with
    | some (i, d, v) => forceD 4 v fun v => putK env d v fun env => dryE P ops St n (next i rem) env
    | none => env
theorem killAll_sub : ∀ (bs : List Nat) (bl : List (Nat × List Value)) (i : Nat) (cs : List Value), look (killAll bl bs) i = some cs → look bl i = some cs
  | [], _, _, _, h => h
  | b :: bs, bl, i, cs, h => by
    have h1 := killAll_sub bs (kill bl b) i cs h
    rw [look_kill] at h1
    split at h1
    · cases h1
    · exact h1
def onlyLoads : List Oper → List Oper
  | [] => []
  | o :: r => match o.op with
    | .load .. => o :: onlyLoads r
    | _ => onlyLoads r
def loadsFrom (env : Env) : List Oper → List Nat
  | [] => []
  | o :: rest => match o.op with
    | .load _ x => (match ev env x with
      | some (.pointer (some a)) => forceN a.block fun b => b :: loadsFrom env rest
      | _ => loadsFrom env rest)
    | _ => loadsFrom env rest
/-- The blocks that a region's loads may take as they are: those loaded from which nothing is stored or appended to. -/
def stayE (P : Program) (ops : Array Oper) (env : Env) (M : Mem) : List (Nat × List Value) := match onlyStores ops.toList with
  | [] => M.bl
  | ss => match dryE P ops M.bl ops.size (ents ops) env with
    | ⟨n, t, gs, ds, rd⟩ => killAll (sel (fun i => memN i (loadsFrom ⟨n, t, gs, ds, rd⟩ (onlyLoads ops.toList))) M.bl) (storesTo ⟨n, t, gs, ds, rd⟩ ss)
theorem stayE_sub {P : Program} {ops : Array Oper} {env : Env} {M : Mem} (i : Nat) (cs : List Value) (h : look (stayE P ops env M) i = some cs) : look M.bl i = some cs := by
  unfold stayE at h
  split at h
  · exact h
  · exact (look_sel_some (killAll_sub _ _ i cs h)).2
def isDefer (o : Oper) : Bool := match o.op with
  | .defer _ => true
  | _ => false
theorem not_defer {o : Oper} (h : isDefer o = false) : ∀ c, o.op ≠ .defer c := fun c e => by
  unfold isDefer at h
  rw [e] at h
  cases h
def Env.bareK {α : Type} (env : Env) (k : Env → α) : α := match env with
  | ⟨n, t, gs, _, rd⟩ => k ⟨n, t, gs, [], rd⟩
theorem Env.bareK_eq {α : Type} (env : Env) (k : Env → α) : env.bareK k = k { env with ds := [] } := rfl
def Env.backK {α : Type} (env e : Env) (k : Env → α) : α := match env with
  | ⟨_, _, gs, ds, rd⟩ => match e with
    | ⟨n, t, _, _, _⟩ => k ⟨n, t, gs, ds, rd⟩
theorem Env.backK_eq {α : Type} (env e : Env) (k : Env → α) : env.backK e k = k { e with ds := env.ds, gs := env.gs, rd := env.rd } := rfl
/-! ### Rounds. -/
def deferA (env : Env) (o : Oper) : Option ADf := match o.op with
  | .defer c => match c.callee with
    | .value fo => match ev env fo with
      | some (.func (.func f) first captured) => match evs env c.args.toList with
        | some xs => some (.call f (first.toList ++ xs ++ captured.toList))
        | none => none
      | _ => none
    | _ => none
  | _ => none
theorem defer_sound {P : Program} {env : Env} {o : Oper} {d : ADf} {r : Nat → Option (Nat × Nat)} {a : Act} (w : World) (h : deferA env o = some d) (he : ER r env a.tmps) {es : List Deferred} (hd : DR r env.ds es) :
    ∃ x, (execOp a.eval o).run P w = .ok (.defer x) w ∧ DR r (d :: env.ds) (x :: es) := by
  obtain ⟨dst, op, ty, pos, after, guard⟩ := o
  unfold deferA at h
  split at h
  case h_2 => cases h
  rename_i c hop
  simp only at hop
  subst hop
  obtain ⟨callee, args, argTypes⟩ := c
  simp only at h
  split at h
  case h_2 => cases h
  rename_i fo
  split at h
  case h_2 => cases h
  rename_i f first captured h0
  split at h
  case h_2 => cases h
  rename_i xs h1
  cases h
  obtain ⟨ys, vs, hv, e1, e2⟩ := (ev_sound he h0).of_func rfl
  have e3 := evs_sound he h1
  refine ⟨{ target := .fn (.func f) vs, args := ys ++ args.map a.eval }, by simp [execOp, resolve, Deferred.ofValue, hv], ⟨_, _, rfl, ?_⟩, hd⟩
  simp only [Array.toList_append, Array.toList_map]
  exact (e1.append e3).append e2
def yieldA (env : Env) (o : Oper) : Option (Nat × List Value) := match o.op with
  | .call c => match c.callee with
    | .value fo => match ev env fo with
      | some (.func (.yield i) _ _) => match evs env c.args.toList with
        | some xs => some (i, xs)
        | none => none
      | _ => none
    | _ => none
  | _ => none
theorem yieldA_sound {P : Program} {env : Env} {o : Oper} {i : Nat} {xs : List Value} {r : Nat → Option (Nat × Nat)} {a : Act} (h : yieldA env o = some (i, xs)) (he : ER r env a.tmps) :
    ∃ g ys, r i = some g ∧ LR r xs ys ∧ ∀ w, (execOp a.eval o).run P w = (Instr.yield g.1 ys.toArray).run P w := by
  obtain ⟨dst, op, ty, pos, after, guard⟩ := o
  unfold yieldA at h
  split at h
  case h_2 => cases h
  rename_i c hop
  simp only at hop
  subst hop
  obtain ⟨callee, args, argTypes⟩ := c
  simp only at h
  split at h
  case h_2 => cases h
  rename_i fo
  split at h
  case h_2 => cases h
  rename_i i' u1 u2 h0
  split at h
  case h_2 => cases h
  rename_i xs' h1
  cases h
  obtain ⟨g, hg, hv⟩ := (ev_sound he h0).of_yield
  have e3 := evs_sound he h1
  refine ⟨g, args.toList.map a.eval, hg, e3, fun w => ?_⟩
  have : (args.toList.map a.eval).toArray = args.map a.eval := by rw [← Array.toList_map]
  rw [this]
  simp [execOp, resolve, Deferred.ofValue, hv, invoke]
def setPs : List Tmp → List Value → Env → Env
  | t :: ps, x :: xs, env => setPs ps xs (env.set t x)
  | _, _, env => env
theorem setPs_keep : ∀ (ps : List Tmp) (xs : List Value) (env : Env), (setPs ps xs env).rd = env.rd ∧ (setPs ps xs env).ds = env.ds
  | [], _, _ => ⟨rfl, rfl⟩
  | _ :: _, [], _ => ⟨rfl, rfl⟩
  | t :: ps, x :: xs, env => by
    obtain ⟨h1, h2⟩ := setPs_keep ps xs (env.set t x)
    exact ⟨h1.trans (Env.set_rd ..), h2.trans (Env.set_ds ..)⟩
theorem setPs_rel {r : Nat → Option (Nat × Nat)} : ∀ {ps : List Tmp} {xs ys : List Value} {env : Env} {tmps : Array Value}, ER r env tmps → LR r xs ys → ER r (setPs ps xs env) ((ps.zip ys).foldl (fun tmps p => tmps.setIfInBounds p.1 p.2) tmps)
  | [], _, _, _, _, h, _ => h
  | _ :: _, [], [], _, _, h, _ => h
  | t :: ps, x :: xs, y :: ys, env, tmps, h, hl => by
    simp only [setPs, List.zip_cons_cons, List.foldl_cons]
    exact setPs_rel (h.set t hl.head) hl.tail
  | _ :: _, [], _ :: _, _, _, _, hl => absurd hl.1 (by simp)
  | _ :: _, _ :: _, [], _, _, _, hl => absurd hl.1 (by simp)

def setPsK {α : Type} : List Tmp → List Value → Env → (Env → α) → α
  | t :: ps, x :: xs, env, k => env.setK t x fun env => setPsK ps xs env k
  | _, _, env, k => k env
theorem setPsK_eq {α : Type} : ∀ (ps : List Tmp) (xs : List Value) (env : Env) (k : Env → α), setPsK ps xs env k = k (setPs ps xs env)
  | [], _, _, _ => rfl
  | _ :: _, [], _, _ => rfl
  | t :: ps, x :: xs, env, k => by simp only [setPsK, setPs, Env.setK_eq, setPsK_eq ps xs]
def updK {α β : Type} : List (Nat × β) → Nat → β → (List (Nat × β) → α) → α
  | [], _, _, k => k []
  | (j, y) :: rest, i, x, k => bif Nat.beq j i then k ((j, x) :: rest) else updK rest i x fun rest => k ((j, y) :: rest)
theorem updK_eq {α β : Type} : ∀ (l : List (Nat × β)) (i : Nat) (x : β) (k : List (Nat × β) → α), updK l i x k = k (upd l i x)
  | [], _, _, _ => rfl
  | (j, y) :: rest, i, x, k => by
    simp only [updK, upd]
    cases Nat.beq j i with
    | true => rfl
    | false => simp only [cond_false, updK_eq rest]
/-- The memory with one of its objects changed. -/
def Mem.putK {α : Type} (M : Mem) (i : Nat) (o : AOb) (k : Mem → α) : α := match M with
  | ⟨next, lo, bl, gl, ob⟩ => updK ob i o fun ob => k ⟨next, lo, bl, gl, ob⟩
theorem Mem.putK_eq {α : Type} (M : Mem) (i : Nat) (o : AOb) (k : Mem → α) : M.putK i o k = k { M with ob := upd M.ob i o } := by
  obtain ⟨next, lo, bl, gl, ob⟩ := M
  simp only [Mem.putK, updK_eq]
def Env.freshK {α : Type} (env : Env) (k : Env → α) : α := match env with
  | ⟨n, t, gs, _, _⟩ => k ⟨n, t, gs, [], true⟩
theorem Env.freshK_eq {α : Type} (env : Env) (k : Env → α) : env.freshK k = k { env with ds := [], rd := true } := rfl
def Env.markK {α : Type} (env : Env) (d : ADf) (k : Env → α) : α := match env with
  | ⟨n, t, gs, ds, rd⟩ => k ⟨n, t, gs, d :: ds, rd⟩
theorem Env.markK_eq {α : Type} (env : Env) (d : ADf) (k : Env → α) : env.markK d k = k { env with ds := d :: env.ds } := rfl
def Mem.openK {α : Type} (M : Mem) (o : AOb) (k : Nat → Nat → Mem → α) : α := match M with
  | ⟨next, lo, bl, gl, ob⟩ => forceN (64 * next) fun d => forceN (64 * (next + 1)) fun l => forceN (next + 1 + 1) fun n => k d l ⟨n, lo, bl, gl, (l, o) :: (d, .defd) :: ob⟩
theorem Mem.openK_eq {α : Type} (M : Mem) (o : AOb) (k : Nat → Nat → Mem → α) : M.openK o k = k (64 * M.next) (64 * (M.next + 1)) { M with next := M.next + 1 + 1, ob := (64 * (M.next + 1), o) :: (64 * M.next, .defd) :: M.ob } := by
  obtain ⟨next, lo, bl, gl, ob⟩ := M
  simp only [Mem.openK, forceN_eq]
def killK {α β : Type} : List (Nat × β) → Nat → (List (Nat × β) → α) → α
  | [], _, k => k []
  | (j, y) :: rest, i, k => bif Nat.beq j i then killK rest i k else killK rest i fun rest => k ((j, y) :: rest)
theorem killK_eq {α β : Type} : ∀ (l : List (Nat × β)) (i : Nat) (k : List (Nat × β) → α), killK l i k = k (kill l i)
  | [], _, _ => rfl
  | (j, y) :: rest, i, k => by
    simp only [killK, kill]
    cases Nat.beq j i with
    | true => simp only [cond_true, killK_eq rest]
    | false => simp only [cond_false, killK_eq rest]
def Mem.killK {α : Type} (M : Mem) (i : Nat) (k : Mem → α) : α := match M with
  | ⟨next, lo, bl, gl, ob⟩ => Ev.killK ob i fun ob => k ⟨next, lo, bl, gl, ob⟩
theorem Mem.killK_eq {α : Type} (M : Mem) (i : Nat) (k : Mem → α) : M.killK i k = k { M with ob := kill M.ob i } := by
  obtain ⟨next, lo, bl, gl, ob⟩ := M
  simp only [Mem.killK, Ev.killK_eq]

def roundE (self : Self) (M : Mem) (i : Nat) (xs : List Value) : Option CR := match look M.ob i with
  | some (.loop .ready none env ps as bd) => bif Nat.beq xs.length ps.length then env.freshK fun env => forceVs (forceD 4) xs fun xs => setPsK ps xs env fun env => match self as env M with
    | some (.normal, env1, M1) => match look M1.ob i with
      | some (.loop .ready none env' ps' as' bd') => M1.putK i (.loop .busy none env' ps' as' bd') fun M1 => match self bd env1 M1 with
        | some (x, _, M2) => match look M2.ob i with
          | some (.loop _ _ env'' ps'' as'' bd'') => match x with
            | .normal => M2.putK i (.loop .ready none env'' ps'' as'' bd'') fun M2 => some (.ret (.bool true) M2)
            | .ret => M2.putK i (.loop .done (some .ret) env'' ps'' as'' bd'') fun M2 => some (.ret (.bool false) M2)
            | .exit id => M2.putK i (.loop .done (some (.exit id)) env'' ps'' as'' bd'') fun M2 => some (.ret (.bool false) M2)
            | _ => none
          | _ => none
        | none => none
      | _ => none
    | _ => none
    else none
  | _ => none
theorem put_sound {r : Nat → Option (Nat × Nat)} {M : Mem} {w : World} (hM : MR r M w) {i : Nat} {o p : AOb} {g : Nat × Nat} (h : Obj) (hl : look M.ob i = some o) (hi : r i = some g) (hp : OB r p h) :
    MR r { M with ob := upd M.ob i p } (w.putObj g.1 h) ∧ Stp r M w r { M with ob := upd M.ob i p } (w.putObj g.1 h) :=
  setO_sound hM hl hi hp (World.putObj_heap_same (hM.ltO hl hi)) (fun _ hk => World.putObj_heap_other hk) World.putObj_size rfl rfl rfl
theorem round_sound {P : Program} {G : List (Nat × List Value)} {self : Self} (hself : SelfOk P G self) {env : Env} {M : Mem} {o : Oper} {i : Nat} {xs : List Value} {c : CR} {r : Nat → Option (Nat × Nat)} {a : Act} {w : World} (ro : Option Nat)
    (hnd : ∀ c, o.op ≠ .defer c) (hy : yieldA env o = some (i, xs)) (h : roundE self M i xs = some c) (he : ER r env a.tmps) (hM : MR r M w) (hG : M.gl = G) {K : Act → World → Prop} {Q : Exit → Act → World → Prop}
    (hK : ∀ v M' r' v' w', c = .ret v M' → VR r' v v' → MR r' M' w' → Stp r M w r' M' w' → K (a.put o.dst v') w') (hP : ∀ ch M' r' w', c = .pan ch M' → MR r' M' w' → Stp r M w r' M' w' → Q (.panic ch) a w') : o.wpIn (FR ro) 0 P a w K Q := by
  obtain ⟨g, ys, hg, hl, hrun⟩ := yieldA_sound (P := P) hy he
  unfold roundE at h
  simp only [Env.freshK_eq, forceVs_eq (forceD_eq 4), setPsK_eq, Mem.putK_eq] at h
  split at h
  case h_2 => cases h
  rename_i env0 ps as bd hlk
  cases hlen : Nat.beq xs.length ps.length with
  | false => rw [hlen] at h; cases h
  | true =>
    rw [hlen] at h
    simp only [cond_true] at h
    obtain ⟨g', ob, k1, k2, k3⟩ := hM.obj _ _ hlk
    rw [hg] at k1; cases k1
    obtain ⟨fn, tmps, dl, rfl, he0⟩ := k3
    split at h
    case h_2 => cases h
    rename_i env1 M1 hs1
    split at h
    case h_2 => cases h
    rename_i env' ps' as' bd' hlk1
    split at h
    case h_2 => cases h
    rename_i x env2 M2 hs2
    split at h
    case h_2 => cases h
    rename_i st pd env'' ps'' as'' bd'' hlk2
    refine ⟨fun _ _ => trivial, ?_⟩
    have hsz : ys.toArray.size = ps.toArray.size := by
      have := Nat.eq_of_beq_eq_true hlen
      have := hl.1
      simp; omega
    rw [Oper.semAt_eq _ _ _ hnd, hrun, run_yield k2 hsz]
    refine ⟨fun hn => (by cases hn), roundIn_of_wpIn (F := FR ro) trivial ?_⟩
    -- the assignment
    obtain ⟨b1, _, b3⟩ := hself _ _ _ _ _ _ hs1
    have hk0 := setPs_keep ps xs { env0 with ds := [], rd := true }
    have her : ER r (setPs ps xs { env0 with ds := [], rd := true }) ((ps.toArray.zip ys.toArray).foldl (fun tmps (t, a) => tmps.setIfInBounds t a) tmps) := by
      have := setPs_rel (ps := ps) (xs := xs) (ys := ys) (env := { env0 with ds := [], rd := true }) (tmps := tmps) ⟨he0.1, he0.2, he0.3⟩ hl
      simpa using this
    refine wpIn_mono (b3 (some g.1) r { tmps := (ps.toArray.zip ys.toArray).foldl (fun tmps (t, a) => tmps.setIfInBounds t a) tmps, defers := [] } w (fun _ => hk0.1) her (by rw [hk0.2]; trivial) hM hG) ?_
    rintro e1 a1 w1 ⟨rfl, r1, q1, q2, q3, q4⟩
    obtain ⟨g1, ob1, m1, m2, m3⟩ := q3.obj _ _ hlk1
    rw [q4.ext _ _ hg] at m1; cases m1
    obtain ⟨fn1, tmps1, dl1, rfl, he1⟩ := m3
    obtain ⟨n1, n2⟩ := put_sound q3 (.loop { state := .busy, pending := none, fn := fn1, tmps := tmps1, params := ps'.toArray, assign := as', body := bd', defers := dl1 }) hlk1 (q4.ext _ _ hg) (p := .loop .busy none env' ps' as' bd') ⟨fn1, tmps1, dl1, rfl, he1⟩
    refine ⟨_, run_beginRound m2 rfl, ?_⟩
    -- the body
    obtain ⟨c1, _, c3⟩ := hself _ _ _ _ _ _ hs2
    refine wpIn_mono (c3 (some g.1) r1 a1 _ (fun _ => b1.trans hk0.1) q1 q2 n1 (q4.gl.trans hG)) ?_
    rintro e2 a2 w2 ⟨rfl, r2, p1, p2, p3, p4⟩
    have hgg : r2 i = some g := p4.ext _ _ (q4.ext _ _ hg)
    obtain ⟨g2, ob2, t1, t2, t3⟩ := p3.obj _ _ hlk2
    rw [hgg] at t1; cases t1
    obtain ⟨fn2, tmps2, dl2, rfl, he2⟩ := t3
    have fin : ∀ (jump : Option Code) (b : Bool), jump.isNone = b → c = .ret (.bool b) { M2 with ob := upd M2.ob i (.loop (if b then .ready else .done) jump env'' ps'' as'' bd'') } →
        ∃ v2 w3, (Instr.endRound g.1 jump).run P w2 = .ok v2 w3 ∧ K (a.put o.dst v2) w3 := fun jump b hj hv => by
      have hr := run_endRound (P := P) jump t2
      rw [hj] at hr
      obtain ⟨s1, s2⟩ := put_sound p3 (.loop { state := if b then .ready else .done, pending := jump, fn := fn2, tmps := tmps2, params := ps''.toArray, assign := as'', body := bd'', defers := dl2 }) hlk2 hgg (p := .loop (if b then .ready else .done) jump env'' ps'' as'' bd'') ⟨fn2, tmps2, dl2, rfl, he2⟩
      exact ⟨_, _, hr, hK _ _ r2 _ _ hv (.of_bool r2 b) s1 ((q4.trans n2).trans (p4.trans s2))⟩
    cases e2 with
    | normal => cases h; exact fin none true rfl rfl
    | ret => cases h; exact fin (some .ret) false rfl rfl
    | exit id => cases h; exact fin (some (.exit id)) false rfl rfl
    | _ => cases h

/-- Not in a round. -/
def out (env : Env) (q : Rs) : Rs := bif env.rd then none else q
theorem out_some {env : Env} {q : Rs} {x : Exit × Env × Mem} (h : out env q = some x) : env.rd = false ∧ q = some x := by
  unfold out at h
  generalize env.rd = b at h
  cases b with
  | true => cases h
  | false => exact ⟨rfl, h⟩

/-! ### A region in the order of the text. -/
def opsE (P : Program) (T : Tab) (self : Self) (ops : Array Oper) : List Oper → Env → Mem → Rs
  | [], env, M => some (.normal, env, M)
  | o :: rest, env, M => bif wantedA ops env o then (bif isDefer o then out env (match deferA env o with
        | some d => opsE P T self ops rest (putA { env with ds := d :: env.ds } o.dst Go.undef) M
        | none => none)
      else match yieldA env o with
        | some (i, xs) => match roundE self M i xs with
          | some (.ret v M') => forceM M' fun M' => putK env o.dst v fun env' => opsE P T self ops rest env' M'
          | some (.pan ch M') => some (.panic ch, env, M')
          | none => none
        | none => match opE P T self env M o with
          | some (.ret v M') => forceD 4 v fun v => forceM M' fun M' => putK env o.dst v fun env' => opsE P T self ops rest env' M'
          | some (.pan ch M') => some (.panic ch, env, M')
          | none => none)
    else putK env o.dst Go.undef fun env' => opsE P T self ops rest env' M
theorem opsE_sound {P : Program} (hN : noRoutines P) {G : List (Nat × List Value)} {T : Tab} (hT : TOk P G T) {self : Self} (hself : SelfOk P G self) {ops : Array Oper} : ∀ {l : List Oper} {env env' : Env} {M M' : Mem} {e : Exit}, opsE P T self ops l env M = some (e, env', M') →
    env'.rd = env.rd ∧ env'.gs = env.gs ∧ ∀ (ro : Option Nat) (r : Nat → Option (Nat × Nat)) (a : Act) (w : World) (Q : Exit → Act → World → Prop), (ro.isSome = true → env.rd = true) → ER r env a.tmps → DR r env.ds a.defers → MR r M w → M.gl = G →
      (∀ r' a' w', ER r' env' a'.tmps → DR r' env'.ds a'.defers → MR r' M' w' → Stp r M w r' M' w' → Q e a' w') → wpListIn (FR ro) 0 P ops Q l a w
  | [], env, env', M, M', e, h => by
    cases h
    exact ⟨rfl, rfl, fun ro r a w Q _ he hd hM hG hQ => hQ r a w he hd hM (.refl _ _ _)⟩
  | o :: l, env, env', M, M', e, h => by
    simp only [opsE] at h
    cases hw : wantedA ops env o with
    | false =>
      rw [hw] at h
      simp only [cond_false, putK_eq] at h
      obtain ⟨h1, h2, h3⟩ := opsE_sound hN hT hself h
      refine ⟨by rw [h1, putA_rd], by rw [h2, putA_gs], fun ro r a w Q hro he hd hM hG hQ => ?_⟩
      unfold wpListIn
      rw [wantedA_eq ops he o, hw, if_neg (by simp)]
      exact ⟨fun _ _ => trivial, h3 ro r _ w Q (by rw [putA_rd]; exact hro) (putA_rel he o.dst (.undef r)) (by rw [put_defers, putA_ds]; exact hd) hM hG hQ⟩
    | true =>
      rw [hw] at h
      simp only [cond_true] at h
      cases hdf : isDefer o with
      | true =>
        rw [hdf] at h
        simp only [cond_true] at h
        obtain ⟨hrd, h⟩ := out_some h
        split at h
        case h_2 => cases h
        rename_i d hda
        obtain ⟨h1, h2, h3⟩ := opsE_sound hN hT hself h
        refine ⟨by rw [h1, putA_rd], by rw [h2, putA_gs], fun ro r a w Q hro he hd hM hG hQ => ?_⟩
        have hnone : ro = none := by
          cases ro with
          | none => rfl
          | some l => have := hro rfl; rw [hrd] at this; cases this
        subst hnone
        unfold wpListIn
        rw [wantedA_eq ops he o, hw, if_pos rfl]
        refine ⟨fun _ _ => trivial, ?_⟩
        obtain ⟨x, k1, k2⟩ := defer_sound (P := P) w hda he hd
        have hsem : (o.semAt (FR none).round a.eval).run P w = .ok (.defer x) w := k1
        rw [hsem]
        exact h3 none r ({ a with defers := x :: a.defers }.put o.dst Go.undef) w Q (fun hn => by cases hn) (putA_rel (a := { a with defers := x :: a.defers }) (env := { env with ds := d :: env.ds }) ⟨he.1, he.2, he.3⟩ o.dst (.undef r)) (by rw [put_defers, putA_ds]; exact k2) hM hG hQ
      | false =>
        rw [hdf] at h
        simp only [cond_false] at h
        cases hy : yieldA env o with
        | some q =>
          obtain ⟨i, xs⟩ := q
          rw [hy] at h
          simp only at h
          cases hr : roundE self M i xs with
          | none => rw [hr] at h; cases h
          | some c =>
           cases c with
           | pan ch M2 =>
            rw [hr] at h
            cases h
            refine ⟨rfl, rfl, fun ro r a w Q hro he hd hM hG hQ => ?_⟩
            unfold wpListIn
            rw [wantedA_eq ops he o, hw, if_pos rfl]
            refine round_sound hself ro (not_defer hdf) hy hr he hM hG (fun v M' r' v' w' e => by cases e) fun ch M' r' w' e hm hs => ?_
            cases e
            exact hQ r' a w' (he.mono hs.ext) (hd.mono hs.ext) hm hs
           | ret v M2 =>
            rw [hr] at h
            simp only [forceM_eq, putK_eq] at h
            obtain ⟨h1, h2, h3⟩ := opsE_sound hN hT hself h
            refine ⟨by rw [h1, putA_rd], by rw [h2, putA_gs], fun ro r a w Q hro he hd hM hG hQ => ?_⟩
            unfold wpListIn
            rw [wantedA_eq ops he o, hw, if_pos rfl]
            refine round_sound hself ro (not_defer hdf) hy hr he hM hG (fun v M' r' v' w' e hv hm hs => ?_) fun ch M' r' w' e => by cases e
            cases e
            exact h3 ro r' _ w' Q (by rw [putA_rd]; exact hro) (putA_rel (he.mono hs.ext) o.dst hv) (by rw [put_defers, putA_ds]; exact hd.mono hs.ext) hm (hs.gl.trans hG) fun r'' a'' w'' k1 k2 k3 k4 => hQ r'' a'' w'' k1 k2 k3 (hs.trans k4)
        | none =>
          rw [hy] at h
          simp only at h
          cases ho : opE P T self env M o with
          | none => rw [ho] at h; cases h
          | some c =>
            rw [ho] at h
            cases c with
            | ret v M2 =>
              simp only [forceD_eq, forceM_eq, putK_eq] at h
              obtain ⟨h1, h2, h3⟩ := opsE_sound hN hT hself h
              refine ⟨by rw [h1, putA_rd], by rw [h2, putA_gs], fun ro r a w Q hro he hd hM hG hQ => ?_⟩
              unfold wpListIn
              rw [wantedA_eq ops he o, hw, if_pos rfl]
              refine opE_soundIn hN hT hself ro ho (not_defer hdf) he hM hG (fun v M' r' v' w' e hv hm hs => ?_) fun ch M' r' w' e => by cases e
              cases e
              exact h3 ro r' _ w' Q (by rw [putA_rd]; exact hro) (putA_rel (he.mono hs.ext) o.dst hv) (by rw [put_defers, putA_ds]; exact hd.mono hs.ext) hm (hs.gl.trans hG) fun r'' a'' w'' k1 k2 k3 k4 => hQ r'' a'' w'' k1 k2 k3 (hs.trans k4)
            | pan ch M2 =>
              cases h
              refine ⟨rfl, rfl, fun ro r a w Q hro he hd hM hG hQ => ?_⟩
              unfold wpListIn
              rw [wantedA_eq ops he o, hw, if_pos rfl]
              refine opE_soundIn hN hT hself ro ho (not_defer hdf) he hM hG (fun v M' r' v' w' e => by cases e) fun ch M' r' w' e hm hs => ?_
              cases e
              exact hQ r' a w' (he.mono hs.ext) (hd.mono hs.ext) hm hs

/-! ### Where one operation must come: the rest of a region, in the only order that there is. -/
/-- What the region's operations leave is said to be anything. -/
def loseE : List Oper → Env → Env
  | [], env => env
  | o :: r, env => match o.dst with
    | some d => loseE r (env.lose d)
    | none => loseE r env
theorem loseE_keep : ∀ (l : List Oper) (env : Env), (loseE l env).n = env.n ∧ (loseE l env).gs = env.gs ∧ (loseE l env).ds = env.ds ∧ (loseE l env).rd = env.rd
  | [], _ => ⟨rfl, rfl, rfl, rfl⟩
  | o :: l, env => by
    unfold loseE
    cases o.dst with
    | none => exact loseE_keep l env
    | some d =>
      obtain ⟨h1, h2, h3, h4⟩ := loseE_keep l (env.lose d)
      exact ⟨by simp only; rw [h1, Env.lose_n], by simp only; rw [h2, Env.lose_gs], by simp only; rw [h3, Env.lose_ds], by simp only; rw [h4, Env.lose_rd]⟩
theorem loseE_rel {r : Nat → Option (Nat × Nat)} {tmps : Array Value} : ∀ (l : List Oper) {env : Env}, EW r env tmps → EW r (loseE l env) tmps
  | [], _, h => h
  | o :: l, env, h => by
    unfold loseE
    cases o.dst with
    | none => exact loseE_rel l h
    | some d => exact loseE_rel l (h.lose d)
theorem loseE_stay : ∀ (l : List Oper) {env : Env} {i : Nat}, isU (env.get i) = true → isU ((loseE l env).get i) = true
  | [], _, _, h => h
  | o :: l, env, i, h => by
    unfold loseE
    cases o.dst with
    | none => exact loseE_stay l h
    | some d =>
      refine loseE_stay l ?_
      rw [Env.lose_get]
      split
      · rfl
      · exact h
theorem loseE_at {o : Oper} {d : Nat} (hd : o.dst = some d) : ∀ (l : List Oper) (env : Env), o ∈ l → d < env.n → isU ((loseE l env).get d) = true := by
  intro l
  induction l with
  | nil => exact fun env h => by cases h
  | cons x l ih =>
    intro env hm hn
    unfold loseE
    by_cases hx : x = o
    · subst hx
      rw [hd]
      refine loseE_stay l ?_
      rw [Env.lose_get, if_pos ⟨rfl, hn⟩]
      rfl
    · have hm' : o ∈ l := by
        rcases List.mem_cons.1 hm with h | h
        · exact absurd h.symm hx
        · exact h
      cases x.dst with
      | none => exact ih env hm' hn
      | some e => exact ih _ hm' (by rw [Env.lose_n]; exact hn)
/-- Whether one of these has been taken already makes no difference. -/
theorem loseE_put {r : Nat → Option (Nat × Nat)} {l : List Oper} {env : Env} {o : Oper} (hm : o ∈ l) (a : Act) (v : Value) (h : EW r (loseE l env) (a.put o.dst v).tmps) : EW r (loseE l env) a.tmps := by
  cases hd : o.dst with
  | none => rw [hd] at h; exact h
  | some d =>
    rw [hd] at h
    have hsz : a.tmps.size = (loseE l env).n := by
      have := h.1
      simpa [Act.put] using this
    refine ⟨hsz, fun i => ?_, h.3⟩
    rcases Nat.lt_or_ge d env.n with hlt | hge
    · rcases Nat.decEq i d with hne | rfl
      · have := h.2 i
        simp only [Act.put, Array.getD_eq_getD_getElem?, Array.getElem?_setIfInBounds, if_neg (Ne.symm hne)] at this
        simpa [Array.getD_eq_getD_getElem?] using this
      · exact .inl (loseE_at hd l env hm hlt)
    · have := h.2 i
      have hout : a.tmps.size ≤ d := by rw [hsz, (loseE_keep l env).1]; exact hge
      have e : a.tmps.setIfInBounds d v = a.tmps := by
        apply Array.ext_getElem?
        intro j
        rw [Array.getElem?_setIfInBounds]
        split
        · rename_i q; subst q; first | exact (Array.getElem?_eq_none hout).symm | (rw [if_neg (by omega)]; exact (Array.getElem?_eq_none hout).symm)
        · rfl
      simp only [Act.put, e] at this
      exact this
/-- 'go': whether it may go on behind an operation that may have written anywhere. -/
def tailE (P : Program) (T : Tab) (self : Self) (ops : Array Oper) (go : Bool) : Nat → List Ent → Env → Mem → Rs
  | 0, rem, env, M => match readyL rem with
    | [] => some (.normal, env, M)
    | _ => none
  | n + 1, rem, env, M => match readyL rem with
    | [] => some (.normal, env, M)
    | [(i, o)] => bif wantedA ops env o then match yieldA env o with
        | some (l, xs) => (match roundE self M l xs with
          | some (.ret v M') => bif go then forceM M' fun M' => putK env o.dst v fun env' => tailE P T self ops go n (next i rem) env' M' else none
          | some (.pan ch M') => some (.panic ch, loseE ops.toList env, M')
          | none => none)
        | none => (match opE P T self env M o with
          | some (.ret v M') => bif go then forceD 4 v fun v => forceM M' fun M' => putK env o.dst v fun env' => tailE P T self ops go n (next i rem) env' M' else none
          | some (.pan ch M') => some (.panic ch, loseE ops.toList env, M')
          | none => none)
      else putK env o.dst Go.undef fun env' => tailE P T self ops go n (next i rem) env' M
    | _ => none
theorem tail_sound {P : Program} (hN : noRoutines P) {G : List (Nat × List Value)} {T : Tab} (hT : TOk P G T) {self : Self} (hself : SelfOk P G self) {ops : Array Oper} (hnd : NoDef ops) {go : Bool} (ro : Option Nat) {S : World → Prop} (hgo : go = true → ∀ w, S w) {Q : Exit → Act → World → Prop} :
    ∀ (n : Nat) {rem : List Ent} {env env' : Env} {M M' : Mem} {e : Exit}, tailE P T self ops go n rem env M = some (e, env', M') →
    ∀ (listed : Array Bool) (r : Nat → Option (Nat × Nat)) (a : Act) (w : World), RemOk ops listed rem → ER r env a.tmps → MR r M w → M.gl = G → S w →
      (∀ r' a' w', EX e r' env' a'.tmps → a'.defers = a.defers → MR r' M' w' → Stp r M w r' M' w' → Q e a' w') → anyS P ro ops Q S n listed a w := by
  intro n
  induction n with
  | zero =>
    intro rem env env' M M' e h listed r a w hR he hM hG hS hQ
    simp only [tailE] at h
    split at h
    case h_2 => cases h
    rename_i hr
    cases h
    exact anyS_end (hR.done hr) (hQ r a w (EX.of he) rfl hM (.refl _ _ _)) 0
  | succ n ih =>
    intro rem env env' M M' e h listed r a w hR he hM hG hS hQ
    simp only [tailE] at h
    split at h
    case h_3 => cases h
    · rename_i hr
      cases h
      exact anyS_end (hR.done hr) (hQ r a w (EX.of he) rfl hM (.refl _ _ _)) _
    · rename_i i o hr
      have hio : (i, o) ∈ readyL rem := by rw [hr]; exact List.mem_singleton.2 rfl
      obtain ⟨ho, hlist, _⟩ := hR.mem _ (mem_readyL.1 hio)
      simp only at ho hlist
      refine ⟨fun e => ?_, fun j hj => ?_⟩
      · have : i ∈ Region.ready .any ops listed := hR.ready.2 ⟨o, hio⟩
        rw [e] at this; cases this
      obtain ⟨o', hj'⟩ := hR.ready.1 hj
      rw [hr] at hj'
      cases List.mem_singleton.1 hj'
      unfold wpOpIn
      simp only [ho]
      rw [wantedA_eq ops he o]
      have on : ∀ (v : Value) (M2 : Mem), (bif go then tailE P T self ops go n (next i rem) (putA env o.dst v) M2 else none) = some (e, env', M') → ∀ r' v' w', VR r' v v' → MR r' M2 w' → Stp r M w r' M2 w' →
          S w' ∧ anyS P ro ops Q S n (listed.setIfInBounds i true) (a.put o.dst v') w' := fun v M2 hh r' v' w' hv hm hs => by
        cases go with
        | false => cases hh
        | true =>
          simp only [cond_true] at hh
          refine ⟨hgo rfl w', ih hh _ r' _ w' (hR.next hlist) (putA_rel (he.mono hs.ext) o.dst hv) hm (hs.gl.trans hG) (hgo rfl w') fun r2 a2 w2 k1 k2 k3 k4 => ?_⟩
          exact hQ r2 a2 w2 k1 (by rw [k2, put_defers]) k3 (hs.trans k4)
      cases hw : wantedA ops env o with
      | false =>
        rw [hw] at h
        simp only [cond_false, putK_eq] at h
        rw [if_neg (by simp)]
        refine ⟨fun _ _ => trivial, hS, ih h _ r _ w (hR.next hlist) (putA_rel he o.dst (.undef r)) hM hG hS fun r2 a2 w2 k1 k2 k3 k4 => ?_⟩
        exact hQ r2 a2 w2 k1 (by rw [k2, put_defers]) k3 k4
      | true =>
        rw [hw] at h
        simp only [cond_true, forceD_eq, forceM_eq, putK_eq] at h
        rw [if_pos rfl]
        cases hy : yieldA env o with
        | some q =>
          obtain ⟨l, xs⟩ := q
          rw [hy] at h
          simp only at h
          cases hr2 : roundE self M l xs with
          | none => rw [hr2] at h; cases h
          | some c =>
            rw [hr2] at h
            refine round_sound hself ro (hnd.at ho) hy hr2 he hM hG (fun v M2 r' v' w' e' hv hm hs => ?_) fun ch M2 r' w' e' hm hs => ?_
            · subst e'
              exact on v M2 h r' v' w' hv hm hs
            · subst e'
              cases h
              exact hQ r' a w' (loseE_rel _ (he.mono hs.ext).weak) rfl hm hs
        | none =>
          rw [hy] at h
          simp only at h
          cases hr2 : opE P T self env M o with
          | none => rw [hr2] at h; cases h
          | some c =>
            rw [hr2] at h
            refine opE_soundIn hN hT hself ro hr2 (hnd.at ho) he hM hG (fun v M2 r' v' w' e' hv hm hs => ?_) fun ch M2 r' w' e' hm hs => ?_
            · subst e'
              exact on v M2 h r' v' w' hv hm hs
            · subst e'
              cases h
              exact hQ r' a w' (loseE_rel _ (he.mono hs.ext).weak) rfl hm hs
theorem tail_env {P : Program} {T : Tab} {self : Self} {ops : Array Oper} {go : Bool} {c : List PanicEntry} : ∀ (n : Nat) {rem : List Ent} {env env' : Env} {M M' : Mem}, tailE P T self ops go n rem env M = some (.panic c, env', M') → ∃ env0, env' = loseE ops.toList env0
  | 0, rem, env, env', M, M', h => by
    simp only [tailE] at h
    split at h <;> cases h
  | n + 1, rem, env, env', M, M', h => by
    simp only [tailE, forceD_eq, forceM_eq, putK_eq] at h
    split at h
    case h_3 => cases h
    · cases h
    · rename_i i o _
      generalize wantedA ops env o = b at h
      cases b with
      | false => exact tail_env n h
      | true =>
        simp only [cond_true] at h
        split at h
        · split at h
          case h_3 => cases h
          · cases go with
            | false => cases h
            | true => exact tail_env n h
          · cases h; exact ⟨env, rfl⟩
        · split at h
          case h_3 => cases h
          · cases go with
            | false => cases h
            | true => exact tail_env n h
          · cases h; exact ⟨env, rfl⟩

/-! ### A region that draws its order. -/
/-- What the region's operands lead to. -/
def addrO (env : Env) : List Operand → List Nat → List Nat
  | [], acc => acc
  | x :: r, acc => match ev env x with
    | some v => addrO env r (addrV 4 v acc)
    | none => addrO env r acc
def addrOps (env : Env) : List Oper → List Nat → List Nat
  | [], acc => acc
  | o :: r, acc => addrOps env r (addrO env o.op.operands.toList acc)
/-- From where the levels end: to the end. -/
def endE (P : Program) (T : Tab) (self : Self) (ops : Array Oper) (go : Bool) (p : Nat → Bool) (env : Env) (M : Mem) : Option Lv → Rs
  | some (.fin e m) => env.backK e fun e => M.wholeK p m fun m => some (.normal, e, m)
  | some (.stop n rem e m) => M.wholeK p m fun m => (match tailE P T self ops go n rem e m with
      | some (x, e, m) => env.backK e fun e => some (x, e, m)
      | none => none)
  | none => none
def drawE (P : Program) (T : Tab) (self : Self) (ops : Array Oper) (env : Env) (M : Mem) : Rs :=
  bif (Region.noSelect ops && ops.toList.all (fun o => !isDefer o)) && Nat.ble M.lo (64 * M.next) then
    env.bareK fun env0 => forceN (64 * M.next) fun lim => forceL (reachW M.bl M.ob 5000 (addrOps env0 ops.toList []) []) fun R =>
    match (M.partK (frameP R M.gl) fun M0 => endE P T self ops false (frameP R M.gl) env M (levE P T self ops (stayE P ops env0 M0) lim M0.lo M0.gl ops.size [(ents ops, env0, M0)])) with
      | some x => some x
      | none => match (M.partK (frameP R M.gl) fun M0 => endE P T self ops true (frameP R M.gl) env M (levE P T self ops [] lim M0.lo M0.gl ops.size [(ents ops, env0, M0)])) with
        | some x => some x
        | none => match (M.partK (fun _ => true) fun M0 => endE P T self ops false (fun _ => true) env M (levE P T self ops (stayE P ops env0 M0) lim M0.lo M0.gl ops.size [(ents ops, env0, M0)])) with
          | some x => some x
          | none => M.partK (fun _ => true) fun M0 => endE P T self ops true (fun _ => true) env M (levE P T self ops [] lim M0.lo M0.gl ops.size [(ents ops, env0, M0)])
  else none
theorem draw_sound {P : Program} (hN : noRoutines P) {G : List (Nat × List Value)} {T : Tab} (hT : TOk P G T) (hm : P.follows .mixedOrders = true) {self : Self} (hself : SelfOk P G self) {id : Nat} {ops : Array Oper} {env env' : Env} {M M' : Mem} {x : Exit} (h : drawE P T self ops env M = some (x, env', M')) :
    SoundAt P G (.region id ops true) env M x env' M' := by
  unfold drawE at h
  generalize hc : ((Region.noSelect ops && ops.toList.all fun o => !isDefer o) && Nat.ble M.lo (64 * M.next)) = c at h
  cases c with
  | false => cases h
  | true =>
    simp only [Bool.and_eq_true, List.all_eq_true] at hc
    simp only [cond_true, Mem.partK_eq, Env.bareK_eq, forceN_eq, forceL_eq] at h
    have hlo := Nat.le_of_ble_eq_true hc.2
    have hnd : NoDef ops := fun o ho => not_defer (by simpa using hc.1.2 o ho)
    have go : ∀ (p : Nat → Bool) (St : List (Nat × List Value)) (b : Bool), (∀ i cs, look M.gl i = some cs → p i = true) → (b = true → St = []) → (∀ i cs, look St i = some cs → look (sel p M.bl) i = some cs) →
        endE P T self ops b p env M (levE P T self ops St (64 * M.next) M.lo M.gl ops.size [(ents ops, { env with ds := [] }, { M with bl := sel p M.bl, ob := mapsOf p M.ob })]) = some (x, env', M') → SoundAt P G (.region id ops true) env M x env' M' := fun p St b hp hb hSt h => by
      -- what the ends say
      have hend : ∃ L, levE P T self ops St (64 * M.next) M.lo M.gl ops.size [(ents ops, { env with ds := [] }, { M with bl := sel p M.bl, ob := mapsOf p M.ob })] = some L ∧ endE P T self ops b p env M (some L) = some (x, env', M') := by
        cases hl : levE P T self ops St (64 * M.next) M.lo M.gl ops.size [(ents ops, { env with ds := [] }, { M with bl := sel p M.bl, ob := mapsOf p M.ob })] with
        | none => rw [hl] at h; cases h
        | some L => rw [hl] at h; exact ⟨L, rfl, h⟩
      obtain ⟨L, hL, hE⟩ := hend
      have hkeep : env'.rd = env.rd ∧ env'.gs = env.gs ∧ env'.ds = env.ds := by
        cases L with
        | fin e m =>
          simp only [endE, Env.backK_eq, Mem.wholeK_eq] at hE
          cases hE; exact ⟨rfl, rfl, rfl⟩
        | stop n rem e m =>
          simp only [endE, Env.backK_eq, Mem.wholeK_eq] at hE
          split at hE
          case h_2 => cases hE
          cases hE; exact ⟨rfl, rfl, rfl⟩
      refine ⟨hkeep.1, hkeep.2.1, fun ro r a w _ he hd hM hG => wpIn_region_any hm (anyS_in (S := Stay St r w.drew) ops.size ?_)⟩
      have hMd : MR r M w.drew := hM.of_heap rfl
      have hMd0 : MR r { M with bl := sel p M.bl, ob := mapsOf p M.ob } w.drew := part_rel hMd hp
      have he0 : ER r { env with ds := [] } a.tmps := ⟨he.1, he.2, he.3⟩
      refine lev_sound hN hT hself hc.1.1 hnd ro (M0 := { M with bl := sel p M.bl, ob := mapsOf p M.ob }) hMd0 hG hSt (fun i oi v hi c a w hq => ?_) (D := a.defers) (L := L) ?_ ops.size hL (fun x hx => ?_) _ (List.mem_singleton.2 rfl) _ r a w.drew (RemOk.start ops) rfl ⟨he0, hMd0, .refl _ _ _, fun i cs g hl hi hn j ds k hj hk e => ?_⟩ fun _ _ _ _ _ => rfl
      · -- a panic says nothing of what was taken
        obtain ⟨rfl, r', q1, q2, q3, q4⟩ := hq
        refine ⟨rfl, r', ?_, by rw [put_defers] at q2; exact q2, q3, q4⟩
        have hmem : oi ∈ ops.toList := by rw [← Array.getElem?_toList] at hi; exact List.mem_of_getElem? hi
        have he' : ∃ env0, env' = { loseE ops.toList env0 with ds := env.ds, gs := env.gs, rd := env.rd } := by
          cases L with
          | fin e m =>
            simp only [endE, Env.backK_eq, Mem.wholeK_eq] at hE
            cases hE
          | stop n rem e m =>
            simp only [endE, Env.backK_eq, Mem.wholeK_eq] at hE
            split at hE
            case h_2 => cases hE
            rename_i hT
            cases hE
            obtain ⟨env0, rfl⟩ := tail_env _ hT
            exact ⟨env0, rfl⟩
        obtain ⟨env0, rfl⟩ := he'
        have q1' : EW r' { loseE ops.toList env0 with ds := env.ds, gs := env.gs, rd := env.rd } (a.put oi.dst v).tmps := q1
        have hg0 : ∀ g ∈ env.gs, ∃ s, r' (64 * g) = some (g, s) := q1'.3
        -- the names of the variables are the same
        have e1 : EW r' (loseE ops.toList { env0 with gs := env.gs }) (a.put oi.dst v).tmps := by
          have hgt : ∀ (l : List Oper) (e1 e2 : Env), e1.n = e2.n → (∀ i, e1.get i = e2.get i) → (loseE l e1).n = (loseE l e2).n ∧ ∀ i, (loseE l e1).get i = (loseE l e2).get i := by
            intro l
            induction l with
            | nil => exact fun e1 e2 h1 h2 => ⟨h1, h2⟩
            | cons o l ih =>
              intro e1 e2 h1 h2
              unfold loseE
              cases o.dst with
              | none => exact ih e1 e2 h1 h2
              | some d => exact ih _ _ (by rw [Env.lose_n, Env.lose_n, h1]) fun i => by rw [Env.lose_get, Env.lose_get, h1, h2]
          obtain ⟨k1, k2⟩ := hgt ops.toList { env0 with gs := env.gs } env0 rfl (fun _ => rfl)
          refine ⟨by rw [k1]; exact q1'.1, fun i => ?_, by rw [(loseE_keep _ _).2.1]; exact hg0⟩
          have := q1'.2 i
          rw [k2]
          exact this
        have e2 := loseE_put hmem a v e1
        have hgt : ∀ (l : List Oper) (e1 e2 : Env), e1.n = e2.n → (∀ i, e1.get i = e2.get i) → (loseE l e1).n = (loseE l e2).n ∧ ∀ i, (loseE l e1).get i = (loseE l e2).get i := by
          intro l
          induction l with
          | nil => exact fun e1 e2 h1 h2 => ⟨h1, h2⟩
          | cons o l ih =>
            intro e1 e2 h1 h2
            unfold loseE
            cases o.dst with
            | none => exact ih e1 e2 h1 h2
            | some d => exact ih _ _ (by rw [Env.lose_n, Env.lose_n, h1]) fun i => by rw [Env.lose_get, Env.lose_get, h1, h2]
        obtain ⟨k1, k2⟩ := hgt ops.toList { env0 with gs := env.gs } env0 rfl (fun _ => rfl)
        refine ⟨e2.1.trans k1, fun i => ?_, hg0⟩
        have := e2.2 i
        rw [k2] at this
        exact this
      · cases L with
        | fin e m =>
          simp only [endE, Env.backK_eq, Mem.wholeK_eq] at hE
          cases hE
          intro r' a' w' hs h2
          obtain ⟨h1, h3, h4, _⟩ := hs
          obtain ⟨u1, u2⟩ := part_back hMd hlo h3 h4
          exact ⟨rfl, r', ⟨h1.1, h1.2, fun g hg => by obtain ⟨s, hs⟩ := he.3 g hg; exact ⟨s, h4.ext _ _ hs⟩⟩, by rw [h2]; exact hd.mono h4.ext, u1, (Stp.drew r M w).trans u2⟩
        | stop n rem e m =>
          simp only [endE, Env.backK_eq, Mem.wholeK_eq] at hE
          split at hE
          case h_2 => cases hE
          rename_i x2 e2 m2 hT2
          cases hE
          intro listed r' a' w' hR hs h2 hst
          obtain ⟨h1, h3, h4, _⟩ := hs
          obtain ⟨u1, u2⟩ := part_back hMd hlo h3 h4
          refine tail_sound hN hT hself hnd ro (fun hb' _ => ?_) n hT2 listed r' a' w' hR h1 u1 (h4.gl.trans hG) hst fun r2 a2 w2 k1 k2 k3 k4 => ?_
          · rw [hb hb']; exact fun i cs g hl => by cases hl
          · refine ⟨rfl, r2, ?_, ?_, k3, (Stp.drew r M w).trans (u2.trans k4)⟩
            · have hg1 : ∀ g ∈ env.gs, ∃ s, r2 (64 * g) = some (g, s) := fun g hg => by obtain ⟨s, hs⟩ := he.3 g hg; exact ⟨s, k4.ext _ _ (h4.ext _ _ hs)⟩
              cases x with
              | panic c =>
                have k1' : EW r2 e2 a2.tmps := k1
                exact ⟨k1'.1, k1'.2, hg1⟩
              | _ =>
                have k1' : ER r2 e2 a2.tmps := k1
                exact ⟨k1'.1, k1'.2, hg1⟩
            · rw [k2, h2]; exact hd.mono fun i g hi => k4.ext _ _ (h4.ext _ _ hi)
      · rw [List.mem_singleton.1 hx]
        exact fun e he => ((RemOk.start ops).mem e he).1
      · have := hMd0.inj j i ds cs k g (hSt j ds hj) hl hk hi e
        subst this
        rw [hn] at hj; cases hj
    have hp1 : ∀ (R : List Nat) i cs, look M.gl i = some cs → frameP R M.gl i = true := fun R i cs hl => frameP_gl hl
    have hp2 : ∀ i cs, look M.gl i = some cs → (fun _ => true : Nat → Bool) i = true := fun _ _ _ => rfl
    split at h
    · rename_i y hy
      cases h
      exact go _ _ false (hp1 _) (fun e => by cases e) (fun i cs hl => stayE_sub i cs hl) hy
    · split at h
      · rename_i y hy
        cases h
        exact go _ [] true (hp1 _) (fun _ => rfl) (fun i cs hl => by cases hl) hy
      · split at h
        · rename_i y hy
          cases h
          exact go _ _ false hp2 (fun e => by cases e) (fun i cs hl => stayE_sub i cs hl) hy
        · exact go _ [] true hp2 (fun _ => rfl) (fun i cs hl => by cases hl) h

/-! ### A range over a function. -/
def rangeE (P : Program) (self : Self) (g : Operand) (ps : Array Tmp) (as bd : Code) (env : Env) (M : Mem) : Rs := out env (match ev env g with
  | some (.func (.func f) first captured) => match P.funcs[f]? with
    | some fn => match fn.body with
      | some b => match env with | ⟨_, _, gs, _, _⟩ => M.openK (.loop .ready none env ps.toList as bd) fun d l M1 => match callE P self gs fn b (first.toList ++ [.func (.yield l) #[] #[]] ++ captured.toList) M1 with
        | some (.ret _ M2) => match look M2.ob l with
          | some (.loop st pd _ _ _ _) => bif decide (st = .busy) then none else match pd with
            | none => env.markK (.mark d) fun env => M2.killK l fun M2 => some (.normal, env, M2)
            | some .ret => env.markK (.mark d) fun env => M2.killK l fun M2 => some (.ret, env, M2)
            | some (.exit j) => env.markK (.mark d) fun env => M2.killK l fun M2 => some (.exit j, env, M2)
            | _ => none
          | _ => none
        | some (.pan ch M2) => env.markK (.mark d) fun env => some (.panic ch, env, M2)
        | none => none
      | none => none
    | none => none
  | _ => none)
theorem range_sound {P : Program} (hN : noRoutines P) {G : List (Nat × List Value)} {self : Self} (hself : SelfOk P G self) {g : Operand} {ps : Array Tmp} {as bd : Code} {env env' : Env} {M M' : Mem} {e : Exit} (h : rangeE P self g ps as bd env M = some (e, env', M')) :
    SoundAt P G (.rangeFunc g ps as bd) env M e env' M' := by
  unfold rangeE at h
  simp only [Env.markK_eq, Mem.openK_eq, Mem.killK_eq] at h
  obtain ⟨hrd, h⟩ := out_some h
  · split at h
    case h_2 => cases h
    rename_i f first captured h0
    split at h
    case h_2 => cases h
    rename_i fn hf
    split at h
    case h_2 => cases h
    rename_i b hb
    have hkeep : env'.rd = env.rd ∧ env'.gs = env.gs := by
      split at h
      case h_3 => cases h
      · split at h
        case h_2 => cases h
        rename_i st pd _ _ _ _ _
        generalize decide (st = .busy) = q at h
        cases q with
        | true => cases h
        | false =>
          simp only [cond_false] at h
          split at h <;> first | (cases h; exact ⟨rfl, rfl⟩) | cases h
      · cases h; exact ⟨rfl, rfl⟩
    refine ⟨hkeep.1, hkeep.2, fun ro r a w hro he hd hM hG => ?_⟩
    have hnone : ro = none := by
      cases ro with
      | none => rfl
      | some l => have := hro rfl; rw [hrd] at this; cases this
    subst hnone
    refine wpIn_rangeFunc fun fno _ => ?_
    obtain ⟨ys, vs, hv, e1, e2⟩ := (ev_sound he h0).of_func rfl
    -- the two new blocks
    obtain ⟨m1, m2⟩ := newO_sound (w' := w.alloc (.deferred (some []))) hM (o := .defd) (h := .deferred (some [])) rfl rfl rfl rfl rfl
    obtain ⟨n1, n2⟩ := newO_sound (w' := (w.alloc (.deferred (some []))).alloc (.loop { state := .ready, pending := none, fn := fno, tmps := a.tmps, params := ps, assign := as, body := bd, defers := w.heap.size })) m1
      (o := .loop .ready none env ps.toList as bd) (h := .loop { state := .ready, pending := none, fn := fno, tmps := a.tmps, params := ps, assign := as, body := bd, defers := w.heap.size }) ⟨fno, a.tmps, w.heap.size, by simp, he.mono m2.ext⟩ rfl rfl rfl rfl
    have hs := m2.trans n2
    have hsz : (w.alloc (.deferred (some []))).heap.size = w.heap.size + 1 := by simp
    have hl0 : more (more r (64 * M.next) (w.heap.size, 0)) (64 * (M.next + 1)) ((w.alloc (.deferred (some []))).heap.size, 0) (64 * (M.next + 1)) = some (w.heap.size + 1, 0) := by
      rw [more_self, hsz]
    have hd0 : more (more r (64 * M.next) (w.heap.size, 0)) (64 * (M.next + 1)) ((w.alloc (.deferred (some []))).heap.size, 0) (64 * M.next) = some (w.heap.size, 0) := n2.ext _ _ (more_self _ _ _)
    have hname : ¬ fn.name = "runtime.NumGoroutine" := by simpa using hN f fn hf
    refine ⟨w.heap.size + 1, _, ((w.alloc (.deferred (some []))).alloc (.loop { state := .ready, pending := none, fn := fno, tmps := a.tmps, params := ps, assign := as, body := bd, defers := w.heap.size })), { target := .fn (.func f) vs, args := ys ++ #[.func (.yield (w.heap.size + 1)) #[] #[]] }, ((w.alloc (.deferred (some []))).alloc (.loop { state := .ready, pending := none, fn := fno, tmps := a.tmps, params := ps, assign := as, body := bd, defers := w.heap.size })), f, ys ++ #[.func (.yield (w.heap.size + 1)) #[] #[]] ++ vs, ((w.alloc (.deferred (some []))).alloc (.loop { state := .ready, pending := none, fn := fno, tmps := a.tmps, params := ps, assign := as, body := bd, defers := w.heap.size })), run_enterLoop_outer fno a.tmps ps as bd, by simp [resolve, Deferred.ofValue, hv, show ∀ v, a.eval (.const v) = v from fun _ => rfl], fun _ _ => trivial, by simp [invoke, callFunc, hf, hname, hb], fun hn => (by cases hn), ?_⟩
    have hx : LR (more (more r (64 * M.next) (w.heap.size, 0)) (64 * (M.next + 1)) ((w.alloc (.deferred (some []))).heap.size, 0)) (first.toList ++ [.func (.yield (64 * (M.next + 1))) #[] #[]] ++ captured.toList) (ys.toList ++ [.func (.yield (w.heap.size + 1)) #[] #[]] ++ vs.toList) :=
      ((e1.mono hs.ext).append (.cons (.yield _ _ hl0) (.nil _))).append (e2.mono hs.ext)
    have hcall : ∀ c, callE P self env.gs fn b (first.toList ++ [.func (.yield (64 * (M.next + 1))) #[] #[]] ++ captured.toList) { M with next := M.next + 1 + 1, ob := (64 * (M.next + 1), .loop .ready none env ps.toList as bd) :: (64 * M.next, .defd) :: M.ob } = some c → _ := fun c hc =>
      call_sound hN hself (gs := env.gs) hf hb hx n1 hG (fun g hg => by obtain ⟨s, hs'⟩ := he.3 g hg; exact ⟨s, hs.ext _ _ hs'⟩) hc
    have earr : (ys.toList ++ [Value.func (.yield (w.heap.size + 1)) #[] #[]] ++ vs.toList).toArray = ys ++ #[Value.func (.yield (w.heap.size + 1)) #[] #[]] ++ vs := by
      apply Array.ext'
      simp
    split at h
    case h_3 => cases h
    · rename_i u M2 hq
      have hc := hcall _ hq
      rw [earr] at hc
      refine (callsIn_wide (n := 0)).2 (hc.mono fun e' w' hg => ?_)
      obtain ⟨v', r', rfl, hv', hM2, hs2⟩ := hg
      split at h
      case h_2 => cases h
      rename_i st pd x1 x2 x3 x4 hlk
      generalize hbz : decide (st = .busy) = q at h
      cases q with
      | true => cases h
      | false =>
        simp only [cond_false] at h
        have hne : st ≠ .busy := by simpa using hbz
        obtain ⟨g', ob, t1, t2, t3⟩ := hM2.obj _ _ hlk
        rw [hs2.ext _ _ hl0] at t1; cases t1
        obtain ⟨fn2, tmps2, dl2, rfl, he2⟩ := t3
        obtain ⟨s1, s2⟩ := killO_sound (w' := w'.putObj (w.heap.size + 1) (.loop { state := .exhausted, pending := pd, fn := fn2, tmps := tmps2, params := x2.toArray, assign := x3, body := x4, defers := dl2 })) hM2 hlk (hs2.ext _ _ hl0) (fun _ hk => World.putObj_heap_other hk) World.putObj_size rfl rfl rfl
        have htot := (hs.trans hs2).trans s2
        have hdr : DR r' (.mark (64 * M.next) :: env.ds) ({ target := .collected w.heap.size, args := #[] } :: a.defers) := ⟨⟨(w.heap.size, 0), hs2.ext _ _ hd0, rfl⟩, hd.mono htot.ext⟩
        have her : ER r' { env with ds := .mark (64 * M.next) :: env.ds } a.tmps := by
          have := he.mono htot.ext
          exact ⟨this.1, this.2, this.3⟩
        refine ⟨pd, _, run_endLoop t2 hne, ?_⟩
        split at h
        · cases h; exact ⟨rfl, r', her, hdr, s1, htot⟩
        · cases h; exact wpIn_ret ⟨rfl, r', her, hdr, s1, htot⟩
        · cases h; exact wpIn_exit ⟨rfl, r', her, hdr, s1, htot⟩
        · cases h
    · rename_i ch M2 hq
      have hc := hcall _ hq
      rw [earr] at hc
      refine (callsIn_wide (n := 0)).2 (hc.mono fun e' w' hg => ?_)
      obtain ⟨rfl, r', hM2, hs2⟩ := hg
      cases h
      have htot := hs.trans hs2
      refine ⟨rfl, r', ?_, ⟨⟨(w.heap.size, 0), hs2.ext _ _ hd0, rfl⟩, hd.mono htot.ext⟩, hM2, htot⟩
      have := (he.mono htot.ext).weak
      exact ⟨this.1, this.2, this.3⟩
end Ev
end Go.Proofs.YtccjmmdppjialaaGreatDoor
