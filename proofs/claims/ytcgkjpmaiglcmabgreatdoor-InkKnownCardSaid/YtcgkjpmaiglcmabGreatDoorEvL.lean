/- The evaluator, L: regions, rounds, ranges over functions, code; and what it is all for: a call whose arguments have no addresses gives what the evaluator says, and leaves what was there as it was. -/
import Derived.Test.YtcgkjpmaiglcmabGreatDoorEvK
namespace Go.Proofs.YtcgkjpmaiglcmabGreatDoor
open Go.RowKit
namespace Ev

/-! ### A region that draws its order. -/
/-- The blocks that stores and appends go to. -/
def targetA (env : Env) (o : Oper) : Option Nat := match o.op with
  | .store _ x _ => match ev env x with
    | some (.pointer (some a)) => some a.block
    | _ => none
  | .call c => (match c.callee with
    | .builtin .append => (match c.args.toList with
      | x :: _ => (match ev env x with
        | some (.slice (some a) _ _) => some a.block
        | _ => none)
      | [] => none)
    | _ => none)
  | _ => none
def storesTo (env : Env) : List Oper → List Nat
  | [] => []
  | o :: rest => match targetA env o with
    | some b => b :: storesTo env rest
    | none => storesTo env rest
def killAll (bl : List (Nat × List Value)) : List Nat → List (Nat × List Value)
  | [] => bl
  | b :: rest => killAll (kill bl b) rest
def onlyStores : List Oper → List Oper
  | [] => []
  | o :: r => match o.op with
    | .store .. => o :: onlyStores r
    | .call c => (match c.callee with
      | .builtin .append => o :: onlyStores r
      | _ => onlyStores r)
    | _ => onlyStores r
/-- What is simply yielded, all blocks as they are: for the addresses. -/
def dryE (P : Program) (ops : Array Oper) (St : List (Nat × List Value)) : Nat → List Ent → Env → Env
  | 0, _, env => env
  | n + 1, rem, env => match takeE P ops St env (cands ops rem rem) with
    | some (i, d, v) => forceD 4 v fun v => putK env d v fun env => dryE P ops St n (next i rem) env
    | none => env
theorem killAll_sub : ∀ (bs : List Nat) (bl : List (Nat × List Value)) (i : Nat) (cs : List Value), look (killAll bl bs) i = some cs → look bl i = some cs
  | [], _, _, _, h => h
  | b :: bs, bl, i, cs, h => by
    have h1 := killAll_sub bs (kill bl b) i cs h
    rw [look_kill] at h1
    split at h1
    · cases h1
    · exact h1
def onlyLoads : List Oper → List Oper
  | [] => []
  | o :: r => match o.op with
    | .load .. => o :: onlyLoads r
    | _ => onlyLoads r
def loadsFrom (env : Env) : List Oper → List Nat
  | [] => []
  | o :: rest => match o.op with
    | .load _ x => (match ev env x with
      | some (.pointer (some a)) => forceN a.block fun b => b :: loadsFrom env rest
      | _ => loadsFrom env rest)
    | _ => loadsFrom env rest
/-- The blocks that a region's loads may take as they are: those loaded from which nothing is stored or appended to. -/
def stayE (P : Program) (ops : Array Oper) (env : Env) (M : Mem) : List (Nat × List Value) := match onlyStores ops.toList with
  | [] => M.bl
  | ss => match dryE P ops M.bl ops.size (ents ops) env with
    | ⟨n, t, gs, ds, rd⟩ => killAll (sel (fun i => memN i (loadsFrom ⟨n, t, gs, ds, rd⟩ (onlyLoads ops.toList))) M.bl) (storesTo ⟨n, t, gs, ds, rd⟩ ss)
theorem stayE_sub {P : Program} {ops : Array Oper} {env : Env} {M : Mem} (i : Nat) (cs : List Value) (h : look (stayE P ops env M) i = some cs) : look M.bl i = some cs := by
  unfold stayE at h
  split at h
  · exact h
  · exact (look_sel_some (killAll_sub _ _ i cs h)).2
def isDefer (o : Oper) : Bool := match o.op with
  | .defer _ => true
  | _ => false
theorem not_defer {o : Oper} (h : isDefer o = false) : ∀ c, o.op ≠ .defer c := fun c e => by
  unfold isDefer at h
  rw [e] at h
  cases h
def Mem.hideK {α : Type} (M : Mem) (k : Mem → α) : α := match M with
  | ⟨next, lo, bl, gl, _⟩ => k ⟨next, lo, bl, gl, []⟩
theorem Mem.hideK_eq {α : Type} (M : Mem) (k : Mem → α) : M.hideK k = k { M with ob := [] } := rfl
def Mem.showK {α : Type} (M m : Mem) (k : Mem → α) : α := match M with
  | ⟨_, _, _, _, ob⟩ => match m with
    | ⟨next, lo, bl, gl, _⟩ => k ⟨next, lo, bl, gl, ob⟩
theorem Mem.showK_eq {α : Type} (M m : Mem) (k : Mem → α) : M.showK m k = k { m with ob := M.ob } := rfl
def Env.bareK {α : Type} (env : Env) (k : Env → α) : α := match env with
  | ⟨n, t, gs, _, rd⟩ => k ⟨n, t, gs, [], rd⟩
theorem Env.bareK_eq {α : Type} (env : Env) (k : Env → α) : env.bareK k = k { env with ds := [] } := rfl
def Env.backK {α : Type} (env e : Env) (k : Env → α) : α := match env with
  | ⟨_, _, gs, ds, rd⟩ => match e with
    | ⟨n, t, _, _, _⟩ => k ⟨n, t, gs, ds, rd⟩
theorem Env.backK_eq {α : Type} (env e : Env) (k : Env → α) : env.backK e k = k { e with ds := env.ds, gs := env.gs, rd := env.rd } := rfl
def drawE (P : Program) (T : Tab) (self : Self) (ops : Array Oper) (env : Env) (M : Mem) : Option (Env × Mem) :=
  bif Region.noSelect ops && ops.toList.all (fun o => !isDefer o) then
    M.hideK fun M0 => env.bareK fun env0 => forceN (64 * M.next) fun lim => match (match levE P T self ops (stayE P ops env0 M) lim M.lo M.gl ops.size [(ents ops, env0, M0)] with
      | some x => some x
      | none => levE P T self ops [] lim M.lo M.gl ops.size [(ents ops, env0, M0)]) with
    | some (e, m) => match m.ob with
      | [] => env.backK e fun e => M.showK m fun m => some (e, m)
      | _ => none
    | none => none
  else none
theorem wpOps_in {P : Program} {ops : Array Oper} {Q : Exit → Act → World → Prop} (ro : Option Nat) (hnd : ∀ o ∈ ops.toList, ∀ c, o.op ≠ .defer c) (hQ : ¬ LetsOut Q) : ∀ (l : List Nat) {a : Act} {w : World}, wpOps P ops Q l a w → wpOpsIn (FR ro) 0 P ops Q l a w
  | [], a, w, h => h
  | i :: l, a, w, h => by
    unfold wpOps at h
    unfold wpOpsIn
    cases ho : ops[i]? with
    | none => rw [ho] at h; exact wpOps_in ro hnd hQ l h
    | some o =>
      rw [ho] at h
      simp only at h ⊢
      have hmem : o ∈ ops.toList := by rw [← Array.getElem?_toList] at ho; exact List.mem_of_getElem? ho
      split at h
      · rename_i hw
        rw [if_pos hw]
        rcases h with h | ⟨_, h⟩
        case inr => exact absurd h hQ
        refine ⟨fun _ _ => trivial, ?_⟩
        rw [Oper.semAt_eq _ _ _ (hnd o hmem)]
        unfold Oper.wp at h
        generalize (execOp a.eval o).run P w = res at h ⊢
        cases res with
        | ok n w' =>
          cases n <;> simp only [Oper.upon] at h <;> try exact h.elim
          case value v => exact wpOps_in ro hnd hQ l h
          case skip => exact wpOps_in ro hnd hQ l h
          case defer d => exact wpOps_in ro hnd hQ l h
          case enter f args =>
            refine ⟨fun hn => (by cases hn), ?_⟩
            have hc := (callsIn_wide (n := 0)).2 (h.mono (R' := fun
              | .returned v, w'' => wpOpsIn (FR ro) 0 P ops Q l (a.put o.dst v) w''
              | .panicked chain, w'' => Q (.panic chain) a w''
              | .outgrown, _ => LetsOut Q) fun e w' hg => by
                cases e with
                | returned v => exact wpOps_in ro hnd hQ l hg
                | panicked ch => exact hg
                | outgrown => exact hg)
            exact hc
          case row row args =>
            refine ⟨fun hn => (by cases hn), fun c cs _ => ?_⟩
            obtain ⟨v, w'', h1, h2⟩ := h c cs
            exact ⟨v, w'', wpOps_in ro hnd hQ l h1, stepsIn_wide.2 h2⟩
        | halt x w' =>
          cases x <;> simp only [Oper.upon] at h <;> try exact h.elim
          case panic u => exact h
      · rename_i hw
        rw [if_neg hw]
        exact ⟨fun _ _ => trivial, wpOps_in ro hnd hQ l h⟩
/-- What was hidden is as it was. -/
theorem unhide {r r' : Nat → Option (Nat × Nat)} {M M' : Mem} {w w' : World} (hM : MR r M w) (hM' : MR r' M' w') (hs : Stp r { M with ob := [] } w r' M' w') : MR r' { M' with ob := M.ob } w' ∧ Stp r M w r' { M' with ob := M.ob } w' := by
  have same : ∀ i o g, look M.ob i = some o → r i = some g → w'.heap[g.1]? = w.heap[g.1]? := fun i o g hl hi =>
    hs.keep g.1 (hM.ltO hl hi) (fun j cs k _ h2 h3 => hM.apart h2 h3 hl hi) (fun _ _ _ h => by cases h)
  refine ⟨⟨hM'.blk, hM'.inj, hM'.bound, hM'.glob, fun i o hl => ?_, fun i j o p g h h1 h2 h3 h4 e => ?_⟩, ⟨hs.ext, hs.lo, hs.next, hs.old, hs.os, hs.tape, hs.output, hs.size, fun k hk hn _ => hs.keep k hk hn (fun _ _ _ h => by cases h), hs.anc, hs.gl, fun i o g hl hi _ => ?_⟩⟩
  · obtain ⟨g, x, h1, h2, h3⟩ := hM.obj i o hl
    exact ⟨g, x, hs.ext _ _ h1, by rw [same i o g hl h1]; exact h2, h3.mono hs.ext⟩
  · obtain ⟨g1, _, q1, _⟩ := hM.obj i o h1
    obtain ⟨g2, _, q2, _⟩ := hM.obj j p h2
    have e1 := hs.ext _ _ q1
    have e2 := hs.ext _ _ q2
    rw [h3] at e1; rw [h4] at e2; cases e1; cases e2
    exact hM.injO i j o p _ _ h1 h2 q1 q2 e
  · obtain ⟨g1, _, q1, _⟩ := hM.obj i o hl
    have e1 := hs.ext _ _ q1
    rw [hi] at e1; cases e1
    exact ⟨i, o, _, hl, q1, rfl⟩
theorem draw_sound {P : Program} (hN : noRoutines P) {G : List (Nat × List Value)} {T : Tab} (hT : TOk P G T) (hm : P.follows .mixedOrders = true) {self : Self} (hself : SelfOk P G self) {id : Nat} {ops : Array Oper} {env env' : Env} {M M' : Mem} (h : drawE P T self ops env M = some (env', M')) :
    SoundAt P G (.region id ops true) env M .normal env' M' := by
  unfold drawE at h
  generalize hc : (Region.noSelect ops && ops.toList.all fun o => !isDefer o) = c at h
  cases c with
  | false => cases h
  | true =>
    simp only [Bool.and_eq_true, List.all_eq_true] at hc
    simp only [cond_true, Mem.hideK_eq, Env.bareK_eq, Env.backK_eq, Mem.showK_eq, forceN_eq] at h
    have hnd : ∀ o ∈ ops.toList, ∀ c, o.op ≠ .defer c := fun o ho => not_defer (by simpa using hc.2 o ho)
    split at h
    case h_2 => cases h
    rename_i e m hany
    split at h
    case h_2 => cases h
    rename_i hob
    cases h
    refine ⟨rfl, rfl, fun ro r a w _ he hd hM hG => wpIn_region_draw fun t => ?_⟩
    simp only [Region.schedule, hm, Bool.true_or, if_true]
    refine wpOps_in ro hnd (fun ⟨_, _, hq⟩ => by cases hq.1) _ (wpAny_sound ops.size t _ a _ ?_)
    have hMd : MR r M w.drew := hM.of_heap rfl
    have hMd0 : MR r { M with ob := [] } w.drew := ⟨hMd.blk, hMd.inj, hMd.bound, hMd.glob, fun _ _ hl => (by cases hl), fun _ _ _ _ _ _ hl => (by cases hl)⟩
    have he0 : ER r { env with ds := [] } a.tmps := ⟨he.1, he.2, he.3⟩
    have go : ∀ (St : List (Nat × List Value)), (∀ i cs, look St i = some cs → look M.bl i = some cs) → levE P T self ops St (64 * M.next) M.lo M.gl ops.size [(ents ops, { env with ds := [] }, { M with ob := [] })] = some (e, m) →
        wpAny P .any ops (fun e' a' w' => e' = .normal ∧ ∃ r', ER r' { e with ds := env.ds, gs := env.gs, rd := env.rd } a'.tmps ∧ DR r' env.ds a'.defers ∧ MR r' { m with ob := M.ob } w' ∧ Stp r M w r' { m with ob := M.ob } w') ops.size (Array.replicate ops.size false) a w.drew := fun St hSt h => by
      refine wpAny_of_held (S := Stay St r w.drew) _ _ _ _ ?_
      refine lev_sound hN hT hself hc.1 (M0 := { M with ob := [] }) hMd0 hG hSt (fun c a w hq => by cases hq.1) (D := a.defers) (fun r' a' w' hs h2 => ?_) ops.size h (fun x hx => ?_) _ (List.mem_singleton.2 rfl) _ r a w.drew (RemOk.start ops) rfl ⟨he0, hMd0, .refl _ _ _, fun i cs g hl hi hn j ds k hj hk e => ?_⟩ fun _ _ _ _ _ => rfl
      · obtain ⟨h1, h3, h4, _⟩ := hs
        obtain ⟨u1, u2⟩ := unhide hMd h3 h4
        exact ⟨rfl, r', ⟨h1.1, h1.2, fun g hg => by obtain ⟨s, hs⟩ := he.3 g hg; exact ⟨s, h4.ext _ _ hs⟩⟩, by rw [h2]; exact hd.mono h4.ext, u1, (Stp.drew r M w).trans u2⟩
      · rw [List.mem_singleton.1 hx]
        exact fun e he => ((RemOk.start ops).mem e he).1
      · have := hMd0.inj j i ds cs k g (hSt j ds hj) hl hk hi e
        subst this
        rw [hn] at hj; cases hj
    split at hany
    · rename_i x hx
      cases hany
      exact go _ (fun i cs hl => stayE_sub i cs hl) hx
    · exact go [] (fun i cs hl => by cases hl) hany

/-! ### Rounds. -/
def deferA (env : Env) (o : Oper) : Option ADf := match o.op with
  | .defer c => match c.callee with
    | .value fo => match ev env fo with
      | some (.func (.func f) first captured) => match evs env c.args.toList with
        | some xs => some (.call f (first.toList ++ xs ++ captured.toList))
        | none => none
      | _ => none
    | _ => none
  | _ => none
theorem defer_sound {P : Program} {env : Env} {o : Oper} {d : ADf} {r : Nat → Option (Nat × Nat)} {a : Act} (w : World) (h : deferA env o = some d) (he : ER r env a.tmps) {es : List Deferred} (hd : DR r env.ds es) :
    ∃ x, (execOp a.eval o).run P w = .ok (.defer x) w ∧ DR r (d :: env.ds) (x :: es) := by
  obtain ⟨dst, op, ty, pos, after, guard⟩ := o
  unfold deferA at h
  split at h
  case h_2 => cases h
  rename_i c hop
  simp only at hop
  subst hop
  obtain ⟨callee, args, argTypes⟩ := c
  simp only at h
  split at h
  case h_2 => cases h
  rename_i fo
  split at h
  case h_2 => cases h
  rename_i f first captured h0
  split at h
  case h_2 => cases h
  rename_i xs h1
  cases h
  obtain ⟨ys, vs, hv, e1, e2⟩ := (ev_sound he h0).of_func rfl
  have e3 := evs_sound he h1
  refine ⟨{ target := .fn (.func f) vs, args := ys ++ args.map a.eval }, by simp [execOp, resolve, Deferred.ofValue, hv], ⟨_, _, rfl, ?_⟩, hd⟩
  simp only [Array.toList_append, Array.toList_map]
  exact (e1.append e3).append e2
def yieldA (env : Env) (o : Oper) : Option (Nat × List Value) := match o.op with
  | .call c => match c.callee with
    | .value fo => match ev env fo with
      | some (.func (.yield i) _ _) => match evs env c.args.toList with
        | some xs => some (i, xs)
        | none => none
      | _ => none
    | _ => none
  | _ => none
theorem yieldA_sound {P : Program} {env : Env} {o : Oper} {i : Nat} {xs : List Value} {r : Nat → Option (Nat × Nat)} {a : Act} (h : yieldA env o = some (i, xs)) (he : ER r env a.tmps) :
    ∃ g ys, r i = some g ∧ LR r xs ys ∧ ∀ w, (execOp a.eval o).run P w = (Instr.yield g.1 ys.toArray).run P w := by
  obtain ⟨dst, op, ty, pos, after, guard⟩ := o
  unfold yieldA at h
  split at h
  case h_2 => cases h
  rename_i c hop
  simp only at hop
  subst hop
  obtain ⟨callee, args, argTypes⟩ := c
  simp only at h
  split at h
  case h_2 => cases h
  rename_i fo
  split at h
  case h_2 => cases h
  rename_i i' u1 u2 h0
  split at h
  case h_2 => cases h
  rename_i xs' h1
  cases h
  obtain ⟨g, hg, hv⟩ := (ev_sound he h0).of_yield
  have e3 := evs_sound he h1
  refine ⟨g, args.toList.map a.eval, hg, e3, fun w => ?_⟩
  have : (args.toList.map a.eval).toArray = args.map a.eval := by rw [← Array.toList_map]
  rw [this]
  simp [execOp, resolve, Deferred.ofValue, hv, invoke]
def setPs : List Tmp → List Value → Env → Env
  | t :: ps, x :: xs, env => setPs ps xs (env.set t x)
  | _, _, env => env
theorem setPs_keep : ∀ (ps : List Tmp) (xs : List Value) (env : Env), (setPs ps xs env).rd = env.rd ∧ (setPs ps xs env).ds = env.ds
  | [], _, _ => ⟨rfl, rfl⟩
  | _ :: _, [], _ => ⟨rfl, rfl⟩
  | t :: ps, x :: xs, env => by
    obtain ⟨h1, h2⟩ := setPs_keep ps xs (env.set t x)
    exact ⟨h1.trans (Env.set_rd ..), h2.trans (Env.set_ds ..)⟩
theorem setPs_rel {r : Nat → Option (Nat × Nat)} : ∀ {ps : List Tmp} {xs ys : List Value} {env : Env} {tmps : Array Value}, ER r env tmps → LR r xs ys → ER r (setPs ps xs env) ((ps.zip ys).foldl (fun tmps p => tmps.setIfInBounds p.1 p.2) tmps)
  | [], _, _, _, _, h, _ => h
  | _ :: _, [], [], _, _, h, _ => h
  | t :: ps, x :: xs, y :: ys, env, tmps, h, hl => by
    simp only [setPs, List.zip_cons_cons, List.foldl_cons]
    exact setPs_rel (h.set t hl.head) hl.tail
  | _ :: _, [], _ :: _, _, _, _, hl => absurd hl.1 (by simp)
  | _ :: _, _ :: _, [], _, _, _, hl => absurd hl.1 (by simp)

def setPsK {α : Type} : List Tmp → List Value → Env → (Env → α) → α
  | t :: ps, x :: xs, env, k => env.setK t x fun env => setPsK ps xs env k
  | _, _, env, k => k env
theorem setPsK_eq {α : Type} : ∀ (ps : List Tmp) (xs : List Value) (env : Env) (k : Env → α), setPsK ps xs env k = k (setPs ps xs env)
  | [], _, _, _ => rfl
  | _ :: _, [], _, _ => rfl
  | t :: ps, x :: xs, env, k => by simp only [setPsK, setPs, Env.setK_eq, setPsK_eq ps xs]
def updK {α β : Type} : List (Nat × β) → Nat → β → (List (Nat × β) → α) → α
  | [], _, _, k => k []
  | (j, y) :: rest, i, x, k => bif Nat.beq j i then k ((j, x) :: rest) else updK rest i x fun rest => k ((j, y) :: rest)
theorem updK_eq {α β : Type} : ∀ (l : List (Nat × β)) (i : Nat) (x : β) (k : List (Nat × β) → α), updK l i x k = k (upd l i x)
  | [], _, _, _ => rfl
  | (j, y) :: rest, i, x, k => by
    simp only [updK, upd]
    cases Nat.beq j i with
    | true => rfl
    | false => simp only [cond_false, updK_eq rest]
/-- The memory with one of its objects changed. -/
def Mem.putK {α : Type} (M : Mem) (i : Nat) (o : AOb) (k : Mem → α) : α := match M with
  | ⟨next, lo, bl, gl, ob⟩ => updK ob i o fun ob => k ⟨next, lo, bl, gl, ob⟩
theorem Mem.putK_eq {α : Type} (M : Mem) (i : Nat) (o : AOb) (k : Mem → α) : M.putK i o k = k { M with ob := upd M.ob i o } := by
  obtain ⟨next, lo, bl, gl, ob⟩ := M
  simp only [Mem.putK, updK_eq]
def Env.freshK {α : Type} (env : Env) (k : Env → α) : α := match env with
  | ⟨n, t, gs, _, _⟩ => k ⟨n, t, gs, [], true⟩
theorem Env.freshK_eq {α : Type} (env : Env) (k : Env → α) : env.freshK k = k { env with ds := [], rd := true } := rfl
def Env.markK {α : Type} (env : Env) (d : ADf) (k : Env → α) : α := match env with
  | ⟨n, t, gs, ds, rd⟩ => k ⟨n, t, gs, d :: ds, rd⟩
theorem Env.markK_eq {α : Type} (env : Env) (d : ADf) (k : Env → α) : env.markK d k = k { env with ds := d :: env.ds } := rfl
def Mem.openK {α : Type} (M : Mem) (o : AOb) (k : Nat → Nat → Mem → α) : α := match M with
  | ⟨next, lo, bl, gl, ob⟩ => forceN (64 * next) fun d => forceN (64 * (next + 1)) fun l => forceN (next + 1 + 1) fun n => k d l ⟨n, lo, bl, gl, (l, o) :: (d, .defd) :: ob⟩
theorem Mem.openK_eq {α : Type} (M : Mem) (o : AOb) (k : Nat → Nat → Mem → α) : M.openK o k = k (64 * M.next) (64 * (M.next + 1)) { M with next := M.next + 1 + 1, ob := (64 * (M.next + 1), o) :: (64 * M.next, .defd) :: M.ob } := by
  obtain ⟨next, lo, bl, gl, ob⟩ := M
  simp only [Mem.openK, forceN_eq]
def killK {α β : Type} : List (Nat × β) → Nat → (List (Nat × β) → α) → α
  | [], _, k => k []
  | (j, y) :: rest, i, k => bif Nat.beq j i then killK rest i k else killK rest i fun rest => k ((j, y) :: rest)
theorem killK_eq {α β : Type} : ∀ (l : List (Nat × β)) (i : Nat) (k : List (Nat × β) → α), killK l i k = k (kill l i)
  | [], _, _ => rfl
  | (j, y) :: rest, i, k => by
    simp only [killK, kill]
    cases Nat.beq j i with
    | true => simp only [cond_true, killK_eq rest]
    | false => simp only [cond_false, killK_eq rest]
def Mem.killK {α : Type} (M : Mem) (i : Nat) (k : Mem → α) : α := match M with
  | ⟨next, lo, bl, gl, ob⟩ => Ev.killK ob i fun ob => k ⟨next, lo, bl, gl, ob⟩
theorem Mem.killK_eq {α : Type} (M : Mem) (i : Nat) (k : Mem → α) : M.killK i k = k { M with ob := kill M.ob i } := by
  obtain ⟨next, lo, bl, gl, ob⟩ := M
  simp only [Mem.killK, Ev.killK_eq]

def roundE (self : Self) (M : Mem) (i : Nat) (xs : List Value) : Option (Value × Mem) := match look M.ob i with
  | some (.loop .ready none env ps as bd) => bif Nat.beq xs.length ps.length then env.freshK fun env => forceVs (forceD 4) xs fun xs => setPsK ps xs env fun env => match self as env M with
    | some (.normal, env1, M1) => match look M1.ob i with
      | some (.loop .ready none env' ps' as' bd') => M1.putK i (.loop .busy none env' ps' as' bd') fun M1 => match self bd env1 M1 with
        | some (x, _, M2) => match look M2.ob i with
          | some (.loop _ _ env'' ps'' as'' bd'') => match x with
            | .normal => M2.putK i (.loop .ready none env'' ps'' as'' bd'') fun M2 => some (.bool true, M2)
            | .ret => M2.putK i (.loop .done (some .ret) env'' ps'' as'' bd'') fun M2 => some (.bool false, M2)
            | .exit id => M2.putK i (.loop .done (some (.exit id)) env'' ps'' as'' bd'') fun M2 => some (.bool false, M2)
            | _ => none
          | _ => none
        | none => none
      | _ => none
    | _ => none
    else none
  | _ => none
theorem put_sound {r : Nat → Option (Nat × Nat)} {M : Mem} {w : World} (hM : MR r M w) {i : Nat} {o p : AOb} {g : Nat × Nat} (h : Obj) (hl : look M.ob i = some o) (hi : r i = some g) (hp : OB r p h) :
    MR r { M with ob := upd M.ob i p } (w.putObj g.1 h) ∧ Stp r M w r { M with ob := upd M.ob i p } (w.putObj g.1 h) :=
  setO_sound hM hl hi hp (World.putObj_heap_same (hM.ltO hl hi)) (fun _ hk => World.putObj_heap_other hk) World.putObj_size rfl rfl rfl
theorem round_sound {P : Program} {G : List (Nat × List Value)} {self : Self} (hself : SelfOk P G self) {env : Env} {M M' : Mem} {o : Oper} {i : Nat} {xs : List Value} {v : Value} {r : Nat → Option (Nat × Nat)} {a : Act} {w : World} (ro : Option Nat)
    (hnd : ∀ c, o.op ≠ .defer c) (hy : yieldA env o = some (i, xs)) (h : roundE self M i xs = some (v, M')) (he : ER r env a.tmps) (hM : MR r M w) (hG : M.gl = G) {K : Act → World → Prop} {Q : Exit → Act → World → Prop}
    (hK : ∀ r' v' w', VR r' v v' → MR r' M' w' → Stp r M w r' M' w' → K (a.put o.dst v') w') : o.wpIn (FR ro) 0 P a w K Q := by
  obtain ⟨g, ys, hg, hl, hrun⟩ := yieldA_sound (P := P) hy he
  unfold roundE at h
  simp only [Env.freshK_eq, forceVs_eq (forceD_eq 4), setPsK_eq, Mem.putK_eq] at h
  split at h
  case h_2 => cases h
  rename_i env0 ps as bd hlk
  cases hlen : Nat.beq xs.length ps.length with
  | false => rw [hlen] at h; cases h
  | true =>
    rw [hlen] at h
    simp only [cond_true] at h
    obtain ⟨g', ob, k1, k2, k3⟩ := hM.obj _ _ hlk
    rw [hg] at k1; cases k1
    obtain ⟨fn, tmps, dl, rfl, he0⟩ := k3
    split at h
    case h_2 => cases h
    rename_i env1 M1 hs1
    split at h
    case h_2 => cases h
    rename_i env' ps' as' bd' hlk1
    split at h
    case h_2 => cases h
    rename_i x env2 M2 hs2
    split at h
    case h_2 => cases h
    rename_i st pd env'' ps'' as'' bd'' hlk2
    refine ⟨fun _ _ => trivial, ?_⟩
    have hsz : ys.toArray.size = ps.toArray.size := by
      have := Nat.eq_of_beq_eq_true hlen
      have := hl.1
      simp; omega
    rw [Oper.semAt_eq _ _ _ hnd, hrun, run_yield k2 hsz]
    refine ⟨fun hn => (by cases hn), roundIn_of_wpIn (F := FR ro) trivial ?_⟩
    -- the assignment
    obtain ⟨b1, _, b3⟩ := hself _ _ _ _ _ _ hs1
    have hk0 := setPs_keep ps xs { env0 with ds := [], rd := true }
    have her : ER r (setPs ps xs { env0 with ds := [], rd := true }) ((ps.toArray.zip ys.toArray).foldl (fun tmps (t, a) => tmps.setIfInBounds t a) tmps) := by
      have := setPs_rel (ps := ps) (xs := xs) (ys := ys) (env := { env0 with ds := [], rd := true }) (tmps := tmps) ⟨he0.1, he0.2, he0.3⟩ hl
      simpa using this
    refine wpIn_mono (b3 (some g.1) r { tmps := (ps.toArray.zip ys.toArray).foldl (fun tmps (t, a) => tmps.setIfInBounds t a) tmps, defers := [] } w (fun _ => hk0.1) her (by rw [hk0.2]; trivial) hM hG) ?_
    rintro e1 a1 w1 ⟨rfl, r1, q1, q2, q3, q4⟩
    obtain ⟨g1, ob1, m1, m2, m3⟩ := q3.obj _ _ hlk1
    rw [q4.ext _ _ hg] at m1; cases m1
    obtain ⟨fn1, tmps1, dl1, rfl, he1⟩ := m3
    obtain ⟨n1, n2⟩ := put_sound q3 (.loop { state := .busy, pending := none, fn := fn1, tmps := tmps1, params := ps'.toArray, assign := as', body := bd', defers := dl1 }) hlk1 (q4.ext _ _ hg) (p := .loop .busy none env' ps' as' bd') ⟨fn1, tmps1, dl1, rfl, he1⟩
    refine ⟨_, run_beginRound m2 rfl, ?_⟩
    -- the body
    obtain ⟨c1, _, c3⟩ := hself _ _ _ _ _ _ hs2
    refine wpIn_mono (c3 (some g.1) r1 a1 _ (fun _ => b1.trans hk0.1) q1 q2 n1 (q4.gl.trans hG)) ?_
    rintro e2 a2 w2 ⟨rfl, r2, p1, p2, p3, p4⟩
    have hgg : r2 i = some g := p4.ext _ _ (q4.ext _ _ hg)
    obtain ⟨g2, ob2, t1, t2, t3⟩ := p3.obj _ _ hlk2
    rw [hgg] at t1; cases t1
    obtain ⟨fn2, tmps2, dl2, rfl, he2⟩ := t3
    have fin : ∀ (jump : Option Code) (b : Bool), jump.isNone = b → v = .bool b → M' = { M2 with ob := upd M2.ob i (.loop (if b then .ready else .done) jump env'' ps'' as'' bd'') } →
        ∃ v2 w3, (Instr.endRound g.1 jump).run P w2 = .ok v2 w3 ∧ K (a.put o.dst v2) w3 := fun jump b hj hv hm => by
      subst hv; subst hm
      have hr := run_endRound (P := P) jump t2
      rw [hj] at hr
      obtain ⟨s1, s2⟩ := put_sound p3 (.loop { state := if b then .ready else .done, pending := jump, fn := fn2, tmps := tmps2, params := ps''.toArray, assign := as'', body := bd'', defers := dl2 }) hlk2 hgg (p := .loop (if b then .ready else .done) jump env'' ps'' as'' bd'') ⟨fn2, tmps2, dl2, rfl, he2⟩
      exact ⟨_, _, hr, hK r2 _ _ (.of_bool r2 b) s1 ((q4.trans n2).trans (p4.trans s2))⟩
    cases e2 with
    | normal => cases h; exact fin none true rfl rfl rfl
    | ret => cases h; exact fin (some .ret) false rfl rfl rfl
    | exit id => cases h; exact fin (some (.exit id)) false rfl rfl rfl
    | _ => cases h

/-- Not in a round. -/
def out (env : Env) (q : Rs) : Rs := bif env.rd then none else q
theorem out_some {env : Env} {q : Rs} {x : Exit × Env × Mem} (h : out env q = some x) : env.rd = false ∧ q = some x := by
  unfold out at h
  generalize env.rd = b at h
  cases b with
  | true => cases h
  | false => exact ⟨rfl, h⟩

/-! ### A region in the order of the text. -/
def opsE (P : Program) (T : Tab) (self : Self) (ops : Array Oper) : List Oper → Env → Mem → Rs
  | [], env, M => some (.normal, env, M)
  | o :: rest, env, M => bif wantedA ops env o then (bif isDefer o then out env (match deferA env o with
        | some d => opsE P T self ops rest (putA { env with ds := d :: env.ds } o.dst Go.undef) M
        | none => none)
      else match yieldA env o with
        | some (i, xs) => match roundE self M i xs with
          | some (v, M') => forceM M' fun M' => putK env o.dst v fun env' => opsE P T self ops rest env' M'
          | none => none
        | none => match opE P T self env M o with
          | some (.ret v M') => forceD 4 v fun v => forceM M' fun M' => putK env o.dst v fun env' => opsE P T self ops rest env' M'
          | some (.pan ch M') => some (.panic ch, env, M')
          | none => none)
    else putK env o.dst Go.undef fun env' => opsE P T self ops rest env' M
theorem opsE_sound {P : Program} (hN : noRoutines P) {G : List (Nat × List Value)} {T : Tab} (hT : TOk P G T) {self : Self} (hself : SelfOk P G self) {ops : Array Oper} : ∀ {l : List Oper} {env env' : Env} {M M' : Mem} {e : Exit}, opsE P T self ops l env M = some (e, env', M') →
    env'.rd = env.rd ∧ env'.gs = env.gs ∧ ∀ (ro : Option Nat) (r : Nat → Option (Nat × Nat)) (a : Act) (w : World) (Q : Exit → Act → World → Prop), (ro.isSome = true → env.rd = true) → ER r env a.tmps → DR r env.ds a.defers → MR r M w → M.gl = G →
      (∀ r' a' w', ER r' env' a'.tmps → DR r' env'.ds a'.defers → MR r' M' w' → Stp r M w r' M' w' → Q e a' w') → wpListIn (FR ro) 0 P ops Q l a w
  | [], env, env', M, M', e, h => by
    cases h
    exact ⟨rfl, rfl, fun ro r a w Q _ he hd hM hG hQ => hQ r a w he hd hM (.refl _ _ _)⟩
  | o :: l, env, env', M, M', e, h => by
    simp only [opsE] at h
    cases hw : wantedA ops env o with
    | false =>
      rw [hw] at h
      simp only [cond_false, putK_eq] at h
      obtain ⟨h1, h2, h3⟩ := opsE_sound hN hT hself h
      refine ⟨by rw [h1, putA_rd], by rw [h2, putA_gs], fun ro r a w Q hro he hd hM hG hQ => ?_⟩
      unfold wpListIn
      rw [wantedA_eq ops he o, hw, if_neg (by simp)]
      exact ⟨fun _ _ => trivial, h3 ro r _ w Q (by rw [putA_rd]; exact hro) (putA_rel he o.dst (.undef r)) (by rw [put_defers, putA_ds]; exact hd) hM hG hQ⟩
    | true =>
      rw [hw] at h
      simp only [cond_true] at h
      cases hdf : isDefer o with
      | true =>
        rw [hdf] at h
        simp only [cond_true] at h
        obtain ⟨hrd, h⟩ := out_some h
        split at h
        case h_2 => cases h
        rename_i d hda
        obtain ⟨h1, h2, h3⟩ := opsE_sound hN hT hself h
        refine ⟨by rw [h1, putA_rd], by rw [h2, putA_gs], fun ro r a w Q hro he hd hM hG hQ => ?_⟩
        have hnone : ro = none := by
          cases ro with
          | none => rfl
          | some l => have := hro rfl; rw [hrd] at this; cases this
        subst hnone
        unfold wpListIn
        rw [wantedA_eq ops he o, hw, if_pos rfl]
        refine ⟨fun _ _ => trivial, ?_⟩
        obtain ⟨x, k1, k2⟩ := defer_sound (P := P) w hda he hd
        have hsem : (o.semAt (FR none).round a.eval).run P w = .ok (.defer x) w := k1
        rw [hsem]
        exact h3 none r ({ a with defers := x :: a.defers }.put o.dst Go.undef) w Q (fun hn => by cases hn) (putA_rel (a := { a with defers := x :: a.defers }) (env := { env with ds := d :: env.ds }) ⟨he.1, he.2, he.3⟩ o.dst (.undef r)) (by rw [put_defers, putA_ds]; exact k2) hM hG hQ
      | false =>
        rw [hdf] at h
        simp only [cond_false] at h
        cases hy : yieldA env o with
        | some q =>
          obtain ⟨i, xs⟩ := q
          rw [hy] at h
          simp only at h
          cases hr : roundE self M i xs with
          | none => rw [hr] at h; cases h
          | some q =>
            obtain ⟨v, M2⟩ := q
            rw [hr] at h
            simp only [forceM_eq, putK_eq] at h
            obtain ⟨h1, h2, h3⟩ := opsE_sound hN hT hself h
            refine ⟨by rw [h1, putA_rd], by rw [h2, putA_gs], fun ro r a w Q hro he hd hM hG hQ => ?_⟩
            unfold wpListIn
            rw [wantedA_eq ops he o, hw, if_pos rfl]
            refine round_sound hself ro (not_defer hdf) hy hr he hM hG fun r' v' w' hv hm hs => ?_
            exact h3 ro r' _ w' Q (by rw [putA_rd]; exact hro) (putA_rel (he.mono hs.ext) o.dst hv) (by rw [put_defers, putA_ds]; exact hd.mono hs.ext) hm (hs.gl.trans hG) fun r'' a'' w'' k1 k2 k3 k4 => hQ r'' a'' w'' k1 k2 k3 (hs.trans k4)
        | none =>
          rw [hy] at h
          simp only at h
          cases ho : opE P T self env M o with
          | none => rw [ho] at h; cases h
          | some c =>
            rw [ho] at h
            cases c with
            | ret v M2 =>
              simp only [forceD_eq, forceM_eq, putK_eq] at h
              obtain ⟨h1, h2, h3⟩ := opsE_sound hN hT hself h
              refine ⟨by rw [h1, putA_rd], by rw [h2, putA_gs], fun ro r a w Q hro he hd hM hG hQ => ?_⟩
              unfold wpListIn
              rw [wantedA_eq ops he o, hw, if_pos rfl]
              refine opE_soundIn hN hT hself ro ho (not_defer hdf) he hM hG (fun v M' r' v' w' e hv hm hs => ?_) fun ch M' r' w' e => by cases e
              cases e
              exact h3 ro r' _ w' Q (by rw [putA_rd]; exact hro) (putA_rel (he.mono hs.ext) o.dst hv) (by rw [put_defers, putA_ds]; exact hd.mono hs.ext) hm (hs.gl.trans hG) fun r'' a'' w'' k1 k2 k3 k4 => hQ r'' a'' w'' k1 k2 k3 (hs.trans k4)
            | pan ch M2 =>
              cases h
              refine ⟨rfl, rfl, fun ro r a w Q hro he hd hM hG hQ => ?_⟩
              unfold wpListIn
              rw [wantedA_eq ops he o, hw, if_pos rfl]
              refine opE_soundIn hN hT hself ro ho (not_defer hdf) he hM hG (fun v M' r' v' w' e => by cases e) fun ch M' r' w' e hm hs => ?_
              cases e
              exact hQ r' a w' (he.mono hs.ext) (hd.mono hs.ext) hm hs

/-! ### A range over a function. -/
def rangeE (P : Program) (self : Self) (g : Operand) (ps : Array Tmp) (as bd : Code) (env : Env) (M : Mem) : Rs := out env (match ev env g with
  | some (.func (.func f) first captured) => match P.funcs[f]? with
    | some fn => match fn.body with
      | some b => match env with | ⟨_, _, gs, _, _⟩ => M.openK (.loop .ready none env ps.toList as bd) fun d l M1 => match callE P self gs fn b (first.toList ++ [.func (.yield l) #[] #[]] ++ captured.toList) M1 with
        | some (.ret _ M2) => match look M2.ob l with
          | some (.loop st pd _ _ _ _) => bif decide (st = .busy) then none else match pd with
            | none => env.markK (.mark d) fun env => M2.killK l fun M2 => some (.normal, env, M2)
            | some .ret => env.markK (.mark d) fun env => M2.killK l fun M2 => some (.ret, env, M2)
            | some (.exit j) => env.markK (.mark d) fun env => M2.killK l fun M2 => some (.exit j, env, M2)
            | _ => none
          | _ => none
        | some (.pan ch M2) => env.markK (.mark d) fun env => some (.panic ch, env, M2)
        | none => none
      | none => none
    | none => none
  | _ => none)
theorem range_sound {P : Program} (hN : noRoutines P) {G : List (Nat × List Value)} {self : Self} (hself : SelfOk P G self) {g : Operand} {ps : Array Tmp} {as bd : Code} {env env' : Env} {M M' : Mem} {e : Exit} (h : rangeE P self g ps as bd env M = some (e, env', M')) :
    SoundAt P G (.rangeFunc g ps as bd) env M e env' M' := by
  unfold rangeE at h
  simp only [Env.markK_eq, Mem.openK_eq, Mem.killK_eq] at h
  obtain ⟨hrd, h⟩ := out_some h
  · split at h
    case h_2 => cases h
    rename_i f first captured h0
    split at h
    case h_2 => cases h
    rename_i fn hf
    split at h
    case h_2 => cases h
    rename_i b hb
    have hkeep : env'.rd = env.rd ∧ env'.gs = env.gs := by
      split at h
      case h_3 => cases h
      · split at h
        case h_2 => cases h
        rename_i st pd _ _ _ _ _
        generalize decide (st = .busy) = q at h
        cases q with
        | true => cases h
        | false =>
          simp only [cond_false] at h
          split at h <;> first | (cases h; exact ⟨rfl, rfl⟩) | cases h
      · cases h; exact ⟨rfl, rfl⟩
    refine ⟨hkeep.1, hkeep.2, fun ro r a w hro he hd hM hG => ?_⟩
    have hnone : ro = none := by
      cases ro with
      | none => rfl
      | some l => have := hro rfl; rw [hrd] at this; cases this
    subst hnone
    refine wpIn_rangeFunc fun fno _ => ?_
    obtain ⟨ys, vs, hv, e1, e2⟩ := (ev_sound he h0).of_func rfl
    -- the two new blocks
    obtain ⟨m1, m2⟩ := newO_sound (w' := w.alloc (.deferred (some []))) hM (o := .defd) (h := .deferred (some [])) rfl rfl rfl rfl rfl
    obtain ⟨n1, n2⟩ := newO_sound (w' := (w.alloc (.deferred (some []))).alloc (.loop { state := .ready, pending := none, fn := fno, tmps := a.tmps, params := ps, assign := as, body := bd, defers := w.heap.size })) m1
      (o := .loop .ready none env ps.toList as bd) (h := .loop { state := .ready, pending := none, fn := fno, tmps := a.tmps, params := ps, assign := as, body := bd, defers := w.heap.size }) ⟨fno, a.tmps, w.heap.size, by simp, he.mono m2.ext⟩ rfl rfl rfl rfl
    have hs := m2.trans n2
    have hsz : (w.alloc (.deferred (some []))).heap.size = w.heap.size + 1 := by simp
    have hl0 : more (more r (64 * M.next) (w.heap.size, 0)) (64 * (M.next + 1)) ((w.alloc (.deferred (some []))).heap.size, 0) (64 * (M.next + 1)) = some (w.heap.size + 1, 0) := by
      rw [more_self, hsz]
    have hd0 : more (more r (64 * M.next) (w.heap.size, 0)) (64 * (M.next + 1)) ((w.alloc (.deferred (some []))).heap.size, 0) (64 * M.next) = some (w.heap.size, 0) := n2.ext _ _ (more_self _ _ _)
    have hname : ¬ fn.name = "runtime.NumGoroutine" := by simpa using hN f fn hf
    refine ⟨w.heap.size + 1, _, ((w.alloc (.deferred (some []))).alloc (.loop { state := .ready, pending := none, fn := fno, tmps := a.tmps, params := ps, assign := as, body := bd, defers := w.heap.size })), { target := .fn (.func f) vs, args := ys ++ #[.func (.yield (w.heap.size + 1)) #[] #[]] }, ((w.alloc (.deferred (some []))).alloc (.loop { state := .ready, pending := none, fn := fno, tmps := a.tmps, params := ps, assign := as, body := bd, defers := w.heap.size })), f, ys ++ #[.func (.yield (w.heap.size + 1)) #[] #[]] ++ vs, ((w.alloc (.deferred (some []))).alloc (.loop { state := .ready, pending := none, fn := fno, tmps := a.tmps, params := ps, assign := as, body := bd, defers := w.heap.size })), run_enterLoop_outer fno a.tmps ps as bd, by simp [resolve, rangeCall, Deferred.ofValue, hv, show ∀ v, a.eval (.const v) = v from fun _ => rfl], fun _ _ => trivial, by simp [invoke, callFunc, hf, hname, hb], fun hn => (by cases hn), ?_⟩
    have hx : LR (more (more r (64 * M.next) (w.heap.size, 0)) (64 * (M.next + 1)) ((w.alloc (.deferred (some []))).heap.size, 0)) (first.toList ++ [.func (.yield (64 * (M.next + 1))) #[] #[]] ++ captured.toList) (ys.toList ++ [.func (.yield (w.heap.size + 1)) #[] #[]] ++ vs.toList) :=
      ((e1.mono hs.ext).append (.cons (.yield _ _ hl0) (.nil _))).append (e2.mono hs.ext)
    have hcall : ∀ c, callE P self env.gs fn b (first.toList ++ [.func (.yield (64 * (M.next + 1))) #[] #[]] ++ captured.toList) { M with next := M.next + 1 + 1, ob := (64 * (M.next + 1), .loop .ready none env ps.toList as bd) :: (64 * M.next, .defd) :: M.ob } = some c → _ := fun c hc =>
      call_sound hN hself (gs := env.gs) hf hb hx n1 hG (fun g hg => by obtain ⟨s, hs'⟩ := he.3 g hg; exact ⟨s, hs.ext _ _ hs'⟩) hc
    have earr : (ys.toList ++ [Value.func (.yield (w.heap.size + 1)) #[] #[]] ++ vs.toList).toArray = ys ++ #[Value.func (.yield (w.heap.size + 1)) #[] #[]] ++ vs := by
      apply Array.ext'
      simp
    split at h
    case h_3 => cases h
    · rename_i u M2 hq
      have hc := hcall _ hq
      rw [earr] at hc
      refine (callsIn_wide (n := 0)).2 (hc.mono fun e' w' hg => ?_)
      obtain ⟨v', r', rfl, hv', hM2, hs2⟩ := hg
      split at h
      case h_2 => cases h
      rename_i st pd x1 x2 x3 x4 hlk
      generalize hbz : decide (st = .busy) = q at h
      cases q with
      | true => cases h
      | false =>
        simp only [cond_false] at h
        have hne : st ≠ .busy := by simpa using hbz
        obtain ⟨g', ob, t1, t2, t3⟩ := hM2.obj _ _ hlk
        rw [hs2.ext _ _ hl0] at t1; cases t1
        obtain ⟨fn2, tmps2, dl2, rfl, he2⟩ := t3
        obtain ⟨s1, s2⟩ := killO_sound (w' := w'.putObj (w.heap.size + 1) (.loop { state := .exhausted, pending := pd, fn := fn2, tmps := tmps2, params := x2.toArray, assign := x3, body := x4, defers := dl2 })) hM2 hlk (hs2.ext _ _ hl0) (fun _ hk => World.putObj_heap_other hk) World.putObj_size rfl rfl rfl
        have htot := (hs.trans hs2).trans s2
        have hdr : DR r' (.mark (64 * M.next) :: env.ds) ({ target := .collected w.heap.size, args := #[] } :: a.defers) := ⟨⟨(w.heap.size, 0), hs2.ext _ _ hd0, rfl⟩, hd.mono htot.ext⟩
        have her : ER r' { env with ds := .mark (64 * M.next) :: env.ds } a.tmps := by
          have := he.mono htot.ext
          exact ⟨this.1, this.2, this.3⟩
        refine ⟨pd, _, run_endLoop t2 hne, ?_⟩
        split at h
        · cases h; exact ⟨rfl, r', her, hdr, s1, htot⟩
        · cases h; exact wpIn_ret ⟨rfl, r', her, hdr, s1, htot⟩
        · cases h; exact wpIn_exit ⟨rfl, r', her, hdr, s1, htot⟩
        · cases h
    · rename_i ch M2 hq
      have hc := hcall _ hq
      rw [earr] at hc
      refine (callsIn_wide (n := 0)).2 (hc.mono fun e' w' hg => ?_)
      obtain ⟨rfl, r', hM2, hs2⟩ := hg
      cases h
      have htot := hs.trans hs2
      refine ⟨rfl, r', ?_, ⟨⟨(w.heap.size, 0), hs2.ext _ _ hd0, rfl⟩, hd.mono htot.ext⟩, hM2, htot⟩
      have := he.mono htot.ext
      exact ⟨this.1, this.2, this.3⟩
end Ev
end Go.Proofs.YtcgkjpmaiglcmabGreatDoor
