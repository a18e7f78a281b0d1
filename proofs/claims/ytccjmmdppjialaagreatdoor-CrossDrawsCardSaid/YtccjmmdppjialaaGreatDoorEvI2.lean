/- The evaluator, I2: deferred functions, how a function leaves, calls; what is known of closed calls. -/
import Derived.Test.YtccjmmdppjialaaGreatDoorEvI
namespace Go.Proofs.YtccjmmdppjialaaGreatDoor
open Go.RowKit
namespace Ev

def codeS (P : Program) (self : Self) : Code → Env → Mem → FrameMode → Option (Exit × Env × Mem × FrameMode)
  | .seq x y, env, M, u => match codeS P self x env M u with
    | some (.normal, e, m, v) => codeS P self y e m v
    | q => q
  | .region id ops draw, env, M, u => bif ops.toList.any isRecover then (bif draw then none else match opsS P ops (List.range ops.size) env M u with
      | some (e, m, v) => some (.normal, e, m, v)
      | none => none)
    else match self (.region id ops draw) env M with
      | some (x, e, m) => some (x, e, m, u)
      | none => none
  | c, env, M, u => match self c env M with
    | some (x, e, m) => some (x, e, m, u)
    | none => none
theorem wpSIn_mono {F : Fence} {n : Nat} {P : Program} {c : Code} {Q Q' : Exit → Act → List Frame → World → Prop} {a : Act} {cs : List Frame} {w : World} (h : c.wpSIn F n P Q a cs w) (hq : ∀ e a cs w, Q e a cs w → Q' e a cs w) : c.wpSIn F n P Q' a cs w :=
  fun b k h1 h2 h3 h4 => let ⟨e, a', cs', w', l, q, r⟩ := h b k h1 h2 h3 h4; ⟨e, a', cs', w', l, hq _ _ _ _ q, r⟩
theorem codeS_sound {P : Program} {G : List (Nat × List Value)} {self : Self} (hself : SelfOk P G self) {c₀ : Frame} {cs : List Frame} : ∀ (c : Code) {env env' : Env} {M M' : Mem} {u u' : FrameMode} {e : Exit}, codeS P self c env M u = some (e, env', M', u') →
    env'.rd = env.rd ∧ env'.gs = env.gs ∧ ∀ (r : Nat → Option (Nat × Nat)) (a : Act) (w : World), ER r env a.tmps → DR r env.ds a.defers → MR r M w → M.gl = G →
      c.wpSIn (FR none) 0 P (fun e' a' cs' w' => e' = e ∧ cs' = { c₀ with mode := u' } :: cs ∧ ∃ r', EX e r' env' a'.tmps ∧ DR r' env'.ds a'.defers ∧ MR r' M' w' ∧ Stp r M w r' M' w') a ({ c₀ with mode := u } :: cs) w := by
  have plain : ∀ (c : Code) {env env' : Env} {M M' : Mem} {u u' : FrameMode} {e : Exit}, (match self c env M with | some (x, e, m) => some (x, e, m, u) | none => none) = some (e, env', M', u') →
      env'.rd = env.rd ∧ env'.gs = env.gs ∧ ∀ (r : Nat → Option (Nat × Nat)) (a : Act) (w : World), ER r env a.tmps → DR r env.ds a.defers → MR r M w → M.gl = G →
        c.wpSIn (FR none) 0 P (fun e' a' cs' w' => e' = e ∧ cs' = { c₀ with mode := u' } :: cs ∧ ∃ r', EX e r' env' a'.tmps ∧ DR r' env'.ds a'.defers ∧ MR r' M' w' ∧ Stp r M w r' M' w') a ({ c₀ with mode := u } :: cs) w := by
    intro c env env' M M' u u' e h
    split at h
    case h_2 => cases h
    rename_i x e1 m1 hs
    cases h
    obtain ⟨h1, h2, h3⟩ := hself _ _ _ _ _ _ hs
    refine ⟨h1, h2, fun r a w he hd hM hG => wpSIn_of_wpIn rfl (wpIn_mono (h3 none r a w (fun hn => by cases hn) he hd hM hG) ?_)⟩
    rintro e' a' w' ⟨k1, k2⟩
    exact ⟨k1, rfl, k2⟩
  intro c
  induction c with
  | seq x y ihx ihy =>
    intro env env' M M' u u' e h
    simp only [codeS] at h
    cases hx : codeS P self x env M u with
    | none => rw [hx] at h; cases h
    | some q =>
      obtain ⟨e1, env1, M1, u1⟩ := q
      rw [hx] at h
      obtain ⟨h1, h2, h3⟩ := ihx hx
      cases e1 with
      | normal =>
        simp only at h
        obtain ⟨k1, k2, k3⟩ := ihy h
        refine ⟨k1.trans h1, k2.trans h2, fun r a w he hd hM hG => wpSIn_seq (wpSIn_mono (h3 r a w he hd hM hG) ?_)⟩
        rintro e' a' cs' w' ⟨rfl, rfl, r1, q1, q2, q3, q4⟩
        refine wpSIn_mono (k3 r1 a' w' q1 q2 q3 (q4.gl.trans hG)) ?_
        rintro e'' a'' cs'' w'' ⟨rfl, rfl, r2, p1, p2, p3, p4⟩
        exact ⟨rfl, rfl, r2, p1, p2, p3, q4.trans p4⟩
      | _ =>
        cases h
        refine ⟨h1, h2, fun r a w he hd hM hG => wpSIn_seq (wpSIn_mono (h3 r a w he hd hM hG) ?_)⟩
        rintro e' a' cs' w' ⟨rfl, k⟩
        exact ⟨rfl, k⟩
  | region id ops draw =>
    intro env env' M M' u u' e h
    simp only [codeS] at h
    cases hr : ops.toList.any isRecover with
    | false => rw [hr] at h; exact plain _ h
    | true =>
      rw [hr] at h
      simp only [cond_true] at h
      cases draw with
      | true => cases h
      | false =>
        simp only [cond_false] at h
        cases ho : opsS P ops (List.range ops.size) env M u with
        | none => rw [ho] at h; cases h
        | some q =>
          obtain ⟨e1, m1, v1⟩ := q
          rw [ho] at h; cases h
          -- what the environment keeps
          have keep : ∀ (l : List Nat) {env env' : Env} {M M' : Mem} {u u' : FrameMode}, opsS P ops l env M u = some (env', M', u') → env'.rd = env.rd ∧ env'.gs = env.gs := by
            intro l
            induction l with
            | nil => intro env env' M M' u u' h; cases h; exact ⟨rfl, rfl⟩
            | cons i l ih =>
              intro env env' M M' u u' h
              simp only [opsS] at h
              split at h
              · exact ih h
              · rename_i o _
                generalize wantedA ops env o = b at h
                cases b with
                | false => obtain ⟨k1, k2⟩ := ih h; exact ⟨by rw [k1, putA_rd], by rw [k2, putA_gs]⟩
                | true =>
                  simp only [cond_true] at h
                  generalize isRecover o = b at h
                  cases b with
                  | true =>
                    simp only [cond_true] at h
                    split at h
                    · rename_i v older
                      generalize af 4 v = b at h
                      cases b with
                      | false => cases h
                      | true => obtain ⟨k1, k2⟩ := ih h; exact ⟨by rw [k1, putA_rd], by rw [k2, putA_gs]⟩
                    · obtain ⟨k1, k2⟩ := ih h; exact ⟨by rw [k1, putA_rd], by rw [k2, putA_gs]⟩
                    · cases h
                  | false =>
                    simp only [cond_false] at h
                    split at h
                    · obtain ⟨k1, k2⟩ := ih h; exact ⟨by rw [k1, putA_rd], by rw [k2, putA_gs]⟩
                    · cases h
          obtain ⟨k1, k2⟩ := keep _ ho
          refine ⟨k1, k2, fun r a w he hd hM hG => wpSIn_region (opsS_sound ho he hd hM fun _ _ r' a' w' q1 q2 q3 q4 => ⟨rfl, rfl, r', EX.of q1, q2, q3, q4⟩)⟩
  | _ => intro env env' M M' u u' e h; exact plain _ h

/-- A deferred call. -/
def defE (P : Program) (self : Self) (gs : List Nat) (f : FuncId) (xs : List Value) (u : FrameMode) (M : Mem) : Option (FrameMode × Mem) := match P.funcs[f]? with
  | some fn => match fn.body with
    | some b => match codeS P self b (mkEnv gs fn.ntmps xs) M u with
      | some (.normal, env, M', u') => match env.ds with
        | [] => match resA P env M' fn.results.toList with
          | some _ => some (u', M')
          | none => none
        | _ => none
      | some (.ret, env, M', u') => match env.ds with
        | [] => match resA P env M' fn.results.toList with
          | some _ => some (u', M')
          | none => none
        | _ => none
      | _ => none
    | none => none
  | none => none
theorem def_sound {P : Program} {G : List (Nat × List Value)} {self : Self} (hself : SelfOk P G self) {gs : List Nat} {f : FuncId} {xs : List Value} {u u' : FrameMode} {M M' : Mem} (h : defE P self gs f xs u M = some (u', M')) {r : Nat → Option (Nat × Nat)} {ys : List Value} {w : World}
    (hx : LR r xs ys) (hM : MR r M w) (hG : M.gl = G) (hg : ∀ g ∈ gs, ∃ s, r (64 * g) = some (g, s)) :
    CallsDIn (FR none) 0 P f ys.toArray u w fun e u'' w' => (∃ v, e = .returned v) ∧ u'' = u' ∧ ∃ r', MR r' M' w' ∧ Stp r M w r' M' w' := by
  unfold defE at h
  split at h
  case h_2 => cases h
  rename_i fn hf
  split at h
  case h_2 => cases h
  rename_i b hb
  refine callsDIn_of_wpSIn hf hb trivial fun c₀ cs hu => ?_
  subst hu
  have henv : ER r (mkEnv gs fn.ntmps xs) (ys.toArray ++ Array.replicate (fn.ntmps - ys.toArray.size) Go.undef) := .made hx _ hg
  have key : ∀ (e : Exit) (env : Env) (M2 : Mem) (v : FrameMode), (e = .normal ∨ e = .ret) → codeS P self b (mkEnv gs fn.ntmps xs) M c₀.mode = some (e, env, M2, v) → (match env.ds with | [] => (match resA P env M2 fn.results.toList with | some _ => some (v, M2) | none => none) | _ => none) = some (u', M') →
      b.wpSIn (FR none) 0 P (bodyPostS P fn c₀ cs fun e u'' w' => (∃ v, e = .returned v) ∧ u'' = u' ∧ ∃ r', MR r' M' w' ∧ Stp r M w r' M' w') { tmps := ys.toArray ++ Array.replicate (fn.ntmps - ys.toArray.size) Go.undef, defers := [] } (c₀ :: cs) w := by
    intro e env M2 v he hc hr
    split at hr
    case h_2 => cases hr
    rename_i hds
    split at hr
    case h_2 => cases hr
    rename_i vs hvs
    cases hr
    obtain ⟨_, _, h3⟩ := codeS_sound (c₀ := c₀) (cs := cs) hself b hc
    refine wpSIn_mono (h3 r { tmps := ys.toArray ++ Array.replicate (fn.ntmps - ys.toArray.size) Go.undef, defers := [] } w henv trivial hM hG) ?_
    rintro e' a' cs' w' ⟨rfl, rfl, r', q1, q2, q3, q4⟩
    obtain ⟨v', h4, h5⟩ := results_sound q1.weak q3 fn hvs
    rw [hds] at q2
    have hd0 : a'.defers = [] := by
      cases hda : a'.defers with
      | nil => rfl
      | cons x xs => rw [hda] at q2; exact q2.elim
    rcases he with rfl | rfl
    · exact ⟨hd0, _, rfl, v', h4, ⟨v', rfl⟩, rfl, r', q3, q4⟩
    · exact ⟨hd0, _, rfl, v', h4, ⟨v', rfl⟩, rfl, r', q3, q4⟩
  split at h
  case h_3 => cases h
  · rename_i env M2 v hc
    exact key _ _ _ _ (.inl rfl) hc h
  · rename_i env M2 v hc
    exact key _ _ _ _ (.inr rfl) hc h

/-- How a function leaves: its deferred calls, the last laid first; its results. -/
def leaveE (P : Program) (dfr : FuncId → List Value → FrameMode → Mem → Option (FrameMode × Mem)) (env : Env) (rs : List ResultVar) : List ADf → FrameMode → Mem → Option CR
  | [], u, M => match u with
    | .returning => match resA P env M rs with
      | some vs => some (.ret (one vs) M)
      | none => none
    | .panicking ch => some (.pan ch M)
    | .run => none
  | d :: ds, u, M => match u with
    | .run => none
    | u => match d with
      | .mark i => match look M.ob i with
        | some .defd => leaveE P dfr env rs ds u { M with ob := kill M.ob i }
        | _ => none
      | .call f xs => match P.funcs[f]? with
        | some fn => match fn.body with
          | some _ => match dfr f xs u M with
            | some (u', M') => leaveE P dfr env rs ds (settle u') M'
            | none => none
          | none => none
        | none => none
theorem leave_sound {P : Program} (hN : noRoutines P) {G : List (Nat × List Value)} {dfr : FuncId → List Value → FrameMode → Mem → Option (FrameMode × Mem)} {gs : List Nat}
    (hdef : ∀ f xs u M u' M', dfr f xs u M = some (u', M') → ∀ (r : Nat → Option (Nat × Nat)) (ys : List Value) (w : World), LR r xs ys → MR r M w → M.gl = G → (∀ g ∈ gs, ∃ s, r (64 * g) = some (g, s)) →
      CallsDIn (FR none) 0 P f ys.toArray u w fun e u'' w' => (∃ v, e = .returned v) ∧ u'' = u' ∧ ∃ r', MR r' M' w' ∧ Stp r M w r' M' w')
    {env : Env} (hgs : env.gs = gs) {fn : Func} {tmps : Array Value} {c : CR} : ∀ {ds : List ADf} {es : List Deferred} {u : FrameMode} {M : Mem} {r : Nat → Option (Nat × Nat)} {w : World} {R : Ending → World → Prop},
    leaveE P dfr env fn.results.toList ds u M = some c → EW r env tmps → DR r ds es → MR r M w → M.gl = G → (∀ e w', Gives r M w c e w' → R e w') → LeavesInM (FR none) 0 P fn tmps R es u w
  | [], [], u, M, r, w, R, h, he, hd, hM, hG, hR => by
    unfold LeavesInM
    cases u with
    | run => cases h
    | panicking ch => cases h; exact hR _ _ ⟨rfl, r, hM, .refl _ _ _⟩
    | returning =>
      simp only [leaveE] at h
      cases hr : resA P env M fn.results.toList with
      | none => rw [hr] at h; cases h
      | some vs =>
        rw [hr] at h; cases h
        obtain ⟨v', h1, h2⟩ := results_sound he hM fn hr
        exact ⟨v', h1, hR _ _ ⟨v', r, rfl, h2, hM, .refl _ _ _⟩⟩
  | d :: ds, x :: es, u, M, r, w, R, h, he, hd, hM, hG, hR => by
    have hu : u ≠ .run := by rintro rfl; cases h
    unfold LeavesInM
    refine ⟨hu, ?_⟩
    cases d with
    | mark i =>
      obtain ⟨⟨g, h1, rfl⟩, h3⟩ := hd
      have h' : (match look M.ob i with | some .defd => leaveE P dfr env fn.results.toList ds u { M with ob := kill M.ob i } | _ => none) = some c := by
        cases u <;> first | exact absurd rfl hu | exact h
      split at h'
      case h_2 => cases h'
      rename_i hl
      obtain ⟨g', o, k1, k2, k3⟩ := hM.obj _ _ hl
      rw [h1] at k1; cases k1
      have k3' : o = .deferred (some []) := k3
      subst k3'
      obtain ⟨m1, m2⟩ := killO_sound (w' := w.putObj g.1 (.deferred none)) hM hl h1 (fun k hk => World.putObj_heap_other hk) World.putObj_size rfl rfl rfl
      exact .inl ⟨g.1, _, rfl, run_takeDeferred k2, leave_sound hN hdef hgs h' he h3 m1 hG fun e w' hgv => hR e w' (hgv.trans m2)⟩
    | call f xs =>
      obtain ⟨⟨as, cap, rfl, h1⟩, h3⟩ := hd
      have h' : (match P.funcs[f]? with | some fn' => (match fn'.body with | some _ => (match dfr f xs u M with | some (u', M') => leaveE P dfr env fn.results.toList ds (settle u') M' | none => none) | none => none) | none => none) = some c := by
        cases u <;> first | exact absurd rfl hu | exact h
      split at h'
      case h_2 => cases h'
      rename_i fn' hf
      split at h'
      case h_2 => cases h'
      rename_i b hb
      split at h'
      case h_2 => cases h'
      rename_i u' M' hdf
      refine .inr ⟨(fun hn => (by cases hn)), .func f, cap, f, as ++ cap, rfl, ?_, fun _ _ => trivial, ?_⟩
      · have hname : ¬ fn'.name = "runtime.NumGoroutine" := by simpa using hN f fn' hf
        simp [invoke, callFunc, hf, hname, hb]
      · have hc := hdef f xs u M u' M' hdf r (as.toList ++ cap.toList) w h1 hM hG (by rw [← hgs]; exact he.3)
        have e1 : (as.toList ++ cap.toList).toArray = as ++ cap := by
          apply Array.ext'
          simp
        rw [e1] at hc
        refine hc.mono fun e u'' w' ⟨⟨v, hv⟩, hu', r', m1, m2⟩ => ?_
        subst hv; subst hu'
        exact leave_sound hN hdef hgs h' (he.mono m2.ext) (h3.mono m2.ext) m1 (m2.gl.trans hG) fun e w'' hgv => hR e w'' (hgv.trans m2)
  | [], _ :: _, _, _, _, _, _, _, _, hd, _, _, _ => hd.elim
  | .mark _ :: _, [], _, _, _, _, _, _, _, hd, _, _, _ => hd.elim
  | .call _ _ :: _, [], _, _, _, _, _, _, _, hd, _, _, _ => hd.elim

/-! ### Calls. -/
def bodyE (P : Program) (self : Self) (gs : List Nat) (fn : Func) (b : Code) (xs : List Value) (M : Mem) : Option CR := mkEnvK gs fn.ntmps xs fun env0 => match self b env0 M with
  | some (.normal, env, M') => leaveE P (defE P self gs) env fn.results.toList env.ds .returning M'
  | some (.ret, env, M') => leaveE P (defE P self gs) env fn.results.toList env.ds .returning M'
  | some (.panic ch, env, M') => leaveE P (defE P self gs) env fn.results.toList env.ds (.panicking ch) M'
  | _ => none
theorem body_sound {P : Program} (hN : noRoutines P) {G : List (Nat × List Value)} {self : Self} (hself : SelfOk P G self) {gs : List Nat} {f : FuncId} {fn : Func} {b : Code} (hf : P.funcs[f]? = some fn) (hb : fn.body = some b) {xs ys : List Value} {M : Mem} {c : CR}
    {r : Nat → Option (Nat × Nat)} {w : World} (hx : LR r xs ys) (hM : MR r M w) (hG : M.gl = G) (hg : ∀ g ∈ gs, ∃ s, r (64 * g) = some (g, s)) (h : bodyE P self gs fn b xs M = some c) :
    Calls P f ys.toArray w (Gives r M w c) := by
  refine (callsIn_wide (n := 0)).1 (callsIn_of_wp_marks hf hb trivial ?_)
  have henv : ER r (mkEnv gs fn.ntmps xs) (ys.toArray ++ Array.replicate (fn.ntmps - ys.toArray.size) Go.undef) := .made hx _ hg
  have key : ∀ (e : Exit) (u : FrameMode) (env' : Env) (M2 : Mem), (((e = .normal ∨ e = .ret) ∧ u = .returning) ∨ ∃ ch, e = .panic ch ∧ u = .panicking ch) → self b (mkEnv gs fn.ntmps xs) M = some (e, env', M2) →
      leaveE P (defE P self gs) env' fn.results.toList env'.ds u M2 = some c →
      b.wpIn (FR none) 0 P (bodyPostM (FR none) 0 P fn (Gives r M w c)) { tmps := ys.toArray ++ Array.replicate (fn.ntmps - ys.toArray.size) Go.undef, defers := [] } w := by
    intro e u env' M2 he hs hl
    obtain ⟨_, h2, h3⟩ := hself _ _ _ _ _ _ hs
    refine wpIn_mono (h3 none r { tmps := ys.toArray ++ Array.replicate (fn.ntmps - ys.toArray.size) Go.undef, defers := [] } w (fun hn => by cases hn) henv trivial hM hG) ?_
    rintro e' a' w' ⟨rfl, r', q1, q2, q3, q4⟩
    have hlv : LeavesInM (FR none) 0 P fn a'.tmps (Gives r M w c) a'.defers u w' :=
      leave_sound hN (fun f xs u M u' M' hd r ys w hx hM hG hg => def_sound hself hd hx hM hG hg) h2 hl q1.weak q2 q3 (q4.gl.trans hG) fun e w'' hgv => hgv.trans q4
    rcases he with ⟨he | he, rfl⟩ | ⟨ch, he, rfl⟩
    · rw [he]; exact hlv
    · rw [he]; exact hlv
    · rw [he]; exact hlv
  unfold bodyE at h
  rw [mkEnvK_eq] at h
  split at h
  case h_4 => cases h
  · rename_i env' M2 hs; exact key _ _ _ _ (.inl ⟨.inl rfl, rfl⟩) hs h
  · rename_i env' M2 hs; exact key _ _ _ _ (.inl ⟨.inr rfl, rfl⟩) hs h
  · rename_i ch env' M2 hs; exact key _ _ _ _ (.inr ⟨ch, rfl, rfl⟩) hs h

def Mem.ownK {α : Type} (M : Mem) (k : Mem → α) : α := match M with
  | ⟨next, _, _, gl, _⟩ => forceN (64 * next) fun lo => k ⟨next, lo, gl, gl, []⟩
theorem Mem.ownK_eq {α : Type} (M : Mem) (k : Mem → α) : M.ownK k = k M.own := by
  obtain ⟨next, lo, bl, gl, ob⟩ := M
  simp [Mem.ownK, Mem.own, forceN_eq]
def Mem.dropK {α : Type} (M M' : Mem) (k : Mem → α) : α := match M with
  | ⟨_, lo, bl, gl, ob⟩ => (match M' with
    | ⟨next, _, _, _, _⟩ => forceN next fun next => k ⟨next, lo, bl, gl, ob⟩)
theorem Mem.dropK_eq {α : Type} (M M' : Mem) (k : Mem → α) : M.dropK M' k = k { M with next := M'.next } := by
  obtain ⟨next, lo, bl, gl, ob⟩ := M
  obtain ⟨next', lo', bl', gl', ob'⟩ := M'
  simp [Mem.dropK, forceN_eq]
def callE (P : Program) (self : Self) (gs : List Nat) (fn : Func) (b : Code) (xs : List Value) (M : Mem) : Option CR :=
  forceVs (forceD 4) xs fun xs => bif xs.all (af 4) then M.ownK fun Mo => (match bodyE P self gs fn b xs Mo with
    | some (.ret v M') => forceD 4 v fun v => bif af 4 v then M.dropK M' fun M2 => some (.ret v M2) else M.joinK M' fun M2 => some (.ret v M2)
    | some (.pan ch M') => M.dropK M' fun M2 => some (.pan ch M2)
    | none => none)
  else bodyE P self gs fn b xs M
theorem call_sound {P : Program} (hN : noRoutines P) {G : List (Nat × List Value)} {self : Self} (hself : SelfOk P G self) {gs : List Nat} {f : FuncId} {fn : Func} {b : Code} (hf : P.funcs[f]? = some fn) (hb : fn.body = some b) {xs ys : List Value} {M : Mem} {c : CR}
    {r : Nat → Option (Nat × Nat)} {w : World} (hx : LR r xs ys) (hM : MR r M w) (hG : M.gl = G) (hg : ∀ g ∈ gs, ∃ s, r (64 * g) = some (g, s)) (h : callE P self gs fn b xs M = some c) :
    Calls P f ys.toArray w (Gives r M w c) := by
  unfold callE at h
  simp only [forceVs_eq (forceD_eq 4), Mem.ownK_eq, forceD_eq, Mem.dropK_eq, Mem.joinK_eq] at h
  cases ha : xs.all (af 4) with
  | false => rw [ha] at h; exact body_sound hN hself hf hb hx hM hG hg h
  | true =>
    rw [ha] at h
    simp only [cond_true] at h
    split at h
    case h_3 => cases h
    · rename_i u M2 hq
      have hc := body_sound hN hself hf hb hx (own_rel hM) hG hg hq
      refine hc.mono fun e w' ⟨v', r', he, hv, hM2, hs⟩ => ?_
      cases hu : af 4 u with
      | true =>
        rw [hu] at h; cases h
        obtain ⟨h1, h2⟩ := drop_sound hM hM2 hs
        exact ⟨v', r', he, hv, h1, h2⟩
      | false =>
        rw [hu] at h; cases h
        obtain ⟨h1, h2⟩ := join_sound hM hM2 hs
        exact ⟨v', r', he, hv, h1, h2⟩
    · rename_i ch M2 hq
      cases h
      have hc := body_sound hN hself hf hb hx (own_rel hM) hG hg hq
      refine hc.mono fun e w' ⟨he, r', hM2, hs⟩ => ?_
      obtain ⟨h1, h2⟩ := drop_sound hM hM2 hs
      exact ⟨he, r', h1, h2⟩
end Ev
end Go.Proofs.YtccjmmdppjialaaGreatDoor
