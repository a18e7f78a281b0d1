/- The evaluator, M: code, and what it is all for: a call whose arguments have no addresses gives what the evaluator says, and leaves what was there as it was. -/
import Derived.Test.YtccjmmdppjialaaGreatDoorEvL
import Derived.Scope
namespace Go.Proofs.YtccjmmdppjialaaGreatDoor
open Go.RowKit
namespace Ev

def loopE (self : Self) (b : Code) : Nat → Env → Mem → Rs
  | 0, _, _ => none
  | n + 1, env, M => match self b env M with
    | some (.normal, e, m) => loopE self b n e m
    | q => q
def codeE (P : Program) (T : Tab) (self : Self) (c : Code) (env : Env) (M : Mem) : Rs := match c with
  | .skip => some (.normal, env, M)
  | .label _ => some (.normal, env, M)
  | .exit i => some (.exit i, env, M)
  | .ret => some (.ret, env, M)
  | .region _ ops draw => bif draw then drawE P T self ops env M
    else opsE P T self ops ops.toList env M
  | .seq x y => match self x env M with
    | some (.normal, e, m) => self y e m
    | q => q
  | .cond x t e => match ev env x with
    | some (.bool b) => self (bif b then t else e) env M
    | _ => none
  | .block i b => match self b env M with
    | some (.exit j, e, m) => bif Nat.beq j i then some (.normal, e, m) else some (.exit j, e, m)
    | q => q
  | .scope b => out env (match self b env M with
    | some (.goto _, _, _) => none
    | q => q)
  | .loop b => loopE self b 1000000 env M
  | .rangeFunc g ps as bd => rangeE P self g ps as bd env M
  | _ => none
def evF (P : Program) (T : Tab) : Nat → Self
  | 0 => fun _ _ _ => none
  | n + 1 => codeE P T (evF P T n)

theorem loop_sound {P : Program} {G : List (Nat × List Value)} {self : Self} (hself : SelfOk P G self) {b : Code} {e : Exit} {env' : Env} {M' : Mem} : ∀ (n : Nat) {env : Env} {M : Mem}, loopE self b n env M = some (e, env', M') →
    env'.rd = env.rd ∧ env'.gs = env.gs ∧ ∀ (ro : Option Nat) (r : Nat → Option (Nat × Nat)) (a : Act) (w : World), (ro.isSome = true → env.rd = true) → ER r env a.tmps → DR r env.ds a.defers → MR r M w → M.gl = G → ∀ Q : Exit → Act → World → Prop,
      (∀ a' w', (∃ r', EX e r' env' a'.tmps ∧ DR r' env'.ds a'.defers ∧ MR r' M' w' ∧ Stp r M w r' M' w') → Q e a' w') → Code.roundsIn (FR ro) 0 P b Q n a w := by
  intro n
  induction n with
  | zero => intro env M h; cases h
  | succ n ih =>
    intro env M h
    simp only [loopE] at h
    cases hs : self b env M with
    | none => rw [hs] at h; cases h
    | some q =>
      obtain ⟨e1, env1, M1⟩ := q
      rw [hs] at h
      obtain ⟨h1, h2, h3⟩ := hself _ _ _ _ _ _ hs
      cases e1 with
      | normal =>
        simp only at h
        obtain ⟨k1, k2, k3⟩ := ih h
        refine ⟨k1.trans h1, k2.trans h2, fun ro r a w hro he hd hM hG Q hQ => ?_⟩
        rw [roundsIn_succ]
        refine wpIn_mono (h3 ro r a w hro he hd hM hG) ?_
        rintro e' a' w' ⟨rfl, r', q1, q2, q3, q4⟩
        exact k3 ro r' a' w' (by rw [h1]; exact hro) q1 q2 q3 (q4.gl.trans hG) Q fun a'' w'' ⟨r'', p1, p2, p3, p4⟩ => hQ a'' w'' ⟨r'', p1, p2, p3, q4.trans p4⟩
      | _ =>
        cases h
        refine ⟨h1, h2, fun ro r a w hro he hd hM hG Q hQ => ?_⟩
        rw [roundsIn_succ]
        refine wpIn_mono (h3 ro r a w hro he hd hM hG) ?_
        rintro e' a' w' ⟨rfl, hr⟩
        exact hQ a' w' hr

theorem code_sound {P : Program} (hN : noRoutines P) {G : List (Nat × List Value)} {T : Tab} (hT : TOk P G T) (hm : P.follows .mixedOrders = true) {self : Self} (hself : SelfOk P G self) : SelfOk P G (codeE P T self) := by
  intro c env M e env' M' h
  cases c with
  | skip => cases h; exact ⟨rfl, rfl, fun ro r a w _ he hd hM _ => wpIn_skip ⟨rfl, r, he, hd, hM, .refl _ _ _⟩⟩
  | label l => cases h; exact ⟨rfl, rfl, fun ro r a w _ he hd hM _ => wpIn_label ⟨rfl, r, he, hd, hM, .refl _ _ _⟩⟩
  | exit i => cases h; exact ⟨rfl, rfl, fun ro r a w _ he hd hM _ => wpIn_exit ⟨rfl, r, he, hd, hM, .refl _ _ _⟩⟩
  | ret => cases h; exact ⟨rfl, rfl, fun ro r a w _ he hd hM _ => wpIn_ret ⟨rfl, r, he, hd, hM, .refl _ _ _⟩⟩
  | region id ops draw =>
    simp only [codeE] at h
    cases draw with
    | true =>
      simp only [cond_true] at h
      exact draw_sound hN hT hm hself h
    | false =>
      simp only [cond_false] at h
      obtain ⟨h1, h2, h3⟩ := opsE_sound hN hT hself h
      exact ⟨h1, h2, fun ro r a w hro he hd hM hG => wpIn_region_list (h3 ro r a w _ hro he hd hM hG fun r' a' w' q1 q2 q3 q4 => ⟨rfl, r', EX.of q1, q2, q3, q4⟩)⟩
  | seq x y =>
    simp only [codeE] at h
    cases hs : self x env M with
    | none => rw [hs] at h; cases h
    | some q =>
      obtain ⟨e1, env1, M1⟩ := q
      rw [hs] at h
      obtain ⟨h1, h2, h3⟩ := hself _ _ _ _ _ _ hs
      cases e1 with
      | normal =>
        simp only at h
        obtain ⟨k1, k2, k3⟩ := hself _ _ _ _ _ _ h
        refine ⟨k1.trans h1, k2.trans h2, fun ro r a w hro he hd hM hG => wpIn_seq (wpIn_mono (h3 ro r a w hro he hd hM hG) ?_)⟩
        rintro e' a' w' ⟨rfl, r', q1, q2, q3, q4⟩
        refine wpIn_mono (k3 ro r' a' w' (by rw [h1]; exact hro) q1 q2 q3 (q4.gl.trans hG)) ?_
        rintro e'' a'' w'' ⟨rfl, r'', p1, p2, p3, p4⟩
        exact ⟨rfl, r'', p1, p2, p3, q4.trans p4⟩
      | _ =>
        cases h
        refine ⟨h1, h2, fun ro r a w hro he hd hM hG => wpIn_seq (wpIn_mono (h3 ro r a w hro he hd hM hG) ?_)⟩
        rintro e' a' w' ⟨rfl, hr⟩
        exact ⟨rfl, hr⟩
  | cond x t f =>
    simp only [codeE] at h
    split at h
    case h_2 => cases h
    rename_i b hb
    obtain ⟨h1, h2, h3⟩ := hself _ _ _ _ _ _ h
    refine ⟨h1, h2, fun ro r a w hro he hd hM hG => ?_⟩
    refine wpIn_cond (ev_sound he hb).bool ?_
    have := h3 ro r a w hro he hd hM hG
    cases b <;> exact this
  | block i b =>
    simp only [codeE] at h
    cases hs : self b env M with
    | none => rw [hs] at h; cases h
    | some q =>
      obtain ⟨e1, env1, M1⟩ := q
      rw [hs] at h
      obtain ⟨h1, h2, h3⟩ := hself _ _ _ _ _ _ hs
      cases e1 with
      | exit j =>
        simp only at h
        cases hj : Nat.beq j i with
        | true =>
          rw [hj] at h; cases h
          refine ⟨h1, h2, fun ro r a w hro he hd hM hG => wpIn_block (wpIn_mono (h3 ro r a w hro he hd hM hG) ?_)⟩
          rintro e' a' w' ⟨rfl, hr⟩
          simp only [Exit.inBlock, Nat.eq_of_beq_eq_true hj, if_true]
          exact ⟨trivial, hr⟩
        | false =>
          rw [hj] at h; cases h
          have hne : ¬ j = i := fun e => by subst e; simp at hj
          refine ⟨h1, h2, fun ro r a w hro he hd hM hG => wpIn_block (wpIn_mono (h3 ro r a w hro he hd hM hG) ?_)⟩
          rintro e' a' w' ⟨rfl, hr⟩
          simp only [Exit.inBlock, if_neg hne]
          exact ⟨trivial, hr⟩
      | _ =>
        cases h
        refine ⟨h1, h2, fun ro r a w hro he hd hM hG => wpIn_block (wpIn_mono (h3 ro r a w hro he hd hM hG) ?_)⟩
        rintro e' a' w' ⟨rfl, hr⟩
        exact ⟨rfl, hr⟩
  | scope b =>
    simp only [codeE] at h
    obtain ⟨hrd, h⟩ := out_some h
    have hs : self b env M = some (e, env', M') ∧ ∀ l, e ≠ .goto l := by
      split at h
      · cases h
      · rename_i hne
        refine ⟨h, fun l el => ?_⟩
        subst el
        exact hne l env' M' h
    obtain ⟨h1, h2, h3⟩ := hself _ _ _ _ _ _ hs.1
    refine ⟨h1, h2, fun ro r a w hro he hd hM hG => ?_⟩
    have hnone : ro = none := by
      cases ro with
      | none => rfl
      | some l => have := hro rfl; rw [hrd] at this; cases this
    subst hnone
    refine (wpIn_wide (n := 0)).2 (wp_scope_straight ((wpIn_wide (n := 0)).1 (wpIn_mono (h3 none r a w hro he hd hM hG) ?_)))
    rintro e' a' w' ⟨rfl, hr⟩
    cases e' with
    | goto l => exact absurd rfl (hs.2 l)
    | _ => exact ⟨rfl, hr⟩
  | loop b =>
    simp only [codeE] at h
    obtain ⟨h1, h2, h3⟩ := loop_sound hself 1000000 h
    exact ⟨h1, h2, fun ro r a w hro he hd hM hG => wpIn_loop_rounds 1000000 (h3 ro r a w hro he hd hM hG _ fun a' w' hr => ⟨rfl, hr⟩)⟩
  | rangeFunc g ps as bd => exact range_sound hN hself h
  | _ => cases h
theorem evF_ok {P : Program} (hN : noRoutines P) {G : List (Nat × List Value)} {T : Tab} (hT : TOk P G T) (hm : P.follows .mixedOrders = true) : ∀ n, SelfOk P G (evF P T n)
  | 0 => fun _ _ _ _ _ _ h => by cases h
  | n + 1 => code_sound hN hT hm (evF_ok hN hT hm n)

/-- The tables are laid out as they should be: each under its variable's number times 64, below 64 K, of plain values. -/
def glOk (K : Nat) (G : List (Nat × List Value)) : Bool := G.all fun p => (Nat.blt p.1 (64 * K) && Nat.beq (p.1 % 64) 0) && p.2.all (af 1)
/-- What a closed call comes to. -/
def runA (P : Program) (G : List (Nat × List Value)) (K : Nat) (T : Tab) (n : Nat) (f : FuncId) (xs : List Value) : Option Value := match P.funcs[f]? with
  | some fn => match fn.body with
    | some b => match callE P (evF P T n) (G.map fun p => p.1 / 64) fn b xs { next := K, lo := 64 * K, bl := G, gl := G, ob := [] } with
      | some (.ret v _) => some v
      | _ => none
    | none => none
  | none => none
theorem look_mem {α : Type} : ∀ {G : List (Nat × α)} {i : Nat} {c : α}, look G i = some c → (i, c) ∈ G
  | [], _, _, h => by cases h
  | (k, d) :: G, i, c, h => by
    rw [look_cons] at h
    by_cases e : k = i
    · subst e; rw [if_pos rfl] at h; cases h; exact List.mem_cons_self
    · rw [if_neg e] at h; exact List.mem_cons_of_mem _ (look_mem h)
theorem look_of_mem {α : Type} : ∀ {G : List (Nat × α)} {p : Nat × α}, p ∈ G → ∃ c, look G p.1 = some c
  | q :: G, p, h => by
    obtain ⟨k, d⟩ := q
    rw [look_cons]
    by_cases e : k = p.1
    · exact ⟨d, by rw [if_pos e]⟩
    · rw [if_neg e]
      rcases List.mem_cons.1 h with rfl | h
      · exact absurd rfl e
      · exact look_of_mem h
theorem runA_sound {P : Program} (hN : noRoutines P) {G : List (Nat × List Value)} {K : Nat} (hG : glOk K G = true) {T : Tab} (hT : TOk P G T) (hm : P.follows .mixedOrders = true) {n : Nat} {f : FuncId} {xs : List Value} {v : Value} (h : runA P G K T n f xs = some v) (hx : xs.all (af 4) = true) (hv : af 4 v = true) (w : World) (hw : GL G w) :
    Calls P f xs.toArray w fun e w' => e = .returned v ∧ Below w.heap.size w w' := by
  unfold runA at h
  split at h
  case h_2 => cases h
  rename_i fn hf
  split at h
  case h_2 => cases h
  rename_i b hb
  split at h
  case h_2 => cases h
  rename_i u M' hc
  cases h
  have ok : ∀ i cs, look G i = some cs → i < 64 * K ∧ i % 64 = 0 ∧ cs.all (af 1) = true := fun i cs hl => by
    have := List.all_eq_true.1 hG _ (look_mem hl)
    simp only [Bool.and_eq_true] at this
    exact ⟨Nat.le_of_ble_eq_true this.1.1, Nat.eq_of_beq_eq_true this.1.2, this.2⟩
  have hr0 : ∀ i cs, look G i = some cs → (fun i => match look G i with | some _ => some (i / 64, 0) | none => none : Nat → Option (Nat × Nat)) i = some (i / 64, 0) := fun i cs hl => by simp only [hl]
  have hr1 : ∀ i g, (fun i => match look G i with | some _ => some (i / 64, 0) | none => none : Nat → Option (Nat × Nat)) i = some g → (∃ cs, look G i = some cs) ∧ g = (i / 64, 0) := fun i g hi => by
    simp only at hi
    cases hl : look G i with
    | none => rw [hl] at hi; cases hi
    | some cs => rw [hl] at hi; cases hi; exact ⟨⟨cs, rfl⟩, rfl⟩
  have hM : MR (fun i => match look G i with | some _ => some (i / 64, 0) | none => none) { next := K, lo := 64 * K, bl := G, gl := G, ob := [] } w := by
    refine ⟨fun i cs hl => ?_, fun i j cs ds g k hl hl' hi hj e => ?_, fun i g hi => ?_, fun i cs hl => ?_, fun _ _ hl => (by cases hl), fun _ _ _ _ _ _ hl => (by cases hl)⟩
    · obtain ⟨t, cc, h1, h2⟩ := hw i cs hl
      obtain ⟨o1, o2, o3⟩ := ok i cs hl
      exact ⟨(i / 64, 0), t, cc, hr0 i cs hl, h1, fun h0 => by omega, fun j v hv => ⟨v, h2 j v hv, .same 1 _ (List.all_eq_true.1 o3 v (List.mem_of_getElem? hv))⟩⟩
    · obtain ⟨_, rfl⟩ := hr1 _ _ hi
      obtain ⟨_, rfl⟩ := hr1 _ _ hj
      have o1 := (ok _ _ hl).2.1
      have o2 := (ok _ _ hl').2.1
      simp only at e
      omega
    · obtain ⟨⟨cs, hl⟩, rfl⟩ := hr1 _ _ hi
      exact (ok _ _ hl).1
    · obtain ⟨o1, o2, o3⟩ := ok i cs hl
      exact ⟨o1, hl, ⟨0, hr0 i cs hl⟩, o3⟩
  have hg : ∀ g ∈ G.map (fun p => p.1 / 64), ∃ s, (fun i => match look G i with | some _ => some (i / 64, 0) | none => none : Nat → Option (Nat × Nat)) (64 * g) = some (g, s) := fun g hg => by
    obtain ⟨p, hp, rfl⟩ := List.mem_map.1 hg
    obtain ⟨cs, hl⟩ := look_of_mem hp
    have o := (ok _ _ hl).2.1
    have e : 64 * (p.1 / 64) = p.1 := by omega
    rw [e]
    exact ⟨0, hr0 _ _ hl⟩
  refine (call_sound hN (evF_ok hN hT hm n) hf hb (LR.of_af hx) hM rfl hg hc).mono ?_
  rintro e w' ⟨v', r', rfl, h1, h2, h3⟩
  rw [h1.eq hv]
  refine ⟨rfl, h3.os, h3.tape, h3.output, h3.size, fun k hk => h3.keep k hk (fun i cs g hlo hl hi => ?_) fun _ _ _ hl => by cases hl⟩
  have := (ok i cs hl).1
  have hlo' : 64 * K ≤ i := hlo
  omega
/-- The same, as an entry of a table. -/
theorem known_of {P : Program} (hN : noRoutines P) {G : List (Nat × List Value)} {K : Nat} (hG : glOk K G = true) {T : Tab} (hT : TOk P G T) (hm : P.follows .mixedOrders = true) {n : Nat} {f : FuncId} {xs : List Value} {v : Value} (hx : xs.all (af 4) = true) (hv : af 4 v = true) (h : runA P G K T n f xs = some v) : Known P G (f, xs, v) :=
  ⟨hx, hv, fun w hw => runA_sound hN hG hT hm h hx hv w hw⟩
theorem tok_nil (P : Program) (G : List (Nat × List Value)) : TOk P G ⟨.e, .e⟩ := ⟨fun _ h => h.elim, fun _ h => h.elim⟩
theorem tok_k {P : Program} {G : List (Nat × List Value)} {q : FuncId × List Value × Value} {T : Tab} (h : Known P G q) (hT : TOk P G T) : TOk P G (T.putK q) := ⟨fun p hp => by
  rcases HT.put_has _ _ _ hp with rfl | hp
  · exact h
  · exact hT.1 p hp, hT.2⟩
theorem tok_c {P : Program} {G : List (Nat × List Value)} {q : KC} {T : Tab} (h : KnownC P G q) (hT : TOk P G T) : TOk P G (T.putC q) := ⟨hT.1, fun p hp => by
  rcases HT.put_has _ _ _ hp with rfl | hp
  · exact h
  · exact hT.2 p hp⟩
/-- A call in a state of memory, run. -/
def subB (bl : List (Nat × List Value)) : List (Nat × List Value) → Bool
  | [] => true
  | p :: l => match look bl p.1 with
    | some cs => beqL (beqV 6) p.2 cs && subB bl l
    | none => false
theorem subB_look {bl : List (Nat × List Value)} : ∀ {l : List (Nat × List Value)} {i : Nat} {cs : List Value}, subB bl l = true → look l i = some cs → look bl i = some cs
  | [], _, _, _, h => by cases h
  | (j, ds) :: l, i, cs, h, hl => by
    unfold subB at h
    split at h
    case h_2 => cases h
    rename_i es he
    simp only [Bool.and_eq_true] at h
    rw [look_cons] at hl
    split at hl
    · rename_i e; subst e; cases hl; rw [beqL_eq (beqV_eq 6) h.1]; exact he
    · exact subB_look h.2 hl
def chkC (P : Program) (G : List (Nat × List Value)) (n : Nat) (T : Tab) (q : KC) : Bool := match P.funcs[q.f]? with
  | some fn => match fn.body with
    | some b => appK q.bl G fun bl => match callE P (evF P T n) (G.map fun p => p.1 / 64) fn b q.xs ⟨q.next, q.lo, bl, G, q.ob⟩ with
      | some (.ret u M') => (beqV 6 u q.v && (Nat.beq M'.next q.next' && beqO M'.ob q.ob')) && subB M'.bl q.bl'
      | _ => false
    | none => false
  | none => false
theorem chkC_sound {P : Program} (hN : noRoutines P) {G : List (Nat × List Value)} {K : Nat} (hG : glOk K G = true) {T : Tab} (hT : TOk P G T) (hm : P.follows .mixedOrders = true) {n : Nat} {q : KC} (h : chkC P G n T q = true) : KnownC P G q := by
  intro r ys w hx hM
  unfold chkC at h
  split at h
  case h_2 => cases h
  rename_i fn hf
  split at h
  case h_2 => cases h
  rename_i b hb
  rw [appK_eq] at h
  split at h
  case h_2 => cases h
  rename_i u M' hc
  simp only [Bool.and_eq_true] at h
  obtain ⟨⟨h1, h2, h3⟩, h4⟩ := h
  have hM0 : MR r ⟨q.next, q.lo, q.bl ++ G, G, q.ob⟩ w := hM
  refine (call_sound hN (evF_ok hN hT hm n) hf hb hx hM0 rfl (fun g hg => ?_) hc).mono fun e w' ⟨v', r', he, hv, hm', hs⟩ => ?_
  · obtain ⟨p, hp, rfl⟩ := List.mem_map.1 hg
    obtain ⟨c, hl⟩ := look_of_mem hp
    have hp0 := List.all_eq_true.1 hG p hp
    simp only [Bool.and_eq_true] at hp0
    have hmod := Nat.eq_of_beq_eq_true hp0.1.2
    obtain ⟨_, _, ⟨s, hs⟩, _⟩ := hM.glob p.1 c hl
    exact ⟨s, by rw [show 64 * (p.1 / 64) = p.1 by omega]; exact hs⟩
  · have e0 := beqV_eq 6 _ _ h1
    subst e0
    have e1 := hs.gl
    have e2 := hs.lo
    have e3 := Nat.eq_of_beq_eq_true h2
    have e4 := beqO_eq h3
    have e5 : ∀ i cs, look (q.bl' ++ G) i = some cs → look M'.bl i = some cs := fun i cs hl => by
      rw [look_append] at hl
      cases hq : look q.bl' i with
      | some es => rw [hq] at hl; cases hl; exact subB_look h4 hq
      | none =>
        rw [hq] at hl
        exact (hm'.glob i cs (by rw [e1]; exact hl)).2.1
    have e6 : ∀ i cs, look M'.gl i = some cs → look (q.bl' ++ G) i = some cs := fun i cs hl => by
      have hl' : look G i = some cs := by rw [e1] at hl; exact hl
      rw [look_append]
      cases hq : look q.bl' i with
      | some es =>
        have k1 := subB_look h4 hq
        have k2 := (hm'.glob i cs hl).2.1
        rw [k1] at k2; cases k2; rfl
      | none => exact hl'
    have k1 := hm'.sub e5 e6
    have k2 := hs.fewer e5
    obtain ⟨next, lo, bl, gl, ob⟩ := M'
    simp only at e1 e2 e3 e4
    subst e1; subst e2; subst e3; subst e4
    exact ⟨v', r', he, hv, k1, k2⟩
/-- One known call after the other, each by those before it. -/
def chkS (P : Program) (G : List (Nat × List Value)) (K n : Nat) : Tab → List (Sum (FuncId × List Value × Value) KC) → Bool
  | _, [] => true
  | T, .inl (f, xs, v) :: L => bif xs.all (af 4) && af 4 v then match runA P G K T n f xs with
      | some u => bif beqV 6 u v then chkS P G K n (T.putK (f, xs, v)) L else false
      | none => false
    else false
  | T, .inr q :: L => bif chkC P G n T q then chkS P G K n (T.putC q) L else false
def pushT : Tab → List (Sum (FuncId × List Value × Value) KC) → Tab
  | T, [] => T
  | T, .inl q :: L => pushT (T.putK q) L
  | T, .inr q :: L => pushT (T.putC q) L
theorem chkS_tok {P : Program} (hN : noRoutines P) {G : List (Nat × List Value)} {K : Nat} (hG : glOk K G = true) (hm : P.follows .mixedOrders = true) {n : Nat} : ∀ {L : List (Sum (FuncId × List Value × Value) KC)} {T : Tab}, TOk P G T → chkS P G K n T L = true → TOk P G (pushT T L)
  | [], _, hT, _ => hT
  | .inl (f, xs, v) :: L, T, hT, h => by
    simp only [chkS] at h
    generalize hc : (xs.all (af 4) && af 4 v) = c at h
    cases c with
    | false => cases h
    | true =>
      simp only [Bool.and_eq_true] at hc
      simp only [cond_true] at h
      split at h
      case h_2 => cases h
      rename_i u hu
      cases hb : beqV 6 u v with
      | false => rw [hb] at h; cases h
      | true =>
        rw [hb] at h
        have e := beqV_eq 6 _ _ hb
        subst e
        exact chkS_tok (L := L) (T := T.putK (f, xs, u)) hN hG hm (tok_k (known_of hN hG hT hm hc.1 hc.2 hu) hT) h
  | .inr q :: L, T, hT, h => by
    simp only [chkS] at h
    cases hb : chkC P G n T q with
    | false => rw [hb] at h; cases h
    | true =>
      rw [hb] at h
      exact chkS_tok (L := L) (T := T.putC q) hN hG hm (tok_c (chkC_sound hN hG hT hm hb) hT) h
end Ev
end Go.Proofs.YtccjmmdppjialaaGreatDoor
