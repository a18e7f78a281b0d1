/- The evaluator, I3: a table of closed calls that are known; one operation, a call or not. -/
import Derived.Test.YtcgkjpmaiglcmabGreatDoorEvI2
namespace Go.Proofs.YtcgkjpmaiglcmabGreatDoor
open Go.RowKit
namespace Ev

/-- The tables of the program: what is known of package-level variables. -/
def GL (G : List (Nat × List Value)) (w : World) : Prop := ∀ i cs, look G i = some cs → ∃ t cc, w.heap[i / 64]? = some (.cells cc t (0, 0)) ∧ ∀ (j : Nat) v, cs[j]? = some v → cc[j]? = some v
theorem MR.gl {r : Nat → Option (Nat × Nat)} {M : Mem} {w : World} (h : MR r M w) : GL M.gl w := fun i cs hl => by
  obtain ⟨_, h1, ⟨s, h2⟩, h3⟩ := h.glob i cs hl
  obtain ⟨g, t, cc, h4, h5, _, h6⟩ := h.blk i cs h1
  rw [h2] at h4; cases h4
  refine ⟨t, cc, h5, fun j v hv => ?_⟩
  obtain ⟨v', h7, h8⟩ := h6 j v hv
  have := h8.eq (k := 1) (List.all_eq_true.1 h3 v (List.mem_of_getElem? hv))
  subst this
  exact h7

/-! ### A table of closed calls that are known. -/
abbrev Tab := List (FuncId × List Value × Value)
def beqL (p : Value → Value → Bool) : List Value → List Value → Bool
  | [], [] => true
  | x :: xs, y :: ys => p x y && beqL p xs ys
  | _, _ => false
def beqI : Int → Int → Bool
  | .ofNat a, .ofNat b => Nat.beq a b
  | .negSucc a, .negSucc b => Nat.beq a b
  | _, _ => false
theorem beqI_eq : ∀ {a b : Int}, beqI a b = true → a = b
  | .ofNat a, .ofNat b, h => by rw [Nat.eq_of_beq_eq_true h]
  | .negSucc a, .negSucc b, h => by rw [Nat.eq_of_beq_eq_true h]
  | .ofNat _, .negSucc _, h => by cases h
  | .negSucc _, .ofNat _, h => by cases h
def beqU : List UInt8 → List UInt8 → Bool
  | [], [] => true
  | a :: x, b :: y => bif Nat.beq a.toNat b.toNat then beqU x y else false
  | _, _ => false
theorem beqU_eq : ∀ {x y : List UInt8}, beqU x y = true → x = y
  | [], [], _ => rfl
  | [], _ :: _, h => by cases h
  | _ :: _, [], h => by cases h
  | a :: x, b :: y, h => by
    simp only [beqU] at h
    cases hb : Nat.beq a.toNat b.toNat with
    | false => rw [hb] at h; cases h
    | true =>
      rw [hb] at h
      rw [UInt8.toNat_inj.1 (Nat.eq_of_beq_eq_true hb), beqU_eq h]
def beqV : Nat → Value → Value → Bool
  | 0, _, _ => false
  | n + 1, x, y => match x, y with
    | .bool a, .bool b => Bool.decEq a b |>.decide
    | .int k a, .int l b => beqI a b && decide (k = l)
    | .string a, .string b => beqU a.data.toList b.data.toList
    | .pointer a, .pointer b => decide (a = b)
    | .slice a k c, .slice b m d => decide (a = b) && (Nat.beq k m && Nat.beq c d)
    | .map a, .map b => decide (a = b)
    | .nilFunc, .nilFunc => true
    | .nilIface, .nilIface => true
    | .agg a, .agg b => beqL (beqV n) a.toList b.toList
    | .tuple a, .tuple b => beqL (beqV n) a.toList b.toList
    | .func f a b, .func g c d => decide (f = g) && (beqL (beqV n) a.toList c.toList && beqL (beqV n) b.toList d.toList)
    | .iface t a, .iface u b => Nat.beq t u && beqV n a b
    | _, _ => false
theorem beqL_eq {p : Value → Value → Bool} (hp : ∀ x y, p x y = true → x = y) : ∀ {xs ys : List Value}, beqL p xs ys = true → xs = ys
  | [], [], _ => rfl
  | [], _ :: _, h => by cases h
  | _ :: _, [], h => by cases h
  | x :: xs, y :: ys, h => by
    simp only [beqL, Bool.and_eq_true] at h
    rw [hp x y h.1, beqL_eq hp h.2]
theorem beqV_eq : ∀ (n : Nat) (x y : Value), beqV n x y = true → x = y
  | 0, _, _, h => by cases h
  | n + 1, x, y, h => by
    have hl : ∀ {xs ys : Array Value}, beqL (beqV n) xs.toList ys.toList = true → xs = ys := fun h => Array.ext' (beqL_eq (beqV_eq n) h)
    unfold beqV at h
    split at h
    · rw [of_decide_eq_true h]
    · simp only [Bool.and_eq_true, decide_eq_true_eq] at h; rw [beqI_eq h.1, h.2]
    · rename_i a b
      obtain ⟨⟨a⟩⟩ := a
      obtain ⟨⟨b⟩⟩ := b
      rw [show a = b from beqU_eq h]
    · rw [of_decide_eq_true h]
    · simp only [Bool.and_eq_true, decide_eq_true_eq] at h; rw [h.1, Nat.eq_of_beq_eq_true h.2.1, Nat.eq_of_beq_eq_true h.2.2]
    · rw [of_decide_eq_true h]
    · rfl
    · rfl
    · rw [hl h]
    · rw [hl h]
    · simp only [Bool.and_eq_true, decide_eq_true_eq] at h; rw [h.1, hl h.2.1, hl h.2.2]
    · simp only [Bool.and_eq_true] at h; rw [Nat.eq_of_beq_eq_true h.1, beqV_eq n _ _ h.2]
    · cases h
def lookT : Tab → FuncId → List Value → Option Value
  | [], _, _ => none
  | q :: T, f, xs => bif Nat.beq q.1 f && beqL (beqV 6) q.2.1 xs then some q.2.2 else lookT T f xs
def Known (P : Program) (G : List (Nat × List Value)) (q : FuncId × List Value × Value) : Prop := q.2.1.all (af 4) = true ∧ af 4 q.2.2 = true ∧ ∀ w, GL G w → Calls P q.1 q.2.1.toArray w fun e w' => e = .returned q.2.2 ∧ Below w.heap.size w w'
def TOk (P : Program) (G : List (Nat × List Value)) (T : Tab) : Prop := ∀ q ∈ T, Known P G q
theorem lookT_sound {P : Program} {G : List (Nat × List Value)} : ∀ {T : Tab} {f : FuncId} {xs : List Value} {v : Value}, TOk P G T → lookT T f xs = some v → Known P G (f, xs, v)
  | [], _, _, _, _, h => by cases h
  | q :: T, f, xs, v, hT, h => by
    simp only [lookT] at h
    generalize hb : (Nat.beq q.1 f && beqL (beqV 6) q.2.1 xs) = b at h
    cases b with
    | false => exact lookT_sound (fun p hp => hT p (List.mem_cons_of_mem _ hp)) h
    | true =>
      cases h
      simp only [Bool.and_eq_true] at hb
      have e1 := Nat.eq_of_beq_eq_true hb.1
      have e2 := beqL_eq (beqV_eq 6) hb.2
      obtain ⟨g, ys, u⟩ := q
      simp only at e1 e2
      subst e1; subst e2
      exact hT _ List.mem_cons_self
theorem same_rel {r : Nat → Option (Nat × Nat)} {M : Mem} {w w' : World} (hM : MR r M w) (h : Below w.heap.size w w') : MR r M w' ∧ Stp r M w r M w' := by
  refine ⟨⟨fun i cs hl => ?_, hM.inj, hM.bound, hM.glob, fun i o hl => ?_, hM.injO⟩, ⟨fun _ _ h => h, rfl, Nat.le_refl _, fun _ cs h _ => ⟨cs, h⟩, h.os, h.tape, h.output, h.size, fun k hk _ _ => h.block k hk, fun i cs g h1 h2 h3 _ => ⟨i, cs, g, h1, h2, h3, rfl⟩, rfl, fun i o g h1 h2 _ => ⟨i, o, g, h1, h2, rfl⟩⟩⟩
  · obtain ⟨g, t, cc, h1, h2, h3⟩ := hM.blk i cs hl
    exact ⟨g, t, cc, h1, by rw [h.block g.1 (hM.lt hl h1)]; exact h2, h3⟩
  · obtain ⟨g, x, h1, h2, h3⟩ := hM.obj i o hl
    exact ⟨g, x, h1, by rw [h.block g.1 (hM.ltO hl h1)]; exact h2, h3⟩

/-! ### One operation, a call or not. -/
def opE (P : Program) (T : Tab) (self : Self) (env : Env) (M : Mem) (o : Oper) : Option CR := match calleeA P env o with
  | some (f, fn, b, xs) => match lookT T f xs with
    | some v => some (.ret v M)
    | none => (match env with | ⟨_, _, gs, _, _⟩ => callE P self gs fn b xs M)
  | none => match opT P env M o with
    | some (v, M') => some (.ret v M')
    | none => match panicA env o with
      | some v => some (.pan [{ v, recovered := false }] M)
      | none => none
theorem opE_run {P : Program} (hN : noRoutines P) {G : List (Nat × List Value)} {T : Tab} (hT : TOk P G T) {self : Self} (hself : SelfOk P G self) {env : Env} {M : Mem} {o : Oper} {c : CR} {r : Nat → Option (Nat × Nat)} {a : Act} {w : World} (h : opE P T self env M o = some c)
    (he : ER r env a.tmps) (hM : MR r M w) (hG : M.gl = G) :
    (∃ v M' r' v' w', c = .ret v M' ∧ Out P (execOp a.eval o) w r M v M' r' v' w') ∨ (∃ f ys, (execOp a.eval o).run P w = .ok (.enter f ys) w ∧ Calls P f ys w (Gives r M w c)) ∨ ∃ v, c = .pan [{ v, recovered := false }] M ∧ (execOp a.eval o).run P w = .halt (.panic v) w := by
  unfold opE at h
  cases hc : calleeA P env o with
  | some q =>
    obtain ⟨f, fn, b, xs⟩ := q
    rw [hc] at h
    obtain ⟨ys, h1, h2, h3, h4⟩ := callee_sound hN w hc he
    refine .inr (.inl ⟨f, ys.toArray, h1, ?_⟩)
    simp only at h
    cases hk : lookT T f xs with
    | some u =>
      rw [hk] at h; cases h
      obtain ⟨k1, k2, k3⟩ := lookT_sound hT hk
      rw [h2.eq k1]
      refine (k3 w (by rw [← hG]; exact hM.gl)).mono fun e w' ⟨he', hb⟩ => ?_
      subst he'
      obtain ⟨s1, s2⟩ := same_rel hM hb
      exact ⟨_, r, rfl, .same 4 _ k2, s1, s2⟩
    | none =>
      rw [hk] at h
      exact call_sound hN hself h3 h4 h2 hM hG he.3 h
  | none =>
    rw [hc] at h
    simp only at h
    cases ht : opT P env M o with
    | some q =>
      obtain ⟨v, M'⟩ := q
      rw [ht] at h; cases h
      obtain ⟨r', v', w', ho⟩ := opT_sound ht he hM
      exact .inl ⟨v, M', r', v', w', rfl, ho⟩
    | none =>
      rw [ht] at h
      simp only at h
      cases hp : panicA env o with
      | none => rw [hp] at h; cases h
      | some v =>
        rw [hp] at h; cases h
        exact .inr (.inr ⟨v, rfl, (panicA_sound w hp he).1⟩)
theorem opE_soundIn {P : Program} (hN : noRoutines P) {G : List (Nat × List Value)} {T : Tab} (hT : TOk P G T) {self : Self} (hself : SelfOk P G self) {env : Env} {M : Mem} {o : Oper} {c : CR} {r : Nat → Option (Nat × Nat)} {a : Act} {w : World} (ro : Option Nat) (h : opE P T self env M o = some c)
    (hnd : ∀ c, o.op ≠ .defer c) (he : ER r env a.tmps) (hM : MR r M w) (hG : M.gl = G) {K : Act → World → Prop} {Q : Exit → Act → World → Prop}
    (hK : ∀ v M' r' v' w', c = .ret v M' → VR r' v v' → MR r' M' w' → Stp r M w r' M' w' → K (a.put o.dst v') w') (hP : ∀ ch M' r' w', c = .pan ch M' → MR r' M' w' → Stp r M w r' M' w' → Q (.panic ch) a w') : o.wpIn (FR ro) 0 P a w K Q := by
  refine ⟨fun _ _ => trivial, ?_⟩
  rw [Oper.semAt_eq _ _ _ hnd]
  rcases opE_run hN hT hself h he hM hG with ⟨v, M', r', v', w', rfl, ho⟩ | ⟨f, ys, hrun, hcall⟩ | ⟨v, rfl, hrun⟩
  · rcases ho.run with h1 | ⟨h1, h2⟩
    · rw [h1]; exact hK v M' r' v' w' rfl ho.val ho.mem ho.stp
    · rw [h1]; subst h2; exact hK v M' r' _ w' rfl ho.val ho.mem ho.stp
  · rw [hrun]
    refine ⟨fun hn => (by cases hn), ?_⟩
    have hc := (callsIn_wide (n := 0)).2 (hcall.mono (R' := fun
      | .returned v, w'' => K (a.put o.dst v) w''
      | .panicked chain, w'' => Q (.panic chain) a w''
      | .outgrown, _ => LetsOut Q) fun e w' hg => by
        cases c with
        | ret v M' => obtain ⟨v', r', rfl, h2, h3, h4⟩ := hg; exact hK v M' r' v' w' rfl h2 h3 h4
        | pan ch M' => obtain ⟨rfl, r', h3, h4⟩ := hg; exact hP ch M' r' w' rfl h3 h4)
    exact hc
  · rw [hrun]
    exact hP _ M r w rfl hM (.refl _ _ _)
/-- Where a region draws its order: an operation that gives a value. -/
def opV (P : Program) (T : Tab) (self : Self) (env : Env) (M : Mem) (o : Oper) : Option (Value × Mem) := match opE P T self env M o with
  | some (.ret v M') => some (v, M')
  | _ => none
theorem opV_sound {P : Program} (hN : noRoutines P) {G : List (Nat × List Value)} {T : Tab} (hT : TOk P G T) {self : Self} (hself : SelfOk P G self) {env : Env} {M M' : Mem} {o : Oper} {v : Value} {r : Nat → Option (Nat × Nat)} {a : Act} {w : World} (h : opV P T self env M o = some (v, M'))
    (he : ER r env a.tmps) (hM : MR r M w) (hG : M.gl = G) {K : Act → World → Prop} {Q : Exit → Act → World → Prop} (hK : ∀ r' v' w', VR r' v v' → MR r' M' w' → Stp r M w r' M' w' → K (a.put o.dst v') w') : o.wp P a w K Q := by
  unfold opV at h
  split at h
  case h_2 => cases h
  rename_i u M2 hq
  cases h
  unfold Oper.wp
  rcases opE_run hN hT hself hq he hM hG with ⟨v, M', r', v', w', e, ho⟩ | ⟨f, ys, hrun, hcall⟩ | ⟨v, e, hrun⟩
  · cases e
    rcases ho.run with h1 | ⟨h1, h2⟩
    · rw [h1]; exact hK r' v' w' ho.val ho.mem ho.stp
    · rw [h1]; subst h2; exact hK r' _ w' ho.val ho.mem ho.stp
  · rw [hrun]
    refine hcall.mono fun e w' ⟨v', r', he', hv, hm, hs⟩ => ?_
    subst he'
    exact hK r' v' w' hv hm hs
  · cases e
end Ev
end Go.Proofs.YtcgkjpmaiglcmabGreatDoor
